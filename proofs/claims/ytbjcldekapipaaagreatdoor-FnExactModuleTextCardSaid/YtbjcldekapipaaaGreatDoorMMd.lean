/-
  ModP, ModI, ModQ: in one text.
-/
import Derived.Test.YtbjcldekapipaaaGreatDoorMSh
import Derived.Test.YtbjcldekapipaaaGreatDoorBodyB
import Derived.Test.YtbjcldekapipaaaGreatDoorMSc
namespace Go.Proofs.YtbjcldekapipaaaGreatDoor
open Go.ChangeShapes Go.WideShapes Go.ChangeAt Go.RowKit Go.Deep

def putL (n : Int) : ByteArray := strOfNums (lebU n.toNat)
def bitB (b : Bool) : ByteArray := if b = true then ⟨#[1]⟩ else ⟨#[0]⟩
def catF {α : Type} (f : α → ByteArray) : List α → ByteArray
  | [] => ⟨#[]⟩
  | x :: xs => f x ++ catF f xs
theorem catF_snoc {α : Type} (f : α → ByteArray) : ∀ (xs : List α) (x : α), catF f (xs ++ [x]) = catF f xs ++ f x
  | [], x => by
    show f x ++ ⟨#[]⟩ = ⟨#[]⟩ ++ f x
    rw [app_nil, nil_app]
  | y :: xs, x => by
    show f y ++ catF f (xs ++ [x]) = (f y ++ catF f xs) ++ f x
    rw [catF_snoc f xs x, ByteArray.append_assoc]
/-- Some bytes first, then those of the first so many. -/
def runTo {α : Type} (s : ByteArray) (f : α → ByteArray) (xs : List α) (k : Nat) : ByteArray := s ++ catF f (xs.take k)
theorem runTo_step {α : Type} {s : ByteArray} {f : α → ByteArray} {xs : List α} {k : Nat} {x : α} (h : xs[k]? = some x) : runTo s f xs k ++ f x = runTo s f xs (k + 1) := by
  obtain ⟨hk, rfl⟩ := List.getElem?_eq_some_iff.1 h
  unfold runTo
  rw [List.take_succ_eq_append_getElem hk, catF_snoc, ByteArray.append_assoc]
theorem runTo_zero {α : Type} (s : ByteArray) (f : α → ByteArray) (xs : List α) : runTo s f xs 0 = s := by
  unfold runTo
  rw [List.take_zero]
  exact app_nil _
theorem runTo_size {α : Type} {s : ByteArray} {f : α → ByteArray} {xs : List α} {B : Nat} (hB : ∀ (i : Nat) (x : α), xs[i]? = some x → (f x).size ≤ B) : ∀ k, k ≤ xs.length → (runTo s f xs k).size ≤ s.size + k * B
  | 0, _ => by rw [runTo_zero]; omega
  | k + 1, h => by
    have h1 := runTo_size (s := s) hB k (by omega)
    have hx := List.getElem?_eq_getElem (show k < xs.length by omega)
    have h2 := congrArg ByteArray.size (runTo_step (s := s) (f := f) hx)
    rw [ByteArray.size_append] at h2
    have h3 := hB k _ hx
    rw [Nat.add_mul]
    omega
theorem putL_size {n : Int} (h1 : n ≤ 9223372036854775807) : (putL n).size ≤ 10 := uleb_size _ (by omega)
theorem bitB_size (b : Bool) : (bitB b).size = 1 := by cases b <;> rfl
/-- What a section says of an import or a core. -/
def sigB (s : ByteArray) (r : Bool) (ps : List Int) : ByteArray := runTo (putB s) putL ps ps.length ++ bitB r
def imB (y : Im) : ByteArray := sigB y.name y.result [y.params]
def coB (y : Co) : ByteArray := sigB y.name y.result [y.params, y.locals]
def cdB (y : Co) : ByteArray := putB (bodyA y.code)
theorem imB_flat (T : ByteArray) (y : Im) : ((T ++ putB y.name) ++ putL y.params) ++ bitB y.result = T ++ imB y := by
  have e : imB y = (putB y.name ++ (putL y.params ++ ⟨#[]⟩)) ++ bitB y.result := rfl
  rw [e, app_nil]
  simp only [ByteArray.append_assoc]
theorem coB_flat (T : ByteArray) (y : Co) : (((T ++ putB y.name) ++ putL y.params) ++ putL y.locals) ++ bitB y.result = T ++ coB y := by
  have e : coB y = (putB y.name ++ (putL y.params ++ (putL y.locals ++ ⟨#[]⟩))) ++ bitB y.result := rfl
  rw [e, app_nil]
  simp only [ByteArray.append_assoc]
theorem imV_parts {y : Im} (h : imV y = true) : y.name.size ≤ 40 ∧ 0 ≤ y.params ∧ y.params ≤ 8 := by
  unfold imV wordV at h
  simp only [Bool.and_eq_true, decide_eq_true_iff] at h
  omega
theorem coV_parts {y : Co} (h : coV y = true) : y.name.size ≤ 40 ∧ (0 ≤ y.params ∧ y.params ≤ 8) ∧ (0 ≤ y.locals ∧ y.locals ≤ 8) ∧ y.code.length ≤ 120 ∧ y.code.all inV = true := by
  unfold coV wordV at h
  simp only [Bool.and_eq_true, decide_eq_true_iff] at h
  exact ⟨h.1.1.2, h.2.1, h.2.2.1, h.2.2.2.1, h.2.2.2.2⟩
theorem bodyA_size {xs : List In} (hl : xs.length ≤ 1048576) : (bodyA xs).size ≤ 1400 := by
  by_cases h : xs.length ≤ 120
  · by_cases hb : BadE inV xs xs.length
    · rw [bodyA_bad hb]
      exact Nat.zero_le _
    · rw [bodyA_good h hb]
      exact bodyTo_size hl h hb
  · rw [bodyA_long h]
    exact Nat.zero_le _
theorem sigB_size {s : ByteArray} {r : Bool} {ps : List Int} (hs : s.size ≤ 40) (hp : ∀ (i : Nat) (p : Int), ps[i]? = some p → p ≤ 8) : (sigB s r ps).size ≤ 51 + ps.length * 10 := by
  unfold sigB
  rw [ByteArray.size_append, bitB_size]
  have h1 := runTo_size (s := putB s) (f := putL) (B := 10) (fun i p h => putL_size (by have := hp i p h; omega)) ps.length (Nat.le_refl _)
  have h2 := putB_size s (by omega)
  omega
theorem imB_size {y : Im} (h : imV y = true) : (imB y).size ≤ 61 := by
  obtain ⟨h1, h2, h3⟩ := imV_parts h
  refine sigB_size h1 (fun i p hp => ?_)
  match i with
  | 0 => cases hp; omega
  | i + 1 => cases hp
theorem coB_size {y : Co} (h : coV y = true) : (coB y).size ≤ 71 := by
  obtain ⟨h1, h2, h3, _⟩ := coV_parts h
  refine sigB_size h1 (fun i p hp => ?_)
  match i with
  | 0 => cases hp; omega
  | 1 => cases hp; omega
  | i + 2 => cases hp
theorem cdB_size {y : Co} (h : y.code.length ≤ 1048576) : (cdB y).size ≤ 1410 := by
  have h1 := bodyA_size h
  have := (putB_size (bodyA y.code) (by omega)).2
  unfold cdB
  omega
def impTo (x : Mo) (k : Nat) : ByteArray := runTo (putL x.imports.length) imB x.imports k
def corTo (x : Mo) (k : Nat) : ByteArray := runTo (putL x.cores.length) coB x.cores k
def codTo (x : Mo) (k : Nat) : ByteArray := runTo (putL x.cores.length) cdB x.cores k
/-- The four sections. -/
def secsOf (x : Mo) : List Sc := [⟨1, ByteArray.empty, putL x.pages⟩, ⟨2, ByteArray.empty, impTo x x.imports.length⟩, ⟨3, ByteArray.empty, corTo x x.cores.length⟩, ⟨4, ByteArray.empty, codTo x x.cores.length⟩]
/-- The answer. -/
noncomputable def modA (x : Mo) : ByteArray := if shapeV x = true then secTo (secsOf x) 4 else ⟨#[]⟩
theorem all_at {α : Type} {v : α → Bool} {xs : List α} (h : xs.all v = true) {i : Nat} {x : α} (hx : xs[i]? = some x) : v x = true := List.all_eq_true.mp h x (List.mem_of_getElem? hx)
structure ModS (x : Mo) : Prop where
  pages : 0 ≤ x.pages ∧ x.pages ≤ 16
  il : x.imports.length ≤ 12
  cl : x.cores.length ≤ 8
  im : ∀ (i : Nat) (y : Im), x.imports[i]? = some y → imV y = true
  co : ∀ (i : Nat) (y : Co), x.cores[i]? = some y → coV y = true
theorem ModS.of {x : Mo} (h : ShapeP x) : ModS x := ⟨by have := h.1; omega, h.2.1, h.2.2.1, fun _ _ hy => all_at h.2.2.2.1 hy, fun _ _ hy => all_at h.2.2.2.2.1 hy⟩
theorem ModS.impTo_size {x : Mo} (h : ModS x) {k : Nat} (hk : k ≤ x.imports.length) : (impTo x k).size ≤ 750 := by
  have h1 := runTo_size (s := putL x.imports.length) (f := imB) (B := 61) (fun i y hy => imB_size (h.im i y hy)) k hk
  have h2 := putL_size (n := x.imports.length) (by have := h.il; omega)
  have := h.il
  unfold impTo
  omega
theorem ModS.corTo_size {x : Mo} (h : ModS x) {k : Nat} (hk : k ≤ x.cores.length) : (corTo x k).size ≤ 600 := by
  have h1 := runTo_size (s := putL x.cores.length) (f := coB) (B := 71) (fun i y hy => coB_size (h.co i y hy)) k hk
  have h2 := putL_size (n := x.cores.length) (by have := h.cl; omega)
  have := h.cl
  unfold corTo
  omega
theorem ModS.codTo_size {x : Mo} (h : ModS x) {k : Nat} (hk : k ≤ x.cores.length) : (codTo x k).size ≤ 11300 := by
  have h1 := runTo_size (s := putL x.cores.length) (f := cdB) (B := 1410) (fun i y hy => cdB_size (by have := (coV_parts (h.co i y hy)).2.2.2.1; omega)) k hk
  have h2 := putL_size (n := x.cores.length) (by have := h.cl; omega)
  have := h.cl
  unfold codTo
  omega
theorem secV_plain {x : Sc} (h : 1 ≤ x.id ∧ x.id ≤ 4) (hn : x.name.size = 0) : secV x = true := by
  unfold secV
  rw [if_neg (by omega), decide_eq_true h, decide_eq_true hn]
  rfl
theorem ModS.secs {x : Mo} (h : ModS x) : ∀ (i : Nat) (s : Sc), (secsOf x)[i]? = some s → secV s = true ∧ s.bytes.size ≤ 11300 ∧ s.wt ≤ 1048576 := fun i s hs => by
  have h0 := putL_size (n := x.pages) (by have := h.pages; omega)
  have h1 := h.impTo_size (Nat.le_refl _)
  have h2 := h.corTo_size (Nat.le_refl _)
  have h3 := h.codTo_size (Nat.le_refl _)
  have hz : ByteArray.empty.size = 0 := rfl
  match i with
  | 0 => cases hs; refine ⟨secV_plain ⟨by show (1 : Int) ≤ 1; omega, by show (1 : Int) ≤ 4; omega⟩ rfl, by show (putL x.pages).size ≤ 11300; omega, ?_⟩; show ((ByteArray.empty.size : Nat) : Int) + ((putL x.pages).size : Int) ≤ 1048576; omega
  | 1 => cases hs; refine ⟨secV_plain ⟨by show (1 : Int) ≤ 2; omega, by show (2 : Int) ≤ 4; omega⟩ rfl, by show (impTo x x.imports.length).size ≤ 11300; omega, ?_⟩; show ((ByteArray.empty.size : Nat) : Int) + ((impTo x x.imports.length).size : Int) ≤ 1048576; omega
  | 2 => cases hs; refine ⟨secV_plain ⟨by show (1 : Int) ≤ 3; omega, by show (3 : Int) ≤ 4; omega⟩ rfl, by show (corTo x x.cores.length).size ≤ 11300; omega, ?_⟩; show ((ByteArray.empty.size : Nat) : Int) + ((corTo x x.cores.length).size : Int) ≤ 1048576; omega
  | 3 => cases hs; refine ⟨secV_plain ⟨by show (1 : Int) ≤ 4; omega, by show (4 : Int) ≤ 4; omega⟩ rfl, by show (codTo x x.cores.length).size ≤ 11300; omega, ?_⟩; show ((ByteArray.empty.size : Nat) : Int) + ((codTo x x.cores.length).size : Int) ≤ 1048576; omega
  | i + 4 => cases hs
/-- They are within all limits. -/
theorem ModS.answer {x : Mo} (h : ModS x) : secA (secsOf x) = secTo (secsOf x) 4 := by
  have hl : (secsOf x).length = 4 := rfl
  refine secA_good (by omega) (fun ⟨i, s, _, hs, hv⟩ => by rw [(h.secs i s hs).1] at hv; cases hv) ?_
  have hst : ∀ (k : Nat) (s : Sc), (secsOf x)[k]? = some s → (secTo (secsOf x) (k + 1)).size ≤ (secTo (secsOf x) k).size + s.bytes.size + 61 := fun k s hs => by
    have e := congrArg ByteArray.size (secTo_step hs)
    rw [ByteArray.size_append] at e
    obtain ⟨a, b, _⟩ := h.secs k s hs
    have := (secB_size a (by omega)).2
    omega
  have z : (secTo (secsOf x) 0).size = 5 := by rw [secTo_zero]; rfl
  have e0 : (secTo (secsOf x) 1).size ≤ (secTo (secsOf x) 0).size + (putL x.pages).size + 61 := hst 0 _ rfl
  have e1 : (secTo (secsOf x) 2).size ≤ (secTo (secsOf x) 1).size + (impTo x x.imports.length).size + 61 := hst 1 _ rfl
  have e2 : (secTo (secsOf x) 3).size ≤ (secTo (secsOf x) 2).size + (corTo x x.cores.length).size + 61 := hst 2 _ rfl
  have e3 : (secTo (secsOf x) 4).size ≤ (secTo (secsOf x) 3).size + (codTo x x.cores.length).size + 61 := hst 3 _ rfl
  have h0 := putL_size (n := x.pages) (by have := h.pages; omega)
  have h1 := h.impTo_size (Nat.le_refl _)
  have h2 := h.corTo_size (Nat.le_refl _)
  have h3 := h.codTo_size (Nat.le_refl _)
  rw [hl]
  omega
theorem moFin {x : Mo} (hf : x.Fin) {i : Nat} {y : Co} (hy : x.cores[i]? = some y) : ∀ z ∈ y.code, z.Fin := (hf.2.2.2 y (List.mem_of_getElem? hy)).2.2.2.2
theorem specPutL_any (n : Int) (h0 : 0 ≤ n) (h1 : n ≤ 9223372036854775807) (w : World) : Calls Tryz.prog 51 #[.int .i64 n] w fun e w' => e = .returned (.string (putL n)) ∧ Below w.heap.size w w' := by
  have h := specPutLeb_any n.toNat w (by omega)
  rwa [Int.toNat_of_nonneg h0] at h
theorem implPutL_any (n : Int) (h0 : 0 ≤ n) (h1 : n ≤ 9223372036854775807) (w : World) : Calls Tryz.prog 27 #[.int .i64 n] w fun e w' => e = .returned (.string (putL n)) ∧ Below w.heap.size w w' := by
  have h := implPutLeb_any n.toNat w (by omega)
  rwa [Int.toNat_of_nonneg h0] at h
theorem l17Bit_any (b : Bool) (w : World) : Calls Tryz.prog 53 #[.bool b] w fun e w' => e = .returned (.string (bitB b)) ∧ Below w.heap.size w w' := by
  cases b with
  | false =>
    go_enter Tryz.func53, Tryz.ntmps53
    go_wp2
    go_ret
    exact ⟨rfl, Below.refl _ _⟩
  | true =>
    go_enter Tryz.func53, Tryz.ntmps53
    go_wp2
    go_ret
    exact ⟨rfl, Below.refl _ _⟩
theorem oneIf_any (b : Bool) (w : World) : Calls Tryz.prog 38 #[.bool b] w fun e w' => e = .returned (.int .i64 (if b = true then 1 else 0)) ∧ Below w.heap.size w w' := by
  cases b with
  | false =>
    go_enter Tryz.func38, Tryz.ntmps38
    go_wp2
    go_ret
    exact ⟨rfl, Below.refl _ _⟩
  | true =>
    go_enter Tryz.func38, Tryz.ntmps38
    go_wp2
    go_ret
    exact ⟨rfl, Below.refl _ _⟩
theorem fixBit_any (b : Bool) (w : World) : Calls Tryz.prog 67 #[.int .i64 (if b = true then 1 else 0), .int .i64 1] w fun e w' => e = .returned (.string (bitB b)) ∧ Below w.heap.size w w' := by
  have h := implPutFix_any (if b = true then 1 else 0) 1 w (by omega) (by split <;> omega) (by split <;> omega)
  have e : strOfNums (fixl (if b = true then 1 else 0) 1) = bitB b := by cases b <;> rfl
  rw [e] at h
  exact h

set_option maxHeartbeats 1000000 in
theorem sig_any (s : ByteArray) (hs : s.size ≤ 40) (r : Bool) (ps : List Int) (hl : ps.length ≤ 4) (hp : ∀ (i : Nat) (p : Int), ps[i]? = some p → 0 ≤ p ∧ p ≤ 8) (g c : Nat) (w : World) (h : ∀ (i : Nat) (p : Int), ps[i]? = some p → w.cell? ⟨g, i, none⟩ = some (.int .i64 p)) :
    Calls Tryz.prog 28 #[.string s, .bool r, .slice (some ⟨g, 0, none⟩) ps.length c] w fun e w' => e = .returned (.string (sigB s r ps)) ∧ Below w.heap.size w w' := by
  have H := Lib.hid h
  have HP := Lib.hid hp
  have HS := Lib.hid hs
  have CN := Lib.hid (fun W => implPutB_any s (by omega) W)
  have CO := Lib.hid (fun W => oneIf_any r W)
  have CF := Lib.hid (fun W => fixBit_any r W)
  have hsb := (putB_size s (by omega)).2
  have hlm : (ps.length : Int) ≤ 4 := by omega
  have HA : Hid (sigB s r ps = runTo (putB s) putL ps ps.length ++ bitB r) := Lib.hid rfl
  have hbs := bitB_size r
  generalize (if r = true then (1 : Int) else 0) = V at *
  generalize bitB r = BB at *
  generalize sigB s r ps = A at *
  have hsz : ∀ k, k ≤ ps.length → (runTo (putB s) putL ps k).size ≤ 50 + k * 10 := fun k hk => by
    have := runTo_size (s := putB s) (f := putL) (xs := ps) (B := 10) (fun i p hip => putL_size (by have := hp i p hip; omega)) k hk
    omega
  have HZ := Lib.hid hsz
  clear h hp hs hsz
  rw [← runTo_zero (putB s) putL ps] at CN
  go_enter Tryz.func28, Tryz.ntmps28
  go_wp2_with (go_at_call 29; (with_reducible refine (CN.out _).mono ?_); rintro e w1 ⟨rfl, h1⟩; have HB1 := Lib.hid h1; clear h1)
  go_loopw [7, 14] (fun t i wr => ∃ k : Nat, k ≤ ps.length ∧ t = .string (runTo (putB s) putL ps k) ∧ i = .int .i64 k ∧ Below w.heap.size w wr) (fun _ i _ => ps.length - (intOf i).toNat)
  case atStart => exact ⟨0, Nat.zero_le _, rfl, rfl, HB1.out⟩
  case round =>
    obtain ⟨k, hk, rfl, rfl, hbel⟩ := hrel
    have hz := HZ.out k hk
    by_cases hlt : k < ps.length
    · have hpk := List.getElem?_eq_getElem hlt
      have hcell := keepCell hbel (H.out k _ hpk)
      have HSt := Lib.hid (runTo_step (s := putB s) (f := putL) hpk)
      have hpb := HP.out k _ hpk
      generalize ps[k] = p at *
      have CL := Lib.hid (fun W => implPutL_any p hpb.1 (by omega) W)
      have hpz := putL_size (n := p) (by omega)
      generalize putL p = L at *
      generalize runTo (putB s) putL ps k = T at *
      have HB := Lib.hid hbel
      have hz1 : ¬ (9223372036854775807 < T.size + L.size) := by omega
      clear hbel hpk hpb
      go_wp2_with (go_at_call 27; (with_reducible refine (CL.out _).mono ?_); rintro e w2 ⟨rfl, h2⟩; have HB2 := Lib.hid (bnext HB.out h2); clear h2)
      go_roundw
      case rel => exact ⟨k + 1, by omega, by rw [HSt.out], by go_num, HB2.out⟩
      case measure => simp [intOf]; omega
    · obtain rfl : k = ps.length := by omega
      have HB := Lib.hid hbel
      clear hbel
      generalize runTo (putB s) putL ps ps.length = T at *
      have hz1 : ¬ (9223372036854775807 < T.size + BB.size) := by omega
      clear hbs
      go_wp2_with (first
        | (go_at_call 38; (with_reducible refine (CO.out _).mono ?_); rintro e w2 ⟨rfl, h2⟩; have HB2 := Lib.hid (bnext HB.out h2); clear h2)
        | (go_at_call 67; (with_reducible refine (CF.out _).mono ?_); rintro e w3 ⟨rfl, h3⟩; have HB3 := Lib.hid (bnext HB2.out h3); clear h3))
      go_ret
      exact ⟨by rw [HA.out]; rfl, HB3.out⟩
end Go.Proofs.YtbjcldekapipaaaGreatDoor

namespace Go.Proofs.YtbjcldekapipaaaGreatDoor
open Go.ChangeShapes Go.WideShapes Go.ChangeAt Go.RowKit Go.Deep

theorem secs_row (x : Mo) (W : World) (ty : TypeId) : Scs (W.alloc (.cells #[.int .i64 1, .string ByteArray.empty, .string (putL x.pages), .int .i64 2, .string ByteArray.empty, .string (impTo x x.imports.length), .int .i64 3, .string ByteArray.empty, .string (corTo x x.cores.length), .int .i64 4, .string ByteArray.empty, .string (codTo x x.cores.length)] ty)) W.heap.size (secsOf x) (some ⟨W.heap.size, 0, none⟩) := fun _ => by
  refine ⟨W.heap.size, 0, rfl, Nat.le_refl _, fun i s hs => ?_⟩
  match i with
  | 0 => cases hs; exact ⟨(World.cell?_alloc_new W _ _ 0).trans rfl, (World.cell?_alloc_new W _ _ 1).trans rfl, (World.cell?_alloc_new W _ _ 2).trans rfl, Nat.le_refl _⟩
  | 1 => cases hs; exact ⟨(World.cell?_alloc_new W _ _ 3).trans rfl, (World.cell?_alloc_new W _ _ 4).trans rfl, (World.cell?_alloc_new W _ _ 5).trans rfl, Nat.le_refl _⟩
  | 2 => cases hs; exact ⟨(World.cell?_alloc_new W _ _ 6).trans rfl, (World.cell?_alloc_new W _ _ 7).trans rfl, (World.cell?_alloc_new W _ _ 8).trans rfl, Nat.le_refl _⟩
  | 3 => cases hs; exact ⟨(World.cell?_alloc_new W _ _ 9).trans rfl, (World.cell?_alloc_new W _ _ 10).trans rfl, (World.cell?_alloc_new W _ _ 11).trans rfl, Nat.le_refl _⟩
  | i + 4 => cases hs

set_option maxHeartbeats 4000000 in
set_option maxRecDepth 100000 in
theorem implModuleBytes_yes (x : Mo) (hx : x.wt ≤ 1048576) (hf : x.Fin) (Rimports : Option Addr) (cimports : Nat) (Rcores : Option Addr) (ccores : Nat) (lo : Nat) (w : World) (h : Mo.At w lo x Rimports Rcores) (ht : OpTab w) (hP : shapeV x = true) :
    Calls Tryz.prog 9 #[.agg #[.int .i64 x.pages, .slice Rimports x.imports.length cimports, .slice Rcores x.cores.length ccores]] w fun e w' => e = .returned (.string (secTo (secsOf x) 4)) ∧ Below w.heap.size w w' := by
  have hM := ModS.of ((shapeV_iff x).mp hP)
  have CM := (fun W (hb : Below w.heap.size w W) => implModuleShape2_any x hx hf Rimports cimports Rcores ccores lo W (h.below hb) (ht.keep hb))
  rw [hP] at CM
  have CM := Lib.hid CM
  have hil := hM.il
  have hcl := hM.cl
  have hpg := hM.pages
  have CLi : Hid (∀ W, Calls Tryz.prog 27 #[.int .i64 (x.imports.length : Int)] W fun e w' => e = .returned (.string (impTo x 0)) ∧ Below W.heap.size W w') := Lib.hid (fun W => by
    have hh := implPutL_any (x.imports.length : Int) (by omega) (by omega) W
    rw [← runTo_zero (putL x.imports.length) imB x.imports] at hh
    exact hh)
  have CLc := Lib.hid (fun W => implPutL_any (x.cores.length : Int) (by omega) (by omega) W)
  have CLp := Lib.hid (fun W => implPutL_any x.pages (by omega) (by omega) W)
  have CS : Hid (∀ (A : Option Addr) (c l : Nat) (W : World), Scs W l (secsOf x) A → Calls Tryz.prog 31 #[.slice A 4 c] W fun e w' => e = .returned (.string (secTo (secsOf x) 4)) ∧ Below W.heap.size W w') := Lib.hid (fun A c l W hA => by
    have hh := implSectionBytes_any (secsOf x) (by show 4 ≤ 1048576; omega) (fun i s hs => (hM.secs i s hs).2.2) A c l W hA
    rw [hM.answer] at hh
    exact hh)
  have H := Lib.hid h
  have HT := Lib.hid ht
  have HM := Lib.hid hM
  have hili : (x.imports.length : Int) ≤ 12 := by omega
  have hcli : (x.cores.length : Int) ≤ 8 := by omega
  have HWC : Hid (∀ (i : Nat) (y : Co), x.cores[i]? = some y → y.code.length ≤ 1048576) := Lib.hid (fun i y hy => by have := (coV_parts (hM.co i y hy)).2.2.2.1; omega)
  generalize hA : secTo (secsOf x) 4 = A at *
  clear h ht hM hf hx hP hA
  go_enter Tryz.func9, Tryz.ntmps9
  go_wp2_with (first
    | (go_at_call 26; (with_reducible refine (CM.out _ (below1 _ _)).mono ?_); rintro e w1 ⟨rfl, h1⟩; have HB1 := Lib.hid (bnext (below1 _ _) h1); have m0 := keepCell (a := ⟨w.heap.size, 0, none⟩) (v := .int .i64 x.pages) h1 (by go_simp); have m1 := keepCell (a := ⟨w.heap.size, 1, none⟩) (v := .slice Rimports x.imports.length cimports) h1 (by go_simp); have m2 := keepCell (a := ⟨w.heap.size, 2, none⟩) (v := .slice Rcores x.cores.length ccores) h1 (by go_simp); clear h1)
    | (go_at_call 27; (with_reducible refine (CLi.out _).mono ?_); rintro e w2 ⟨rfl, h2⟩; have HB2 := Lib.hid (bnext HB1.out h2); replace m0 := keepCell h2 m0; replace m1 := keepCell h2 m1; replace m2 := keepCell h2 m2; clear h2))
  go_loopw [3, 20] (fun s i wr => ∃ k : Nat, k ≤ x.imports.length ∧ s = .string (impTo x k) ∧ i = .int .i64 k ∧ (wr.cell? ⟨w.heap.size, 0, none⟩ = some (.int .i64 x.pages) ∧ wr.cell? ⟨w.heap.size, 1, none⟩ = some (.slice Rimports x.imports.length cimports) ∧ wr.cell? ⟨w.heap.size, 2, none⟩ = some (.slice Rcores x.cores.length ccores)) ∧ Below w.heap.size w wr) (fun _ i _ => x.imports.length - (intOf i).toNat)
  case atStart => exact ⟨0, Nat.zero_le _, rfl, rfl, ⟨m0, m1, m2⟩, HB2.out⟩
  case round =>
    clear m0 m1 m2
    obtain ⟨k, hk, rfl, rfl, ⟨m0, m1, m2⟩, hbel⟩ := hrel
    by_cases hlt : k < x.imports.length
    · obtain ⟨b, o, y, rfl, _, hyk, hc⟩ := (Ims.below H.out.1 hbel).at_ hlt
      obtain ⟨c0_, c1_, c2_, _⟩ := hc
      have hy := HM.out.im k y hyk
      obtain ⟨p1, p2, p3⟩ := imV_parts hy
      have CG : Hid (∀ (g c : Nat) (W : World), W.cell? ⟨g, 0, none⟩ = some (.int .i64 y.params) → Calls Tryz.prog 28 #[.string y.name, .bool y.result, .slice (some ⟨g, 0, none⟩) 1 c] W fun e w' => e = .returned (.string (imB y)) ∧ Below W.heap.size W w') := Lib.hid (fun g c W h0 => sig_any y.name p1 y.result [y.params] (by show 1 ≤ 4; omega) (fun i p hp => by
          match i with
          | 0 => cases hp; omega
          | i + 1 => cases hp) g c W (fun i p hp => by
          match i with
          | 0 => cases hp; exact h0
          | i + 1 => cases hp))
      have z0 := fun O => keepCell (below1 wr O) c0_
      have z1 := fun O => keepCell (below1 wr O) c1_
      have z2 := fun O => keepCell (below1 wr O) c2_
      have hsz := HM.out.impTo_size hk
      have hys := imB_size hy
      have HSt : Hid (impTo x k ++ imB y = impTo x (k + 1)) := Lib.hid (runTo_step hyk)
      have HB := Lib.hid hbel
      have hbs := hbel.size
      clear hyk hbel hy p1 p2 p3
      generalize imB y = I at *
      obtain ⟨T, hT⟩ : ∃ T, impTo x k = T := ⟨_, rfl⟩
      rw [hT] at HSt hsz
      have hz : ¬ (9223372036854775807 < T.size + I.size) := by omega
      simp only [hT]
      clear hT
      go_wp2_with (go_at_call 28; refine (CG.out _ _ _ (by go_simp)).mono ?_; rintro e w4 ⟨rfl, h4⟩; have HB4 := Lib.hid (bnext ((HB.out.alloc hbs _).alloc (by simp; omega) _) h4); replace m0 := keepCell h4 (keepCell (below2 wr _ _) m0); replace m1 := keepCell h4 (keepCell (below2 wr _ _) m1); replace m2 := keepCell h4 (keepCell (below2 wr _ _) m2); clear h4)
      go_roundw
      case rel => exact ⟨k + 1, by omega, by rw [HSt.out], by go_num, ⟨m0, m1, m2⟩, HB4.out⟩
      case measure => simp [intOf]; omega
    · obtain rfl : k = x.imports.length := by omega
      have HB := Lib.hid hbel
      clear hbel
      go_wp2_with (go_at_call 27; (with_reducible refine (CLc.out _).mono ?_); rintro e w5 ⟨rfl, h5⟩; have HB5 := Lib.hid (bnext HB.out h5); replace m0 := keepCell h5 m0; replace m1 := keepCell h5 m1; replace m2 := keepCell h5 m2; clear h5)
      go_loopw [6, 7, 43] (fun s u i wr => ∃ k : Nat, k ≤ x.cores.length ∧ s = .string (corTo x k) ∧ u = .string (codTo x k) ∧ i = .int .i64 k ∧ (wr.cell? ⟨w.heap.size, 0, none⟩ = some (.int .i64 x.pages) ∧ wr.cell? ⟨w.heap.size, 1, none⟩ = some (.slice Rimports x.imports.length cimports) ∧ wr.cell? ⟨w.heap.size, 2, none⟩ = some (.slice Rcores x.cores.length ccores)) ∧ Below w.heap.size w wr) (fun _ _ i _ => x.cores.length - (intOf i).toNat)
      case atStart => exact ⟨0, Nat.zero_le _, by rw [show corTo x 0 = putL x.cores.length from runTo_zero _ _ _], by rw [show codTo x 0 = putL x.cores.length from runTo_zero _ _ _], rfl, ⟨m0, m1, m2⟩, HB5.out⟩
      case round =>
        clear m0 m1 m2
        obtain ⟨k, hk, rfl, rfl, rfl, ⟨m0, m1, m2⟩, hbel⟩ := hrel
        by_cases hlt : k < x.cores.length
        · obtain ⟨b, o, y, Rcode, ccode, rfl, _, hyk, hc⟩ := (Cos.below H.out.2 hbel).at_ hlt
          obtain ⟨c0_, c1_, c2_, c3_, c4_, hat⟩ := hc
          have hy := HM.out.co k y hyk
          obtain ⟨p1, p2, p3, p4, _⟩ := coV_parts hy
          have CG : Hid (∀ (g c : Nat) (W : World), W.cell? ⟨g, 0, none⟩ = some (.int .i64 y.params) → W.cell? ⟨g, 1, none⟩ = some (.int .i64 y.locals) → Calls Tryz.prog 28 #[.string y.name, .bool y.result, .slice (some ⟨g, 0, none⟩) 2 c] W fun e w' => e = .returned (.string (coB y)) ∧ Below W.heap.size W w') := Lib.hid (fun g c W h0 h1 => sig_any y.name p1 y.result [y.params, y.locals] (by show 2 ≤ 4; omega) (fun i p hp => by
              match i with
              | 0 => cases hp; omega
              | 1 => cases hp; omega
              | i + 2 => cases hp) g c W (fun i p hp => by
              match i with
              | 0 => cases hp; exact h0
              | 1 => cases hp; exact h1
              | i + 2 => cases hp))
          have CBd := Lib.hid (fun W (hb : Below wr.heap.size wr W) => implBodyBytes_any y.code (by omega) Rcode ccode lo W (Ins.below hat hb) (HT.out.keep (bnext hbel hb)))
          have hba := bodyA_size (xs := y.code) (by omega)
          have CPb : Hid (∀ W, Calls Tryz.prog 29 #[.string (bodyA y.code)] W fun e w' => e = .returned (.string (cdB y)) ∧ Below W.heap.size W w') := Lib.hid (fun W => implPutB_any (bodyA y.code) (by omega) W)
          have z0 := fun O => keepCell (below1 wr O) c0_
          have z1 := fun O => keepCell (below1 wr O) c1_
          have z2 := fun O => keepCell (below1 wr O) c2_
          have z3 := fun O => keepCell (below1 wr O) c3_
          have z4 := fun O => keepCell (below1 wr O) c4_
          have hsz := HM.out.corTo_size hk
          have hsz2 := HM.out.codTo_size hk
          have hys := coB_size hy
          have hys2 := cdB_size (y := y) (by omega)
          have HSt : Hid (corTo x k ++ coB y = corTo x (k + 1)) := Lib.hid (runTo_step hyk)
          have HSu : Hid (codTo x k ++ cdB y = codTo x (k + 1)) := Lib.hid (runTo_step hyk)
          have HB := Lib.hid hbel
          have hbs := hbel.size
          clear hyk hbel hy p1 p2 p3 p4 hat hba
          generalize coB y = I at *
          generalize cdB y = J at *
          generalize bodyA y.code = Bd at *
          obtain ⟨T, hT⟩ : ∃ T, corTo x k = T := ⟨_, rfl⟩
          obtain ⟨U, hU⟩ : ∃ T, codTo x k = T := ⟨_, rfl⟩
          rw [hT] at HSt hsz
          rw [hU] at HSu hsz2
          have hz : ¬ (9223372036854775807 < T.size + I.size) := by omega
          have hz2 : ¬ (9223372036854775807 < U.size + J.size) := by omega
          simp only [hT, hU]
          clear hT hU
          go_wp2_with (first
            | (go_at_call 28; refine (CG.out _ _ _ (by go_simp) (by go_simp)).mono ?_; rintro e w6 ⟨rfl, h6⟩; have HB6 := Lib.hid (bnext ((HB.out.alloc hbs _).alloc (by simp; omega) _) h6); have HR6 := Lib.hid (bnext (below2 wr _ _) h6); replace m0 := keepCell h6 (keepCell (below2 wr _ _) m0); replace m1 := keepCell h6 (keepCell (below2 wr _ _) m1); replace m2 := keepCell h6 (keepCell (below2 wr _ _) m2); have y4 := keepCell (a := ⟨wr.heap.size, 4, none⟩) (v := .slice Rcode y.code.length ccode) h6 (by go_simp); clear h6)
            | (go_at_call 30; (with_reducible refine (CBd.out _ HR6.out).mono ?_); rintro e w7 ⟨rfl, h7⟩; have HB7 := Lib.hid (bnext HB6.out h7); replace m0 := keepCell h7 m0; replace m1 := keepCell h7 m1; replace m2 := keepCell h7 m2; clear h7)
            | (go_at_call 29; (with_reducible refine (CPb.out _).mono ?_); rintro e w8 ⟨rfl, h8⟩; have HB8 := Lib.hid (bnext HB7.out h8); replace m0 := keepCell h8 m0; replace m1 := keepCell h8 m1; replace m2 := keepCell h8 m2; clear h8))
          go_roundw
          case rel => exact ⟨k + 1, by omega, by rw [HSt.out], by rw [HSu.out], by go_num, ⟨m0, m1, m2⟩, HB8.out⟩
          case measure => simp [intOf]; omega
        · obtain rfl : k = x.cores.length := by omega
          have HB := Lib.hid hbel
          clear hbel
          go_wp2_with (first
            | (go_at_call 27; (with_reducible refine (CLp.out _).mono ?_); rintro e w9 ⟨rfl, h9⟩; have HB9 := Lib.hid (bnext HB.out h9); clear h9)
            | (go_at_call 31; refine (CS.out _ _ _ _ (secs_row x _ _)).mono ?_; rintro e w10 ⟨rfl, h10⟩; have HB10 := Lib.hid (bnext (HB9.out.alloc HB9.out.size _) h10); clear h10))
          go_ret
          exact ⟨rfl, HB10.out⟩
theorem implModuleBytes_any (x : Mo) (hx : x.wt ≤ 1048576) (hf : x.Fin) (Rimports : Option Addr) (cimports : Nat) (Rcores : Option Addr) (ccores : Nat) (lo : Nat) (w : World) (h : Mo.At w lo x Rimports Rcores) (ht : OpTab w) :
    Calls Tryz.prog 9 #[.agg #[.int .i64 x.pages, .slice Rimports x.imports.length cimports, .slice Rcores x.cores.length ccores]] w fun e w' => e = .returned (.string (modA x)) ∧ Below w.heap.size w w' := by
  unfold modA
  by_cases hP : shapeV x = true
  · rw [if_pos hP]
    exact implModuleBytes_yes x hx hf Rimports cimports Rcores ccores lo w h ht hP
  · rw [if_neg hP]
    have CM := (fun W (hb : Below w.heap.size w W) => implModuleShape2_any x hx hf Rimports cimports Rcores ccores lo W (h.below hb) (ht.keep hb))
    rw [Bool.eq_false_iff.mpr hP] at CM
    have CM := Lib.hid CM
    clear h ht hf hx hP
    go_enter Tryz.func9, Tryz.ntmps9
    go_wp2_with (go_at_call 26; (with_reducible refine (CM.out _ (below1 _ _)).mono ?_); rintro e w1 ⟨rfl, h1⟩; have HB1 := Lib.hid (bnext (below1 _ _) h1); clear h1)
    go_ret
    exact ⟨rfl, HB1.out⟩
end Go.Proofs.YtbjcldekapipaaaGreatDoor

namespace Go.Proofs.YtbjcldekapipaaaGreatDoor
open Go.ChangeShapes Go.WideShapes Go.ChangeAt Go.RowKit Go.Deep

theorem held3_next {w0 wm w' : World} {a0 a1 a2 : Addr} {v0 v1 v2 : Value} (h : wm.cell? a0 = some v0 ∧ wm.cell? a1 = some v1 ∧ wm.cell? a2 = some v2 ∧ Below w0.heap.size w0 wm) (hb : Below wm.heap.size wm w') : w'.cell? a0 = some v0 ∧ w'.cell? a1 = some v1 ∧ w'.cell? a2 = some v2 ∧ Below w0.heap.size w0 w' :=
  ⟨keepCell hb h.1, keepCell hb h.2.1, keepCell hb h.2.2.1, bnext h.2.2.2 hb⟩
theorem held6_next {w0 wm w' : World} {a0 a1 a2 a3 a4 a5 : Addr} {v0 v1 v2 v3 v4 v5 : Value} (h : wm.cell? a0 = some v0 ∧ wm.cell? a1 = some v1 ∧ wm.cell? a2 = some v2 ∧ wm.cell? a3 = some v3 ∧ wm.cell? a4 = some v4 ∧ wm.cell? a5 = some v5 ∧ Below w0.heap.size w0 wm) (hb : Below wm.heap.size wm w') : w'.cell? a0 = some v0 ∧ w'.cell? a1 = some v1 ∧ w'.cell? a2 = some v2 ∧ w'.cell? a3 = some v3 ∧ w'.cell? a4 = some v4 ∧ w'.cell? a5 = some v5 ∧ Below w0.heap.size w0 w' :=
  ⟨keepCell hb h.1, keepCell hb h.2.1, keepCell hb h.2.2.1, keepCell hb h.2.2.2.1, keepCell hb h.2.2.2.2.1, keepCell hb h.2.2.2.2.2.1, bnext h.2.2.2.2.2.2 hb⟩
theorem held8_next {w0 w1 wm w' : World} {a0 a1 a2 a3 a4 a5 a6 a7 : Addr} {v0 v1 v2 v3 v4 v5 v6 v7 : Value} (h : wm.cell? a0 = some v0 ∧ wm.cell? a1 = some v1 ∧ wm.cell? a2 = some v2 ∧ wm.cell? a3 = some v3 ∧ wm.cell? a4 = some v4 ∧ wm.cell? a5 = some v5 ∧ wm.cell? a6 = some v6 ∧ wm.cell? a7 = some v7 ∧ Below w0.heap.size w0 wm ∧ Below w1.heap.size w1 wm) (hb : Below wm.heap.size wm w') : w'.cell? a0 = some v0 ∧ w'.cell? a1 = some v1 ∧ w'.cell? a2 = some v2 ∧ w'.cell? a3 = some v3 ∧ w'.cell? a4 = some v4 ∧ w'.cell? a5 = some v5 ∧ w'.cell? a6 = some v6 ∧ w'.cell? a7 = some v7 ∧ Below w0.heap.size w0 w' ∧ Below w1.heap.size w1 w' :=
  ⟨keepCell hb h.1, keepCell hb h.2.1, keepCell hb h.2.2.1, keepCell hb h.2.2.2.1, keepCell hb h.2.2.2.2.1, keepCell hb h.2.2.2.2.2.1, keepCell hb h.2.2.2.2.2.2.1, keepCell hb h.2.2.2.2.2.2.2.1, bnext h.2.2.2.2.2.2.2.2.1 hb, bnext h.2.2.2.2.2.2.2.2.2 hb⟩

set_option maxHeartbeats 8000000 in
set_option maxRecDepth 100000 in
theorem l17Sections_any (x : Mo) (Rimports : Option Addr) (cimports : Nat) (Rcores : Option Addr) (ccores : Nat) (lo : Nat) (w : World) (h : Mo.At w lo x Rimports Rcores) (hfi : ∀ (i : Nat) (y : Co), x.cores[i]? = some y → ∀ z ∈ y.code, z.Fin) (hM : ModS x) :
    Calls Tryz.prog 23 #[.agg #[.int .i64 x.pages, .slice Rimports x.imports.length cimports, .slice Rcores x.cores.length ccores]] w fun e w' => ∃ (g c : Nat), e = .returned (.slice (some ⟨g, 0, none⟩) 4 c) ∧ Scs w' g (secsOf x) (some ⟨g, 0, none⟩) ∧ Below w.heap.size w w' := by
  have hil := hM.il
  have hcl := hM.cl
  have hpg := hM.pages
  have CLi : Hid (∀ W, Calls Tryz.prog 51 #[.int .i64 (x.imports.length : Int)] W fun e w' => e = .returned (.string (impTo x 0)) ∧ Below W.heap.size W w') := Lib.hid (fun W => by
    have hh := specPutL_any (x.imports.length : Int) (by omega) (by omega) W
    rw [← runTo_zero (putL x.imports.length) imB x.imports] at hh
    exact hh)
  have CLc := Lib.hid (fun W => specPutL_any (x.cores.length : Int) (by omega) (by omega) W)
  have CLp := Lib.hid (fun W => specPutL_any x.pages (by omega) (by omega) W)
  have H := Lib.hid h
  have HFI := Lib.hid hfi
  have HM := Lib.hid hM
  have hili : (x.imports.length : Int) ≤ 12 := by omega
  have hcli : (x.cores.length : Int) ≤ 8 := by omega
  have Z1 : corTo x 0 = putL x.cores.length := runTo_zero _ _ _
  have Z2 : codTo x 0 = putL x.cores.length := runTo_zero _ _ _
  have Z1 := Lib.hid Z1
  have Z2 := Lib.hid Z2
  clear h hM hfi
  go_enter Tryz.func23, Tryz.ntmps23
  go_wp2_with (go_at_call 51; (with_reducible refine (CLi.out _).mono ?_); rintro e w2 ⟨rfl, h2⟩; have HB2 := Lib.hid (bnext (below1 _ _) h2); have m0 := keepCell (a := ⟨w.heap.size, 0, none⟩) (v := .int .i64 x.pages) h2 (by go_simp); have m1 := keepCell (a := ⟨w.heap.size, 1, none⟩) (v := .slice Rimports x.imports.length cimports) h2 (by go_simp); have m2 := keepCell (a := ⟨w.heap.size, 2, none⟩) (v := .slice Rcores x.cores.length ccores) h2 (by go_simp); clear h2)
  go_loopw [3, 4] (fun s i wr => ∃ k : Nat, k ≤ x.imports.length ∧ s = .string (impTo x k) ∧ i = .int .i64 k ∧ (wr.cell? ⟨w.heap.size, 0, none⟩ = some (.int .i64 x.pages) ∧ wr.cell? ⟨w.heap.size, 1, none⟩ = some (.slice Rimports x.imports.length cimports) ∧ wr.cell? ⟨w.heap.size, 2, none⟩ = some (.slice Rcores x.cores.length ccores)) ∧ Below w.heap.size w wr) (fun _ i _ => x.imports.length - (intOf i).toNat)
  case atStart => exact ⟨0, Nat.zero_le _, rfl, rfl, ⟨m0, m1, m2⟩, HB2.out⟩
  case round =>
    clear m0 m1 m2
    obtain ⟨k, hk, rfl, rfl, ⟨m0, m1, m2⟩, hbel⟩ := hrel
    by_cases hlt : k < x.imports.length
    · obtain ⟨b, o, y, rfl, _, hyk, hc⟩ := (Ims.below H.out.1 hbel).at_ hlt
      obtain ⟨c0_, c1_, c2_, _⟩ := hc
      have hy := HM.out.im k y hyk
      obtain ⟨p1, p2, p3⟩ := imV_parts hy
      have CN := (fun W => specPutB_any y.name (by omega) W)
      have CL := (fun W => specPutL_any y.params (by omega) (by omega) W)
      have CT := (fun W => l17Bit_any y.result W)
      have s1 := (putB_size y.name (by omega)).2
      have s2 := putL_size (n := y.params) (by omega)
      have s3 := Nat.le_of_eq (bitB_size y.result)
      have z0 := fun O => keepCell (below1 wr O) c0_
      have z1 := fun O => keepCell (below1 wr O) c1_
      have z2 := fun O => keepCell (below1 wr O) c2_
      have hsz := HM.out.impTo_size hk
      have HSt : Hid (((impTo x k ++ putB y.name) ++ putL y.params) ++ bitB y.result = impTo x (k + 1)) := Lib.hid ((imB_flat _ y).trans (runTo_step hyk))
      have HB := Lib.hid hbel
      have hbs := hbel.size
      clear hyk hbel hy p2 p3
      generalize putB y.name = N at *
      generalize putL y.params = L at *
      generalize bitB y.result = Bt at *
      obtain ⟨T, hT⟩ : ∃ T, impTo x k = T := ⟨_, rfl⟩
      rw [hT] at HSt hsz
      have hz1 : ¬ (9223372036854775807 < T.size + N.size) := by omega
      have hz2 : ¬ (9223372036854775807 < T.size + N.size + L.size) := by omega
      have hz3 : ¬ (9223372036854775807 < T.size + N.size + L.size + Bt.size) := by omega
      have CN := Lib.hid CN
      have CL := Lib.hid CL
      have CT := Lib.hid CT
      simp only [hT]
      clear hT s1 s2 s3 p1
      go_wp2_with fail
      go_region_held3 (fun w' => w'.cell? ⟨wr.heap.size, 0, none⟩ = some (.string y.name) ∧ w'.cell? ⟨wr.heap.size, 1, none⟩ = some (.int .i64 y.params) ∧ w'.cell? ⟨wr.heap.size, 2, none⟩ = some (.bool y.result) ∧ w'.cell? ⟨w.heap.size, 0, none⟩ = some (.int .i64 x.pages) ∧ w'.cell? ⟨w.heap.size, 1, none⟩ = some (.slice (some ⟨b, o, none⟩) x.imports.length cimports) ∧ w'.cell? ⟨w.heap.size, 2, none⟩ = some (.slice Rcores x.cores.length ccores) ∧ Below w.heap.size w w')
        (first | assumption | exact held6_next (by assumption) (by assumption) | exact ⟨by go_simp, by go_simp, by go_simp, keepCell (below1 wr _).drew m0, keepCell (below1 wr _).drew m1, keepCell (below1 wr _).drew m2, (HB.out.alloc hbs _).drew⟩)
        (first
          | (go_at_call 52; (with_reducible refine (CN.out _).mono ?_); rintro e wm ⟨rfl, hb⟩)
          | (go_at_call 51; (with_reducible refine (CL.out _).mono ?_); rintro e wm ⟨rfl, hb⟩)
          | (go_at_call 53; (with_reducible refine (CT.out _).mono ?_); rintro e wm ⟨rfl, hb⟩))
      all_goals
        go_split_ands
        go_wp2_with fail
        go_roundw
        case rel => exact ⟨k + 1, by omega, by rw [HSt.out], by go_num, ⟨by assumption, by assumption, by assumption⟩, by assumption⟩
        case measure => simp [intOf]; omega
    · obtain rfl : k = x.imports.length := by omega
      have HB := Lib.hid hbel
      clear hbel
      go_wp2_with fail
      go_region_held3 (fun w' => w'.cell? ⟨w.heap.size, 0, none⟩ = some (.int .i64 x.pages) ∧ w'.cell? ⟨w.heap.size, 1, none⟩ = some (.slice Rimports x.imports.length cimports) ∧ w'.cell? ⟨w.heap.size, 2, none⟩ = some (.slice Rcores x.cores.length ccores) ∧ Below w.heap.size w w')
        (first | assumption | exact held3_next (by assumption) (by assumption) | exact ⟨m0, m1, m2, HB.out.drew⟩)
        (first
          | (go_at_call 51; (with_reducible refine (CLc.out _).mono ?_); rintro e wm ⟨rfl, hb⟩))
      all_goals
        clear m0 m1 m2
        go_split_ands
        go_wp2_with fail
        go_loopw [6, 7, 8] (fun s u i wr => ∃ k : Nat, k ≤ x.cores.length ∧ s = .string (corTo x k) ∧ u = .string (codTo x k) ∧ i = .int .i64 k ∧ (wr.cell? ⟨w.heap.size, 0, none⟩ = some (.int .i64 x.pages) ∧ wr.cell? ⟨w.heap.size, 1, none⟩ = some (.slice Rimports x.imports.length cimports) ∧ wr.cell? ⟨w.heap.size, 2, none⟩ = some (.slice Rcores x.cores.length ccores)) ∧ Below w.heap.size w wr) (fun _ _ i _ => x.cores.length - (intOf i).toNat)
        case atStart => exact ⟨0, Nat.zero_le _, by rw [Z1.out], by rw [Z2.out], rfl, ⟨by assumption, by assumption, by assumption⟩, by assumption⟩
        case round =>
          obtain ⟨k, hk, rfl, rfl, rfl, ⟨m0, m1, m2⟩, hbel⟩ := hrel
          by_cases hlt : k < x.cores.length
          · obtain ⟨b, o, y, Rcode, ccode, rfl, _, hyk, hc⟩ := (Cos.below H.out.2 hbel).at_ hlt
            obtain ⟨c0_, c1_, c2_, c3_, c4_, hat⟩ := hc
            have hy := HM.out.co k y hyk
            obtain ⟨p1, p2, p3, p4, p5⟩ := coV_parts hy
            have CN := (fun W => specPutB_any y.name (by omega) W)
            have CL := (fun W => specPutL_any y.params (by omega) (by omega) W)
            have CO := (fun W => specPutL_any y.locals (by omega) (by omega) W)
            have CT := (fun W => l17Bit_any y.result W)
            have s1 := (putB_size y.name (by omega)).2
            have s2 := putL_size (n := y.params) (by omega)
            have s4 := putL_size (n := y.locals) (by omega)
            have s3 := Nat.le_of_eq (bitB_size y.result)
            have CBd := Lib.hid (fun W (hb : Below wr.heap.size wr W) => specBodyBytes_any y.code (by omega) (HFI.out k y hyk) Rcode ccode lo W (Ins.below hat hb))
            have hba := bodyA_size (xs := y.code) (by omega)
            have CPb : Hid (∀ W, Calls Tryz.prog 52 #[.string (bodyA y.code)] W fun e w' => e = .returned (.string (cdB y)) ∧ Below W.heap.size W w') := Lib.hid (fun W => specPutB_any (bodyA y.code) (by omega) W)
            have z0 := fun O => keepCell (below1 wr O) c0_
            have z1 := fun O => keepCell (below1 wr O) c1_
            have z2 := fun O => keepCell (below1 wr O) c2_
            have z3 := fun O => keepCell (below1 wr O) c3_
            have z4 := fun O => keepCell (below1 wr O) c4_
            have hsz := HM.out.corTo_size hk
            have hsz2 := HM.out.codTo_size hk
            have hys2 := cdB_size (y := y) (by omega)
            have HSt : Hid ((((corTo x k ++ putB y.name) ++ putL y.params) ++ putL y.locals) ++ bitB y.result = corTo x (k + 1)) := Lib.hid ((coB_flat _ y).trans (runTo_step hyk))
            have HSu : Hid (codTo x k ++ cdB y = codTo x (k + 1)) := Lib.hid (runTo_step hyk)
            have HB := Lib.hid hbel
            have hbs := hbel.size
            clear hyk hbel hy p2 p3 p4 p5 hat hba
            generalize putB y.name = N at *
            generalize putL y.params = L at *
            generalize putL y.locals = O at *
            generalize bitB y.result = Bt at *
            generalize cdB y = J at *
            generalize bodyA y.code = Bd at *
            obtain ⟨T, hT⟩ : ∃ T, corTo x k = T := ⟨_, rfl⟩
            obtain ⟨U, hU⟩ : ∃ T, codTo x k = T := ⟨_, rfl⟩
            rw [hT] at HSt hsz
            rw [hU] at HSu hsz2
            have hz1 : ¬ (9223372036854775807 < T.size + N.size) := by omega
            have hz2 : ¬ (9223372036854775807 < T.size + N.size + L.size) := by omega
            have hz3 : ¬ (9223372036854775807 < T.size + N.size + L.size + O.size) := by omega
            have hz4 : ¬ (9223372036854775807 < T.size + N.size + L.size + O.size + Bt.size) := by omega
            have hz5 : ¬ (9223372036854775807 < U.size + J.size) := by omega
            have CN := Lib.hid CN
            have CL := Lib.hid CL
            have CO := Lib.hid CO
            have CT := Lib.hid CT
            simp only [hT, hU]
            clear hT hU s1 s2 s3 s4 p1
            go_wp2_with fail
            go_region_held3 (fun w' => w'.cell? ⟨wr.heap.size, 0, none⟩ = some (.string y.name) ∧ w'.cell? ⟨wr.heap.size, 1, none⟩ = some (.int .i64 y.params) ∧ w'.cell? ⟨wr.heap.size, 2, none⟩ = some (.int .i64 y.locals) ∧ w'.cell? ⟨wr.heap.size, 3, none⟩ = some (.bool y.result) ∧ w'.cell? ⟨wr.heap.size, 4, none⟩ = some (.slice Rcode y.code.length ccode) ∧ w'.cell? ⟨w.heap.size, 0, none⟩ = some (.int .i64 x.pages) ∧ w'.cell? ⟨w.heap.size, 1, none⟩ = some (.slice Rimports x.imports.length cimports) ∧ w'.cell? ⟨w.heap.size, 2, none⟩ = some (.slice (some ⟨b, o, none⟩) x.cores.length ccores) ∧ Below w.heap.size w w' ∧ Below wr.heap.size wr w')
              (first | assumption | exact held8_next (by assumption) (by assumption) | exact ⟨by go_simp, by go_simp, by go_simp, by go_simp, by go_simp, keepCell (below1 wr _).drew m0, keepCell (below1 wr _).drew m1, keepCell (below1 wr _).drew m2, (HB.out.alloc hbs _).drew, (below1 wr _).drew⟩)
              (first
                | (go_at_call 52; (with_reducible refine (CN.out _).mono ?_); rintro e wm ⟨rfl, hb⟩)
                | (go_at_call 51; (with_reducible refine (CL.out _).mono ?_); rintro e wm ⟨rfl, hb⟩)
                | (go_at_call 51; (with_reducible refine (CO.out _).mono ?_); rintro e wm ⟨rfl, hb⟩)
                | (go_at_call 53; (with_reducible refine (CT.out _).mono ?_); rintro e wm ⟨rfl, hb⟩))
            all_goals
              clear m0 m1 m2
              go_split_ands
              go_wp2_with (first
                | (go_at_call 54; (with_reducible refine (CBd.out _ (by assumption)).mono ?_); rintro e w7 ⟨rfl, h7⟩)
                | (go_at_call 52; (with_reducible refine (CPb.out _).mono ?_); rintro e w8 ⟨rfl, h8⟩))
              go_roundw
              case rel => exact ⟨k + 1, by omega, by rw [HSt.out], by rw [HSu.out], by go_num, ⟨keepCell h8 (keepCell h7 (by assumption)), keepCell h8 (keepCell h7 (by assumption)), keepCell h8 (keepCell h7 (by assumption))⟩, bnext (bnext (by assumption) h7) h8⟩
              case measure => simp [intOf]; omega
          · obtain rfl : k = x.cores.length := by omega
            have HB := Lib.hid hbel
            clear hbel
            go_wp2_with (go_at_call 51; (with_reducible refine (CLp.out _).mono ?_); rintro e w9 ⟨rfl, h9⟩; have HB9 := Lib.hid (bnext HB.out h9); clear h9)
            go_ret
            exact ⟨_, _, rfl, secs_row x _ _, HB9.out.alloc HB9.out.size _⟩
theorem specModuleBytes_any (x : Mo) (hx : x.wt ≤ 1048576) (hf : x.Fin) (Rimports : Option Addr) (cimports : Nat) (Rcores : Option Addr) (ccores : Nat) (lo : Nat) (w : World) (h : Mo.At w lo x Rimports Rcores) (hc : (x.imports.length ≤ cimports ∧ x.cores.length ≤ ccores)) :
    Calls Tryz.prog 7 #[.agg #[.int .i64 x.pages, .slice Rimports x.imports.length cimports, .slice Rcores x.cores.length ccores]] w fun e w' => e = .returned (.string (modA x)) ∧ Below w.heap.size w w' := by
  have CM := (fun W (hb : Below w.heap.size w W) => specModuleShape_any x hx hf Rimports cimports Rcores ccores lo W (h.below hb) hc)
  unfold modA
  by_cases hP : shapeV x = true
  · rw [if_pos hP]
    have hM := ModS.of ((shapeV_iff x).mp hP)
    rw [hP] at CM
    have CM := Lib.hid CM
    have CL := Lib.hid (fun W (hb : Below w.heap.size w W) => l17Sections_any x Rimports cimports Rcores ccores lo W (h.below hb) (fun i y hy => moFin hf hy) hM)
    have CA : Hid (∀ (A : Option Addr) (c l : Nat) (W : World), Scs W l (secsOf x) A → Calls Tryz.prog 22 #[.slice A 4 c] W fun e w' => e = .returned (.string (secTo (secsOf x) 4)) ∧ Below W.heap.size W w') := Lib.hid (fun A c l W hA => l17All_any (secsOf x) (by show 4 ≤ 20; omega) (fun i s hs => ⟨(hM.secs i s hs).1, by have := (hM.secs i s hs).2.1; omega⟩) A c l W hA)
    generalize secTo (secsOf x) 4 = A at *
    clear h hM hf hx hP hc
    go_enter Tryz.func7, Tryz.ntmps7
    go_wp2_with (first
      | (go_at_call 21; (with_reducible refine (CM.out _ (below1 _ _)).mono ?_); rintro e w1 ⟨rfl, h1⟩; have HB1 := Lib.hid (bnext (below1 _ _) h1); have m0 := keepCell (a := ⟨w.heap.size, 0, none⟩) (v := .int .i64 x.pages) h1 (by go_simp); have m1 := keepCell (a := ⟨w.heap.size, 1, none⟩) (v := .slice Rimports x.imports.length cimports) h1 (by go_simp); have m2 := keepCell (a := ⟨w.heap.size, 2, none⟩) (v := .slice Rcores x.cores.length ccores) h1 (by go_simp); clear h1)
      | (go_at_call 23; (with_reducible refine (CL.out _ HB1.out).mono ?_); rintro e w2 ⟨g2, c2, rfl, hs2, h2⟩; have HS2 := Lib.hid hs2; have HB2 := Lib.hid (bnext HB1.out h2); clear hs2 h2)
      | (go_at_call 22; (with_reducible refine (CA.out _ _ _ _ HS2.out).mono ?_); rintro e w3 ⟨rfl, h3⟩; have HB3 := Lib.hid (bnext HB2.out h3); clear h3))
    go_ret
    exact ⟨rfl, HB3.out⟩
  · rw [if_neg hP]
    rw [Bool.eq_false_iff.mpr hP] at CM
    have CM := Lib.hid CM
    clear h hf hx hP hc
    go_enter Tryz.func7, Tryz.ntmps7
    go_wp2_with (go_at_call 21; (with_reducible refine (CM.out _ (below1 _ _)).mono ?_); rintro e w1 ⟨rfl, h1⟩; have HB1 := Lib.hid (bnext (below1 _ _) h1); clear h1)
    go_ret
    exact ⟨rfl, HB1.out⟩
end Go.Proofs.YtbjcldekapipaaaGreatDoor

