/-
  TxtP, TxtQ, TxtI, ModuleTextLaw, TxtTab: in one text.
-/
import Derived.Test.YtbjcldekapipaaaGreatDoorMMd
import Derived.Test.YtbjcldekapipaaaGreatDoorMDg
import Derived.Test.YtbjcldekapipaaaGreatDoorMLn
import Derived.Lib.LaidTab
namespace Go.Proofs.YtbjcldekapipaaaGreatDoor
open Go.ChangeShapes Go.WideShapes Go.ChangeAt Go.RowKit Go.Deep

def spT : ByteArray := ⟨#[32]⟩
theorem joinL_snoc (xs : List ByteArray) (x : ByteArray) (h : xs ≠ []) : joinL (xs ++ [x]) = (joinL xs ++ spT) ++ x := by
  apply ByteArray.ext
  rw [ByteArray.data_append, ByteArray.data_append]
  apply Array.toList_inj.mp
  cases xs with
  | nil => exact absurd rfl h
  | cons y ys =>
    have e1 : (joinL (y :: ys ++ [x])).data.toList = y.data.toList ++ ((ys.map (·.data.toList)).map ([32] ++ ·)).flatten ++ ([32] ++ x.data.toList) := by
      unfold joinL
      rw [List.cons_append, List.map_cons, List.map_append, Lib.join_cons]
      unfold Lib.joinTail
      rw [List.map_append, List.flatten_append]
      simp only [List.map_cons, List.map_nil, List.flatten_cons, List.flatten_nil, List.append_nil, List.append_assoc]
    have e2 : (joinL (y :: ys)).data.toList = y.data.toList ++ ((ys.map (·.data.toList)).map ([32] ++ ·)).flatten := by
      unfold joinL
      rw [List.map_cons, Lib.join_cons]
      rfl
    rw [Array.toList_append, Array.toList_append, e1, e2]
    show _ = (_ ++ [32]) ++ _
    simp only [List.append_assoc]
theorem joinL_one (x : ByteArray) : joinL [x] = x := by
  apply ByteArray.ext
  show (Lib.join [x.data.toList] [32]).toArray = x.data
  rw [Lib.join_one, Array.toArray_toList]
theorem joinL_two (a b : ByteArray) : joinL [a, b] = (a ++ spT) ++ b := by
  have h := joinL_snoc [a] b (by simp)
  rwa [joinL_one] at h
theorem joinL_three (a b c : ByteArray) : joinL [a, b, c] = (((a ++ spT) ++ b) ++ spT) ++ c := by
  have h := joinL_snoc [a, b] c (by simp)
  rwa [joinL_two] at h
theorem joinL_four (a b c d : ByteArray) : joinL [a, b, c, d] = (((((a ++ spT) ++ b) ++ spT) ++ c) ++ spT) ++ d := by
  have h := joinL_snoc [a, b, c] d (by simp)
  rwa [joinL_three] at h
theorem joinL_five (a b c d e : ByteArray) : joinL [a, b, c, d, e] = (((((((a ++ spT) ++ b) ++ spT) ++ c) ++ spT) ++ d) ++ spT) ++ e := by
  have h := joinL_snoc [a, b, c, d] e (by simp)
  rwa [joinL_four] at h
def bitN (b : Bool) : ByteArray := numB (if b = true then 1 else 0)
theorem numB_dig (u : Nat) (h : u < 10) : numB (u : Int) = ⟨#[UInt8.ofNat (48 + u)]⟩ := by
  rw [numB_pos, Lib.decDigits, dif_pos h]
theorem bitN_lit (b : Bool) : bitN b = (if b = true then ⟨#[49]⟩ else ⟨#[48]⟩) := by
  cases b
  · exact numB_dig 0 (by omega)
  · exact numB_dig 1 (by omega)
theorem bitN_size (b : Bool) : (bitN b).size = 1 := by rw [bitN_lit]; cases b <;> rfl
def wMod : ByteArray := ⟨#[109, 111, 100, 117, 108, 101]⟩
def wImp : ByteArray := ⟨#[105, 109, 112, 111, 114, 116]⟩
def wCor : ByteArray := ⟨#[99, 111, 114, 101]⟩
theorem wMod_sp : wMod ++ spT = ⟨#[109, 111, 100, 117, 108, 101, 32]⟩ := rfl
theorem wImp_sp : wImp ++ spT = ⟨#[105, 109, 112, 111, 114, 116, 32]⟩ := rfl
theorem wCor_sp : wCor ++ spT = ⟨#[99, 111, 114, 101, 32]⟩ := rfl
def jM (x : Mo) : ByteArray := joinL [wMod, numB x.pages]
def jI (y : Im) : ByteArray := joinL [wImp, y.name, numB y.params, bitN y.result]
def jC (y : Co) : ByteArray := joinL [wCor, y.name, numB y.params, numB y.locals, bitN y.result]
def jX (i : In) : ByteArray := joinL [insT i.op i.a]
def lnM (x : Mo) : ByteArray := jM x ++ nlT
def lnI (y : Im) : ByteArray := jI y ++ nlT
def lnC (y : Co) : ByteArray := jC y ++ nlT
def lnX (i : In) : ByteArray := jX i ++ nlT
theorem lnM_form (x : Mo) : ((⟨#[109, 111, 100, 117, 108, 101, 32]⟩ : ByteArray) ++ numB x.pages) ++ ⟨#[10]⟩ = lnM x := by
  unfold lnM jM
  rw [joinL_two, wMod_sp]
  rfl
theorem lnI_form (y : Im) : ((((((⟨#[105, 109, 112, 111, 114, 116, 32]⟩ : ByteArray) ++ y.name) ++ ⟨#[32]⟩) ++ numB y.params) ++ ⟨#[32]⟩) ++ bitN y.result) ++ ⟨#[10]⟩ = lnI y := by
  unfold lnI jI
  rw [joinL_four, wImp_sp]
  rfl
theorem lnC_form (y : Co) : ((((((((⟨#[99, 111, 114, 101, 32]⟩ : ByteArray) ++ y.name) ++ ⟨#[32]⟩) ++ numB y.params) ++ ⟨#[32]⟩) ++ numB y.locals) ++ ⟨#[32]⟩) ++ bitN y.result) ++ ⟨#[10]⟩ = lnC y := by
  unfold lnC jC
  rw [joinL_five, wCor_sp]
  rfl
theorem lnX_form (i : In) : insT i.op i.a ++ ⟨#[10]⟩ = lnX i := by
  unfold lnX jX
  rw [joinL_one]
  rfl
def blkT (y : Co) : ByteArray := lnC y ++ catF lnX y.code
def tI (x : Mo) (k : Nat) : ByteArray := runTo (lnM x) lnI x.imports k
def tC (x : Mo) (k : Nat) : ByteArray := runTo (tI x x.imports.length) blkT x.cores k
def tX (x : Mo) (k : Nat) (y : Co) (j : Nat) : ByteArray := runTo (tC x k ++ lnC y) lnX y.code j
theorem tX_last {x : Mo} {k : Nat} {y : Co} (hy : x.cores[k]? = some y) : tX x k y y.code.length = tC x (k + 1) := by
  unfold tX runTo
  rw [List.take_length, ByteArray.append_assoc]
  exact runTo_step hy
/-- The answer. -/
noncomputable def txtA (x : Mo) : ByteArray := if shapeV x = true then tC x x.cores.length else ⟨#[]⟩
theorem insT_size (op a : Int) (h0 : -9223372036854775808 ≤ a) (h1 : a ≤ 9223372036854775807) : (insT op a).size ≤ 30 := by
  have h2 := opW_size op
  have h3 := numB_le a h0 h1
  have h4 : (⟨#[32]⟩ : ByteArray).size = 1 := rfl
  unfold insT
  split
  · rw [ByteArray.size_append, ByteArray.size_append]
    omega
  · omega
theorem lnM_size {x : Mo} (h : 0 ≤ x.pages ∧ x.pages ≤ 16) : (lnM x).size ≤ 40 ∧ (jM x).size ≤ 40 ∧ 1 ≤ (jM x).size := by
  have h3 := numB_le x.pages (by omega) (by omega)
  have e := lnM_form x
  have e2 : (lnM x).size = (jM x).size + 1 := ByteArray.size_append
  have e3 := congrArg ByteArray.size e
  simp only [ByteArray.size_append] at e3
  have c1 : (⟨#[109, 111, 100, 117, 108, 101, 32]⟩ : ByteArray).size = 7 := rfl
  have c2 : (⟨#[10]⟩ : ByteArray).size = 1 := rfl
  omega
theorem lnI_size {y : Im} (h : imV y = true) : (lnI y).size ≤ 100 ∧ (jI y).size ≤ 100 := by
  obtain ⟨p1, p2, p3⟩ := imV_parts h
  have h3 := numB_le y.params (by omega) (by omega)
  have h4 := bitN_size y.result
  have e2 : (lnI y).size = (jI y).size + 1 := ByteArray.size_append
  have e3 := congrArg ByteArray.size (lnI_form y)
  simp only [ByteArray.size_append] at e3
  have c1 : (⟨#[105, 109, 112, 111, 114, 116, 32]⟩ : ByteArray).size = 7 := rfl
  have c2 : (⟨#[10]⟩ : ByteArray).size = 1 := rfl
  have c3 : (⟨#[32]⟩ : ByteArray).size = 1 := rfl
  omega
theorem lnC_size {y : Co} (h : coV y = true) : (lnC y).size ≤ 120 ∧ (jC y).size ≤ 120 := by
  obtain ⟨p1, p2, p3, _⟩ := coV_parts h
  have h3 := numB_le y.params (by omega) (by omega)
  have h5 := numB_le y.locals (by omega) (by omega)
  have h4 := bitN_size y.result
  have e2 : (lnC y).size = (jC y).size + 1 := ByteArray.size_append
  have e3 := congrArg ByteArray.size (lnC_form y)
  simp only [ByteArray.size_append] at e3
  have c1 : (⟨#[99, 111, 114, 101, 32]⟩ : ByteArray).size = 5 := rfl
  have c2 : (⟨#[10]⟩ : ByteArray).size = 1 := rfl
  have c3 : (⟨#[32]⟩ : ByteArray).size = 1 := rfl
  omega
theorem lnX_size {i : In} (h : i.Fin) : (lnX i).size ≤ 31 ∧ (jX i).size ≤ 31 := by
  have h3 := insT_size i.op i.a h.2.1 h.2.2
  have e2 : (lnX i).size = (jX i).size + 1 := ByteArray.size_append
  have e3 := congrArg ByteArray.size (lnX_form i)
  simp only [ByteArray.size_append] at e3
  have c2 : (⟨#[10]⟩ : ByteArray).size = 1 := rfl
  omega
theorem fin_at {x : Mo} (hf : x.Fin) {k : Nat} {y : Co} (hy : x.cores[k]? = some y) {j : Nat} {i : In} (hi : y.code[j]? = some i) : i.Fin := moFin hf hy i (List.mem_of_getElem? hi)
theorem blkT_size {x : Mo} (hM : ModS x) (hf : x.Fin) {k : Nat} {y : Co} (hy : x.cores[k]? = some y) : (blkT y).size ≤ 3840 := by
  have h1 := (lnC_size (hM.co k y hy)).1
  have h2 := runTo_size (s := lnC y) (f := lnX) (B := 31) (fun j i hi => (lnX_size (fin_at hf hy hi)).1) y.code.length (Nat.le_refl _)
  have h3 := (coV_parts (hM.co k y hy)).2.2.2.1
  unfold runTo at h2
  rw [List.take_length] at h2
  unfold blkT
  omega
theorem tI_size {x : Mo} (hM : ModS x) {k : Nat} (hk : k ≤ x.imports.length) : (tI x k).size ≤ 1300 := by
  have h1 := runTo_size (s := lnM x) (f := lnI) (B := 100) (fun i y hy => (lnI_size (hM.im i y hy)).1) k hk
  have h2 := (lnM_size hM.pages).1
  have := hM.il
  unfold tI
  omega
theorem tC_size {x : Mo} (hM : ModS x) (hf : x.Fin) {k : Nat} (hk : k ≤ x.cores.length) : (tC x k).size ≤ 33000 := by
  have h1 := runTo_size (s := tI x x.imports.length) (f := blkT) (B := 3840) (fun i y hy => blkT_size hM hf hy) k hk
  have h2 := tI_size hM (Nat.le_refl _)
  have := hM.cl
  unfold tC
  omega
theorem tX_size {x : Mo} (hM : ModS x) (hf : x.Fin) {k : Nat} {y : Co} (hy : x.cores[k]? = some y) {j : Nat} (hj : j ≤ y.code.length) : (tX x k y j).size ≤ 40000 := by
  have h1 := runTo_size (s := tC x k ++ lnC y) (f := lnX) (B := 31) (fun j i hi => (lnX_size (fin_at hf hy hi)).1) j hj
  have h2 := tC_size hM hf (k := k) (by have := (List.getElem?_eq_some_iff.1 hy).1; omega)
  have h3 := (coV_parts (hM.co k y hy)).2.2.2.1
  have h4 := (lnC_size (hM.co k y hy)).1
  rw [ByteArray.size_append] at h1
  unfold tX
  omega
theorem l15Bit_any (b : Bool) (w : World) : Calls Tryz.prog 81 #[.bool b] w fun e w' => e = .returned (.string (bitN b)) ∧ Below w.heap.size w w' := by
  rw [bitN_lit]
  cases b with
  | false =>
    go_enter Tryz.func81, Tryz.ntmps81
    go_wp2
    go_ret
    exact ⟨rfl, Below.refl _ _⟩
  | true =>
    go_enter Tryz.func81, Tryz.ntmps81
    go_wp2
    go_ret
    exact ⟨rfl, Below.refl _ _⟩
end Go.Proofs.YtbjcldekapipaaaGreatDoor

namespace Go.Proofs.YtbjcldekapipaaaGreatDoor
open Go.ChangeShapes Go.WideShapes Go.ChangeAt Go.RowKit Go.Deep

set_option maxHeartbeats 8000000 in
set_option maxRecDepth 100000 in
theorem l15Text_any (x : Mo) (hf : x.Fin) (Rimports : Option Addr) (cimports : Nat) (Rcores : Option Addr) (ccores : Nat) (lo : Nat) (w : World) (h : Mo.At w lo x Rimports Rcores) (hP : shapeV x = true) :
    Calls Tryz.prog 35 #[.agg #[.int .i64 x.pages, .slice Rimports x.imports.length cimports, .slice Rcores x.cores.length ccores]] w fun e w' => e = .returned (.string (tC x x.cores.length)) ∧ Below w.heap.size w w' := by
  have hM := ModS.of ((shapeV_iff x).mp hP)
  have hil := hM.il
  have hcl := hM.cl
  have hpg := hM.pages
  have H := Lib.hid h
  have HF := Lib.hid hf
  have HM := Lib.hid hM
  have hili : (x.imports.length : Int) ≤ 12 := by omega
  have hcli : (x.cores.length : Int) ≤ 8 := by omega
  have CD := (fun W => dig15_any x.pages W (by omega) (by omega))
  have HL := Lib.hid (lnM_form x)
  have hz := numB_le x.pages (by omega) (by omega)
  have Z0 : Hid (tI x 0 = lnM x) := Lib.hid (runTo_zero _ _ _)
  have Z1 : Hid (tC x 0 = tI x x.imports.length) := Lib.hid (runTo_zero _ _ _)
  clear h hM hf hP
  generalize numB x.pages = D at *
  have hz1 : ¬ (9223372036854775807 < 7 + D.size) := by omega
  have hz2 : ¬ (9223372036854775807 < 7 + D.size + 1) := by omega
  have CD := Lib.hid CD
  clear hz
  go_enter Tryz.func35, Tryz.ntmps35
  go_wp2_with (go_at_call 80; (with_reducible refine (CD.out _).mono ?_); rintro e w2 ⟨rfl, h2⟩; have HB2 := Lib.hid (bnext (below1 _ _) h2); have m0 := keepCell (a := ⟨w.heap.size, 0, none⟩) (v := .int .i64 x.pages) h2 (by go_simp); have m1 := keepCell (a := ⟨w.heap.size, 1, none⟩) (v := .slice Rimports x.imports.length cimports) h2 (by go_simp); have m2 := keepCell (a := ⟨w.heap.size, 2, none⟩) (v := .slice Rcores x.cores.length ccores) h2 (by go_simp); clear h2)
  clear hz1 hz2
  go_loopw [3, 4] (fun s i wr => ∃ k : Nat, k ≤ x.imports.length ∧ s = .string (tI x k) ∧ i = .int .i64 k ∧ (wr.cell? ⟨w.heap.size, 0, none⟩ = some (.int .i64 x.pages) ∧ wr.cell? ⟨w.heap.size, 1, none⟩ = some (.slice Rimports x.imports.length cimports) ∧ wr.cell? ⟨w.heap.size, 2, none⟩ = some (.slice Rcores x.cores.length ccores)) ∧ Below w.heap.size w wr) (fun _ i _ => x.imports.length - (intOf i).toNat)
  case atStart => exact ⟨0, Nat.zero_le _, by rw [Z0.out, ← HL.out], rfl, ⟨m0, m1, m2⟩, HB2.out⟩
  case round =>
    clear m0 m1 m2
    obtain ⟨k, hk, rfl, rfl, ⟨m0, m1, m2⟩, hbel⟩ := hrel
    by_cases hlt : k < x.imports.length
    · obtain ⟨b, o, y, rfl, _, hyk, hc⟩ := (Ims.below H.out.1 hbel).at_ hlt
      obtain ⟨c0_, c1_, c2_, _⟩ := hc
      have hy := HM.out.im k y hyk
      obtain ⟨p1, p2, p3⟩ := imV_parts hy
      have CP := (fun W => dig15_any y.params W (by omega) (by omega))
      have CB := (fun W => l15Bit_any y.result W)
      have s2 := numB_le y.params (by omega) (by omega)
      have s3 := Nat.le_of_eq (bitN_size y.result)
      have z0 := fun O => keepCell (below1 wr O) c0_
      have z1 := fun O => keepCell (below1 wr O) c1_
      have z2 := fun O => keepCell (below1 wr O) c2_
      have hsz := tI_size HM.out hk
      have HSt : Hid (tI x k ++ lnI y = tI x (k + 1)) := Lib.hid (runTo_step hyk)
      have HL := Lib.hid (lnI_form y)
      have HB := Lib.hid hbel
      have hbs := hbel.size
      clear hyk hbel hy p2 p3
      generalize numB y.params = E at *
      generalize bitN y.result = Bt at *
      obtain ⟨T, hT⟩ : ∃ T, tI x k = T := ⟨_, rfl⟩
      rw [hT] at HSt hsz
      have zz1 : ¬ (9223372036854775807 < 7 + y.name.size) := by omega
      have zz2 : ¬ (9223372036854775807 < 7 + y.name.size + 1) := by omega
      have zz3 : ¬ (9223372036854775807 < 7 + y.name.size + 1 + E.size) := by omega
      have zz4 : ¬ (9223372036854775807 < 7 + y.name.size + 1 + E.size + 1) := by omega
      have zz5 : ¬ (9223372036854775807 < 7 + y.name.size + 1 + E.size + 1 + Bt.size) := by omega
      have zz6 : ¬ (9223372036854775807 < 7 + y.name.size + 1 + E.size + 1 + Bt.size + 1) := by omega
      have zzT : ¬ (9223372036854775807 < T.size + (7 + y.name.size + 1 + E.size + 1 + Bt.size + 1)) := by omega
      have CP := Lib.hid CP
      have CB := Lib.hid CB
      simp only [hT]
      clear hT s2 s3 p1
      go_wp2_with fail
      go_region_held3 (fun w' => w'.cell? ⟨wr.heap.size, 0, none⟩ = some (.string y.name) ∧ w'.cell? ⟨wr.heap.size, 1, none⟩ = some (.int .i64 y.params) ∧ w'.cell? ⟨wr.heap.size, 2, none⟩ = some (.bool y.result) ∧ w'.cell? ⟨w.heap.size, 0, none⟩ = some (.int .i64 x.pages) ∧ w'.cell? ⟨w.heap.size, 1, none⟩ = some (.slice (some ⟨b, o, none⟩) x.imports.length cimports) ∧ w'.cell? ⟨w.heap.size, 2, none⟩ = some (.slice Rcores x.cores.length ccores) ∧ Below w.heap.size w w')
        (first | assumption | exact held6_next (by assumption) (by assumption) | exact ⟨by go_simp, by go_simp, by go_simp, keepCell (below1 wr _).drew m0, keepCell (below1 wr _).drew m1, keepCell (below1 wr _).drew m2, (HB.out.alloc hbs _).drew⟩)
        (first
          | (go_at_call 80; (with_reducible refine (CP.out _).mono ?_); rintro e wm ⟨rfl, hb⟩)
          | (go_at_call 81; (with_reducible refine (CB.out _).mono ?_); rintro e wm ⟨rfl, hb⟩))
      all_goals
        go_split_ands
        go_wp2_with fail
        go_roundw
        case rel => exact ⟨k + 1, by omega, by rw [← HSt.out, ← HL.out], by go_num, ⟨by assumption, by assumption, by assumption⟩, by assumption⟩
        case measure => simp [intOf]; omega
    · obtain rfl : k = x.imports.length := by omega
      have HB := Lib.hid hbel
      clear hbel
      go_wp2_with fail
      go_loopw [3, 6] (fun s i wr => ∃ k : Nat, k ≤ x.cores.length ∧ s = .string (tC x k) ∧ i = .int .i64 k ∧ (wr.cell? ⟨w.heap.size, 0, none⟩ = some (.int .i64 x.pages) ∧ wr.cell? ⟨w.heap.size, 1, none⟩ = some (.slice Rimports x.imports.length cimports) ∧ wr.cell? ⟨w.heap.size, 2, none⟩ = some (.slice Rcores x.cores.length ccores)) ∧ Below w.heap.size w wr) (fun _ i _ => x.cores.length - (intOf i).toNat)
      case atStart => exact ⟨0, Nat.zero_le _, by rw [Z1.out], rfl, ⟨m0, m1, m2⟩, HB.out⟩
      case round =>
        clear m0 m1 m2 HB
        obtain ⟨k, hk, rfl, rfl, ⟨m0, m1, m2⟩, hbel⟩ := hrel
        by_cases hlt : k < x.cores.length
        · obtain ⟨b, o, y, Rcode, ccode, rfl, _, hyk, hc⟩ := (Cos.below H.out.2 hbel).at_ hlt
          obtain ⟨c0_, c1_, c2_, c3_, c4_, hat⟩ := hc
          have hy := HM.out.co k y hyk
          obtain ⟨p1, p2, p3, p4, p5⟩ := coV_parts hy
          have CP := (fun W => dig15_any y.params W (by omega) (by omega))
          have CO := (fun W => dig15_any y.locals W (by omega) (by omega))
          have CB := (fun W => l15Bit_any y.result W)
          have s2 := numB_le y.params (by omega) (by omega)
          have s4 := numB_le y.locals (by omega) (by omega)
          have s3 := Nat.le_of_eq (bitN_size y.result)
          have z0 := fun O => keepCell (below1 wr O) c0_
          have z1 := fun O => keepCell (below1 wr O) c1_
          have z2 := fun O => keepCell (below1 wr O) c2_
          have z3 := fun O => keepCell (below1 wr O) c3_
          have z4 := fun O => keepCell (below1 wr O) c4_
          have hsz := tC_size HM.out HF.out hk
          have HY := Lib.hid hyk
          have HP5 := Lib.hid p5
          have HAt := Lib.hid hat
          have ZX : Hid (tX x k y 0 = tC x k ++ lnC y) := Lib.hid (runTo_zero _ _ _)
          have HLast := Lib.hid (tX_last hyk)
          have HL := Lib.hid (lnC_form y)
          have HB := Lib.hid hbel
          have hbs := hbel.size
          have h120 : (y.code.length : Int) ≤ 120 := by omega
          clear hyk hbel hy p2 p3 p5 hat
          generalize numB y.params = E at *
          generalize numB y.locals = F at *
          generalize bitN y.result = Bt at *
          obtain ⟨T, hT⟩ : ∃ T, tC x k = T := ⟨_, rfl⟩
          rw [hT] at ZX hsz
          have zz1 : ¬ (9223372036854775807 < 5 + y.name.size) := by omega
          have zz2 : ¬ (9223372036854775807 < 5 + y.name.size + 1) := by omega
          have zz3 : ¬ (9223372036854775807 < 5 + y.name.size + 1 + E.size) := by omega
          have zz4 : ¬ (9223372036854775807 < 5 + y.name.size + 1 + E.size + 1) := by omega
          have zz5 : ¬ (9223372036854775807 < 5 + y.name.size + 1 + E.size + 1 + F.size) := by omega
          have zz6 : ¬ (9223372036854775807 < 5 + y.name.size + 1 + E.size + 1 + F.size + 1) := by omega
          have zz7 : ¬ (9223372036854775807 < 5 + y.name.size + 1 + E.size + 1 + F.size + 1 + Bt.size) := by omega
          have zz8 : ¬ (9223372036854775807 < 5 + y.name.size + 1 + E.size + 1 + F.size + 1 + Bt.size + 1) := by omega
          have zzT : ¬ (9223372036854775807 < T.size + (5 + y.name.size + 1 + E.size + 1 + F.size + 1 + Bt.size + 1)) := by omega
          have CP := Lib.hid CP
          have CO := Lib.hid CO
          have CB := Lib.hid CB
          simp only [hT]
          clear hT s2 s3 s4 p1
          go_wp2_with fail
          go_region_held3 (fun w' => w'.cell? ⟨wr.heap.size, 0, none⟩ = some (.string y.name) ∧ w'.cell? ⟨wr.heap.size, 1, none⟩ = some (.int .i64 y.params) ∧ w'.cell? ⟨wr.heap.size, 2, none⟩ = some (.int .i64 y.locals) ∧ w'.cell? ⟨wr.heap.size, 3, none⟩ = some (.bool y.result) ∧ w'.cell? ⟨wr.heap.size, 4, none⟩ = some (.slice Rcode y.code.length ccode) ∧ w'.cell? ⟨w.heap.size, 0, none⟩ = some (.int .i64 x.pages) ∧ w'.cell? ⟨w.heap.size, 1, none⟩ = some (.slice Rimports x.imports.length cimports) ∧ w'.cell? ⟨w.heap.size, 2, none⟩ = some (.slice (some ⟨b, o, none⟩) x.cores.length ccores) ∧ Below w.heap.size w w' ∧ Below wr.heap.size wr w')
            (first | assumption | exact held8_next (by assumption) (by assumption) | exact ⟨by go_simp, by go_simp, by go_simp, by go_simp, by go_simp, keepCell (below1 wr _).drew m0, keepCell (below1 wr _).drew m1, keepCell (below1 wr _).drew m2, (HB.out.alloc hbs _).drew, (below1 wr _).drew⟩)
            (first
              | (go_at_call 80; (with_reducible refine (CP.out _).mono ?_); rintro e wm ⟨rfl, hb⟩)
              | (go_at_call 80; (with_reducible refine (CO.out _).mono ?_); rintro e wm ⟨rfl, hb⟩)
              | (go_at_call 81; (with_reducible refine (CB.out _).mono ?_); rintro e wm ⟨rfl, hb⟩))
          all_goals
            clear m0 m1 m2 z0 z1 z2 z3 z4 c0_ c1_ c2_ c3_ c4_ zz1 zz2 zz3 zz4 zz5 zz6 zz7 zz8 zzT
            go_split_ands
            go_wp2_with fail
            go_loopw [3, 8] (fun s i wx => ∃ j : Nat, j ≤ y.code.length ∧ s = .string (tX x k y j) ∧ i = .int .i64 j ∧ wx.cell? ⟨wr.heap.size, 4, none⟩ = some (.slice Rcode y.code.length ccode) ∧ (wx.cell? ⟨w.heap.size, 0, none⟩ = some (.int .i64 x.pages) ∧ wx.cell? ⟨w.heap.size, 1, none⟩ = some (.slice Rimports x.imports.length cimports) ∧ wx.cell? ⟨w.heap.size, 2, none⟩ = some (.slice (some ⟨b, o, none⟩) x.cores.length ccores)) ∧ Below w.heap.size w wx ∧ Below wr.heap.size wr wx) (fun _ i _ => y.code.length - (intOf i).toNat)
            case atStart => exact ⟨0, Nat.zero_le _, by rw [ZX.out, ← HL.out], rfl, by assumption, ⟨by assumption, by assumption, by assumption⟩, by assumption, by assumption⟩
            case round =>
              obtain ⟨j, hj, rfl, rfl, n4, ⟨n0, n1, n2⟩, hbw, hbx⟩ := hrel
              by_cases hlj : j < y.code.length
              · obtain ⟨b', o', i, rfl, _, hij, hci⟩ := (Ins.below HAt.out hbx).at_ hlj
                obtain ⟨d0_, d1_, _⟩ := hci
                have hfi := fin_at HF.out HY.out hij
                have hvi : insV i.op i.a = true := all_at HP5.out hij
                have CI := (fun W => l15InsText_any i.op i.a hvi hfi.2.1 hfi.2.2 W)
                have s5 := insT_size i.op i.a hfi.2.1 hfi.2.2
                have hsx := tX_size HM.out HF.out HY.out hj
                have HSx : Hid (tX x k y j ++ lnX i = tX x k y (j + 1)) := Lib.hid (runTo_step hij)
                have HLx := Lib.hid (lnX_form i)
                generalize insT i.op i.a = I at *
                have CI := Lib.hid CI
                have HBw := Lib.hid hbw
                have HBx := Lib.hid hbx
                clear hfi hvi hij hbw hbx
                obtain ⟨U, hU⟩ : ∃ T, tX x k y j = T := ⟨_, rfl⟩
                rw [hU] at HSx hsx
                have hz1 : ¬ (9223372036854775807 < I.size + 1) := by omega
                have hz2 : ¬ (9223372036854775807 < U.size + (I.size + 1)) := by omega
                simp only [hU]
                clear hU
                go_wp2_with (go_at_call 82; (with_reducible refine (CI.out _).mono ?_); rintro e w5 ⟨rfl, h5⟩)
                go_roundw
                case rel => exact ⟨j + 1, by omega, by rw [← HSx.out, ← HLx.out], by go_num, keepCell h5 n4, ⟨keepCell h5 n0, keepCell h5 n1, keepCell h5 n2⟩, bnext HBw.out h5, bnext HBx.out h5⟩
                case measure => simp [intOf]; omega
              · obtain rfl : j = y.code.length := by omega
                have HBw := Lib.hid hbw
                clear hbw
                go_wp2_with fail
                go_roundw
                case rel => exact ⟨k + 1, by omega, by rw [HLast.out], by go_num, ⟨n0, n1, n2⟩, HBw.out⟩
                case measure => simp [intOf]; omega
        · obtain rfl : k = x.cores.length := by omega
          have HB := Lib.hid hbel
          clear hbel
          go_wp2_with fail
          go_ret
          exact ⟨rfl, HB.out⟩
theorem specModuleText_any (x : Mo) (hx : x.wt ≤ 1048576) (hf : x.Fin) (Rimports : Option Addr) (cimports : Nat) (Rcores : Option Addr) (ccores : Nat) (lo : Nat) (w : World) (h : Mo.At w lo x Rimports Rcores) (hc : (x.imports.length ≤ cimports ∧ x.cores.length ≤ ccores)) :
    Calls Tryz.prog 11 #[.agg #[.int .i64 x.pages, .slice Rimports x.imports.length cimports, .slice Rcores x.cores.length ccores]] w fun e w' => e = .returned (.string (txtA x)) ∧ Below w.heap.size w w' := by
  have CM := (fun W (hb : Below w.heap.size w W) => l15Shape_val x hx Rimports cimports Rcores ccores hc lo W (h.below hb))
  unfold txtA
  by_cases hP : shapeV x = true
  · rw [if_pos hP]
    rw [hP] at CM
    have CM := Lib.hid CM
    have CL := Lib.hid (fun W (hb : Below w.heap.size w W) => l15Text_any x hf Rimports cimports Rcores ccores lo W (h.below hb) hP)
    generalize tC x x.cores.length = A at *
    clear h hf hx hP hc
    go_enter Tryz.func11, Tryz.ntmps11
    go_wp2_with (first
      | (go_at_call 34; (with_reducible refine (CM.out _ (below1 _ _)).mono ?_); rintro e w1 ⟨rfl, h1⟩; have HB1 := Lib.hid (bnext (below1 _ _) h1); have m0 := keepCell (a := ⟨w.heap.size, 0, none⟩) (v := .int .i64 x.pages) h1 (by go_simp); have m1 := keepCell (a := ⟨w.heap.size, 1, none⟩) (v := .slice Rimports x.imports.length cimports) h1 (by go_simp); have m2 := keepCell (a := ⟨w.heap.size, 2, none⟩) (v := .slice Rcores x.cores.length ccores) h1 (by go_simp); clear h1)
      | (go_at_call 35; (with_reducible refine (CL.out _ HB1.out).mono ?_); rintro e w2 ⟨rfl, h2⟩; have HB2 := Lib.hid (bnext HB1.out h2); clear h2))
    go_ret
    exact ⟨rfl, HB2.out⟩
  · rw [if_neg hP]
    rw [Bool.eq_false_iff.mpr hP] at CM
    have CM := Lib.hid CM
    clear h hf hx hP hc
    go_enter Tryz.func11, Tryz.ntmps11
    go_wp2_with (go_at_call 34; (with_reducible refine (CM.out _ (below1 _ _)).mono ?_); rintro e w1 ⟨rfl, h1⟩; have HB1 := Lib.hid (bnext (below1 _ _) h1); clear h1)
    go_ret
    exact ⟨rfl, HB1.out⟩
end Go.Proofs.YtbjcldekapipaaaGreatDoor

namespace Go.Proofs.YtbjcldekapipaaaGreatDoor
open Go.ChangeShapes Go.WideShapes Go.ChangeAt Go.RowKit Go.Deep

theorem lt_of_cell {w : World} {a : Addr} {v : Value} (hc : w.cell? a = some v) : a.block < w.heap.size := by
  rcases Nat.lt_or_ge a.block w.heap.size with h' | h'
  · exact h'
  · simp [World.cell?, Array.getElem?_eq_none h'] at hc
theorem keepLow {P b o : Nat} {w w' : World} {v : Value} (hb : Below P w w') (hlt : b < P) (hc : w.cell? ⟨b, o, none⟩ = some v) : w'.cell? ⟨b, o, none⟩ = some v := (World.cell?_of_block (hb.block b hlt)).trans hc
theorem keepAdd {P g b o : Nat} {w w' : World} {v : Value} (hk : ∀ k, k < w.heap.size → k ≠ P → k ≠ g → w'.heap[k]? = w.heap[k]?) (hc : w.cell? ⟨b, o, none⟩ = some v) (h1 : b ≠ P) (h2 : b ≠ g) : w'.cell? ⟨b, o, none⟩ = some v := (World.cell?_of_block (hk b (lt_of_cell hc) h1 h2)).trans hc
theorem nil_new (w : World) (ty : TypeId) : NilAt w.heap.size (w.alloc (.cells #[.slice none 0 0] ty)) := ⟨(World.cell?_alloc_new w _ _ 0).trans rfl, World.frozen?_alloc_new w _ _ 0, by simp⟩
theorem add6_next {w0 wm w' : World} {P g bY bM j0 j1 j2 l0 l1 l2 : Nat} {v0 v1 v2 u0 u1 u2 : Value} (h : wm.cell? ⟨bY, j0, none⟩ = some v0 ∧ wm.cell? ⟨bY, j1, none⟩ = some v1 ∧ wm.cell? ⟨bY, j2, none⟩ = some v2 ∧ wm.cell? ⟨bM, l0, none⟩ = some u0 ∧ wm.cell? ⟨bM, l1, none⟩ = some u1 ∧ wm.cell? ⟨bM, l2, none⟩ = some u2 ∧ Below w0.heap.size w0 wm) (hb : Below P wm w') (hk : ∀ k, k < wm.heap.size → k ≠ P → k ≠ g → w'.heap[k]? = wm.heap[k]?) (hYP : bY ≠ P) (hYg : bY ≠ g) (hM : bM < P) (h0 : w0.heap.size ≤ P) : w'.cell? ⟨bY, j0, none⟩ = some v0 ∧ w'.cell? ⟨bY, j1, none⟩ = some v1 ∧ w'.cell? ⟨bY, j2, none⟩ = some v2 ∧ w'.cell? ⟨bM, l0, none⟩ = some u0 ∧ w'.cell? ⟨bM, l1, none⟩ = some u1 ∧ w'.cell? ⟨bM, l2, none⟩ = some u2 ∧ Below w0.heap.size w0 w' :=
  ⟨keepAdd hk h.1 hYP hYg, keepAdd hk h.2.1 hYP hYg, keepAdd hk h.2.2.1 hYP hYg, keepLow hb hM h.2.2.2.1, keepLow hb hM h.2.2.2.2.1, keepLow hb hM h.2.2.2.2.2.1, h.2.2.2.2.2.2.trans (hb.mono h0)⟩
theorem add8_next {w0 wm w' : World} {P g bY bM j0 j1 j2 j3 j4 l0 l1 l2 : Nat} {v0 v1 v2 v3 v4 u0 u1 u2 : Value} (h : wm.cell? ⟨bY, j0, none⟩ = some v0 ∧ wm.cell? ⟨bY, j1, none⟩ = some v1 ∧ wm.cell? ⟨bY, j2, none⟩ = some v2 ∧ wm.cell? ⟨bY, j3, none⟩ = some v3 ∧ wm.cell? ⟨bY, j4, none⟩ = some v4 ∧ wm.cell? ⟨bM, l0, none⟩ = some u0 ∧ wm.cell? ⟨bM, l1, none⟩ = some u1 ∧ wm.cell? ⟨bM, l2, none⟩ = some u2 ∧ Below w0.heap.size w0 wm) (hb : Below P wm w') (hk : ∀ k, k < wm.heap.size → k ≠ P → k ≠ g → w'.heap[k]? = wm.heap[k]?) (hYP : bY ≠ P) (hYg : bY ≠ g) (hM : bM < P) (h0 : w0.heap.size ≤ P) : w'.cell? ⟨bY, j0, none⟩ = some v0 ∧ w'.cell? ⟨bY, j1, none⟩ = some v1 ∧ w'.cell? ⟨bY, j2, none⟩ = some v2 ∧ w'.cell? ⟨bY, j3, none⟩ = some v3 ∧ w'.cell? ⟨bY, j4, none⟩ = some v4 ∧ w'.cell? ⟨bM, l0, none⟩ = some u0 ∧ w'.cell? ⟨bM, l1, none⟩ = some u1 ∧ w'.cell? ⟨bM, l2, none⟩ = some u2 ∧ Below w0.heap.size w0 w' :=
  ⟨keepAdd hk h.1 hYP hYg, keepAdd hk h.2.1 hYP hYg, keepAdd hk h.2.2.1 hYP hYg, keepAdd hk h.2.2.2.1 hYP hYg, keepAdd hk h.2.2.2.2.1 hYP hYg, keepLow hb hM h.2.2.2.2.2.1, keepLow hb hM h.2.2.2.2.2.2.1, keepLow hb hM h.2.2.2.2.2.2.2.1, h.2.2.2.2.2.2.2.2.trans (hb.mono h0)⟩
theorem held8b_next {w0 wm w' : World} {a0 a1 a2 a3 a4 a5 a6 a7 : Addr} {v0 v1 v2 v3 v4 v5 v6 v7 : Value} (h : wm.cell? a0 = some v0 ∧ wm.cell? a1 = some v1 ∧ wm.cell? a2 = some v2 ∧ wm.cell? a3 = some v3 ∧ wm.cell? a4 = some v4 ∧ wm.cell? a5 = some v5 ∧ wm.cell? a6 = some v6 ∧ wm.cell? a7 = some v7 ∧ Below w0.heap.size w0 wm) (hb : Below wm.heap.size wm w') : w'.cell? a0 = some v0 ∧ w'.cell? a1 = some v1 ∧ w'.cell? a2 = some v2 ∧ w'.cell? a3 = some v3 ∧ w'.cell? a4 = some v4 ∧ w'.cell? a5 = some v5 ∧ w'.cell? a6 = some v6 ∧ w'.cell? a7 = some v7 ∧ Below w0.heap.size w0 w' :=
  ⟨keepCell hb h.1, keepCell hb h.2.1, keepCell hb h.2.2.1, keepCell hb h.2.2.2.1, keepCell hb h.2.2.2.2.1, keepCell hb h.2.2.2.2.2.1, keepCell hb h.2.2.2.2.2.2.1, keepCell hb h.2.2.2.2.2.2.2.1, bnext h.2.2.2.2.2.2.2.2 hb⟩

set_option maxHeartbeats 16000000 in
set_option maxRecDepth 100000 in
theorem implModuleText_yes (x : Mo) (hx : x.wt ≤ 1048576) (hf : x.Fin) (Rimports : Option Addr) (cimports : Nat) (Rcores : Option Addr) (ccores : Nat) (lo : Nat) (w : World) (h : Mo.At w lo x Rimports Rcores) (ht : OpTab w) (hp : PowsJ w) (hP : shapeV x = true) :
    Calls Tryz.prog 12 #[.agg #[.int .i64 x.pages, .slice Rimports x.imports.length cimports, .slice Rcores x.cores.length ccores]] w fun e w' => e = .returned (.string (tC x x.cores.length)) ∧ Below w.heap.size w w' := by
  have CM := (fun W (hb : Below w.heap.size w W) => implModuleShape2_any x hx hf Rimports cimports Rcores ccores lo W (h.below hb) (ht.keep hb))
  rw [hP] at CM
  have CM := Lib.hid CM
  have hM := ModS.of ((shapeV_iff x).mp hP)
  have hil := hM.il
  have hcl := hM.cl
  have hpg := hM.pages
  have H := Lib.hid h
  have HF := Lib.hid hf
  have HM := Lib.hid hM
  have hili : (x.imports.length : Int) ≤ 12 := by omega
  have hcli : (x.cores.length : Int) ≤ 8 := by omega
  have HT := Lib.hid ht
  have HPJ := Lib.hid hp
  obtain ⟨jm1, jm2, jm3⟩ := lnM_size hpg
  have CDm := Lib.hid (fun W (hb : Below w.heap.size w W) => decimal_any x.pages (by omega) (by omega) W (hp.keep hb))
  have CAm : Hid (∀ (P gx cx : Nat) (W : World), NilAt P W → W.cell? ⟨gx, 0, none⟩ = some (.string wMod) → W.cell? ⟨gx, 1, none⟩ = some (.string (numB x.pages)) → gx < W.heap.size → 2 ≤ cx → Calls Tryz.prog 36 #[.pointer (some ⟨P, 0, none⟩), .slice (some ⟨gx, 0, none⟩) 2 cx] W fun e w' => e = .returned (.tuple #[]) ∧ ∃ g' c', LineAt P w' g' c' (lnM x) ∧ Below P W w') := Lib.hid (fun P gx cx W hL q0 q1 hlt hcx => add_nil [wMod, (numB x.pages)] (by show 2 ≤ 8; omega) (by show (jM x).size ≤ 2000; omega) P gx cx W hL.cell hL.soft hL.lt (by show 1 ≤ (jM x).size; omega) (fun i p hp => by
          match i with
          | 0 => cases hp; exact q0
          | 1 => cases hp; exact q1
          | i + 2 => cases hp) hlt hcx)
  have Z0 : Hid (lnM x = tI x 0) := Lib.hid (runTo_zero _ _ _).symm
  have Z1 : Hid (tC x 0 = tI x x.imports.length) := Lib.hid (runTo_zero _ _ _)
  clear h hM hf hP hp ht hx jm1 jm2 jm3
  unfold wMod at CAm
  generalize numB x.pages = D at *
  go_enter Tryz.func12, Tryz.ntmps12
  go_wp2_with (first
    | (go_at_call 26; (with_reducible refine (CM.out _ (below1 _ _)).mono ?_); rintro e w1 ⟨rfl, h1⟩; have HB1 := Lib.hid (bnext (below1 _ _) h1); have hw1 : w.heap.size < w1.heap.size := (by have := h1.size; simp at this; omega); have m0 := keepCell (a := ⟨w.heap.size, 0, none⟩) (v := .int .i64 x.pages) h1 (by go_simp); have m1 := keepCell (a := ⟨w.heap.size, 1, none⟩) (v := .slice Rimports x.imports.length cimports) h1 (by go_simp); have m2 := keepCell (a := ⟨w.heap.size, 2, none⟩) (v := .slice Rcores x.cores.length ccores) h1 (by go_simp); clear h1)
    | (go_at_call 37; (with_reducible refine (CDm.out _ (HB1.out.alloc HB1.out.size _)).mono ?_); rintro e w2 ⟨rfl, h2⟩; have HB2 := Lib.hid (bnext (HB1.out.alloc HB1.out.size _) h2); replace m0 := keepCell h2 (keepCell (below1 _ _) m0); replace m1 := keepCell h2 (keepCell (below1 _ _) m1); replace m2 := keepCell h2 (keepCell (below1 _ _) m2); have HN2 := Lib.hid ((nil_new w1 _).below h2); clear h2)
    | (go_at_call 36; refine (CAm.out _ _ _ _ (HN2.out.below (below1 _ _)) (by go_simp) (by go_simp) (by simp) (by simp)).mono ?_; rintro e w3 ⟨rfl, g3, c3, hL3, hb3⟩; have HB3 : Hid (Below w.heap.size w w3) := Lib.hid ((HB2.out.alloc HB2.out.size _).trans (hb3.mono (Nat.le_of_lt hw1))); replace m0 := keepLow hb3 (by omega) (keepCell (below1 _ _) m0); replace m1 := keepLow hb3 (by omega) (keepCell (below1 _ _) m1); replace m2 := keepLow hb3 (by omega) (keepCell (below1 _ _) m2); have HL3 := Lib.hid hL3; clear hL3 hb3))
  go_loopw [21] (fun i wr => ∃ k g c : Nat, k ≤ x.imports.length ∧ i = .int .i64 k ∧ Hid (LineAt w1.heap.size wr g c (tI x k)) ∧ (wr.cell? ⟨w.heap.size, 0, none⟩ = some (.int .i64 x.pages) ∧ wr.cell? ⟨w.heap.size, 1, none⟩ = some (.slice Rimports x.imports.length cimports) ∧ wr.cell? ⟨w.heap.size, 2, none⟩ = some (.slice Rcores x.cores.length ccores)) ∧ Below w.heap.size w wr) (fun i _ => x.imports.length - (intOf i).toNat)
  case atStart => exact ⟨0, g3, c3, Nat.zero_le _, rfl, (by rw [← Z0.out]; exact HL3.out), ⟨m0, m1, m2⟩, HB3.out⟩
  case round =>
    clear m0 m1 m2
    obtain ⟨k, g, c, hk, rfl, HL, ⟨m0, m1, m2⟩, hbel⟩ := hrel
    by_cases hlt : k < x.imports.length
    · obtain ⟨b, o, y, rfl, _, hyk, hc⟩ := (Ims.below H.out.1 hbel).at_ hlt
      obtain ⟨c0_, c1_, c2_, _⟩ := hc
      have hy := HM.out.im k y hyk
      obtain ⟨p1, p2, p3⟩ := imV_parts hy
      have jy := (lnI_size hy).2
      have CP := (fun W (hb : Below w.heap.size w W) => decimal_any y.params (by omega) (by omega) W (HPJ.out.keep hb))
      have CO := (fun W => oneIf_any y.result W)
      have CQ : ∀ W, Below w.heap.size w W → Calls Tryz.prog 37 #[.int .i64 (if y.result = true then 1 else 0)] W fun e w' => e = .returned (.string (bitN y.result)) ∧ Below W.heap.size W w' := (fun W hb => decimal_any (if y.result = true then 1 else 0) (by split <;> omega) (by split <;> omega) W (HPJ.out.keep hb))
      have CAi : Hid (∀ (P g c gx cx : Nat) (s : ByteArray) (W : World), s.size ≤ 100000 → LineAt P W g c s → W.cell? ⟨gx, 0, none⟩ = some (.string wImp) → W.cell? ⟨gx, 1, none⟩ = some (.string y.name) → W.cell? ⟨gx, 2, none⟩ = some (.string (numB y.params)) → W.cell? ⟨gx, 3, none⟩ = some (.string (bitN y.result)) → gx < W.heap.size → 4 ≤ cx → Calls Tryz.prog 36 #[.pointer (some ⟨P, 0, none⟩), .slice (some ⟨gx, 0, none⟩) 4 cx] W fun e w' => e = .returned (.tuple #[]) ∧ ∃ g' c', LineAt P w' g' c' (s ++ lnI y) ∧ Below P W w' ∧ (∀ k, k < W.heap.size → k ≠ P → k ≠ g → w'.heap[k]? = W.heap[k]?)) := Lib.hid (fun P g c gx cx s W hs hL q0 q1 q2 q3 hlt hcx => add_any [wImp, y.name, (numB y.params), (bitN y.result)] (by show 4 ≤ 8; omega) (by show (jI y).size ≤ 2000; omega) P g c gx cx W s hs hL (fun i p hp => by
          match i with
          | 0 => cases hp; exact q0
          | 1 => cases hp; exact q1
          | 2 => cases hp; exact q2
          | 3 => cases hp; exact q3
          | i + 4 => cases hp) hlt hcx)
      have z0 := fun O => keepCell (below1 wr O) c0_
      have z1 := fun O => keepCell (below1 wr O) c1_
      have z2 := fun O => keepCell (below1 wr O) c2_
      have HSZ : Hid ((tI x k).size ≤ 100000) := Lib.hid (by have := tI_size HM.out hk; omega)
      have HSt : Hid (tI x k ++ lnI y = tI x (k + 1)) := Lib.hid (runTo_step hyk)
      have HB := Lib.hid hbel
      have hbs := hbel.size
      have f0 : w.heap.size ≤ w1.heap.size := Nat.le_of_lt hw1
      have hgn := HL.out.row.new
      have hgl := HL.out.row.lt
      have f1 : wr.heap.size ≠ w1.heap.size := by omega
      have f2 : wr.heap.size ≠ g := by omega
      have HX : Hid (Below wr.heap.size wr (wr.alloc (.cells #[.string y.name, .int .i64 y.params, .bool y.result] 52)).drew) := Lib.hid (below1 wr _).drew
      clear hyk hbel hy p1 p2 p3 jy hgn hgl
      unfold wImp at CAi
      generalize numB y.params = E at *
      generalize bitN y.result = Bt at *
      generalize (if y.result = true then (1 : Int) else 0) = V at *
      have CP := Lib.hid CP
      have CO := Lib.hid CO
      have CQ := Lib.hid CQ
      go_wp2_with fail
      go_region_held3 (fun w' => w'.cell? ⟨wr.heap.size, 0, none⟩ = some (.string y.name) ∧ w'.cell? ⟨wr.heap.size, 1, none⟩ = some (.int .i64 y.params) ∧ w'.cell? ⟨wr.heap.size, 2, none⟩ = some (.bool y.result) ∧ w'.cell? ⟨w.heap.size, 0, none⟩ = some (.int .i64 x.pages) ∧ w'.cell? ⟨w.heap.size, 1, none⟩ = some (.slice (some ⟨b, o, none⟩) x.imports.length cimports) ∧ w'.cell? ⟨w.heap.size, 2, none⟩ = some (.slice Rcores x.cores.length ccores) ∧ Below w.heap.size w w')
        (first | assumption | exact held6_next (by assumption) (by assumption) | exact add6_next (by assumption) (by assumption) (by assumption) f1 f2 hw1 f0 | exact held6_next (by assumption) (below1 _ _) | exact ⟨by go_simp, by go_simp, by go_simp, keepCell (below1 wr _).drew m0, keepCell (below1 wr _).drew m1, keepCell (below1 wr _).drew m2, (HB.out.alloc hbs _).drew⟩)
        (first
          | (go_at_call 37; (with_reducible refine (CP.out _ (HB.out.trans (HX.out.mono hbs))).mono ?_); rintro e wm ⟨rfl, hb⟩; have HX := Lib.hid (bnext HX.out hb))
          | (go_at_call 37; (with_reducible refine (CQ.out _ (HB.out.trans (HX.out.mono hbs))).mono ?_); rintro e wm ⟨rfl, hb⟩; have HX := Lib.hid (bnext HX.out hb))
          | (go_at_call 38; (with_reducible refine (CO.out _).mono ?_); rintro e wm ⟨rfl, hb⟩; have HX := Lib.hid (bnext HX.out hb))
          | (go_at_call 36; refine (CAi.out _ _ _ _ _ _ _ HSZ.out (HL.out.below (bnext HX.out (below1 _ _))) (by go_simp) (by go_simp) (by go_simp) (by go_simp) (by simp) (by simp)).mono ?_; rintro e wz ⟨rfl, gz, cz, hLz, hbz, hkz⟩; have HLz := Lib.hid hLz; clear hLz))
      all_goals
        go_split_ands
        go_wp2_with fail
        go_roundw
        case rel => exact ⟨k + 1, gz, cz, by omega, by go_num, (by rw [← HSt.out]; exact HLz.out), ⟨by assumption, by assumption, by assumption⟩, by assumption⟩
        case measure => simp [intOf]; omega
    · obtain rfl : k = x.imports.length := by omega
      have HB := Lib.hid hbel
      clear hbel
      go_wp2_with fail
      go_loopw [40] (fun i wr => ∃ k g c : Nat, k ≤ x.cores.length ∧ i = .int .i64 k ∧ Hid (LineAt w1.heap.size wr g c (tC x k)) ∧ (wr.cell? ⟨w.heap.size, 0, none⟩ = some (.int .i64 x.pages) ∧ wr.cell? ⟨w.heap.size, 1, none⟩ = some (.slice Rimports x.imports.length cimports) ∧ wr.cell? ⟨w.heap.size, 2, none⟩ = some (.slice Rcores x.cores.length ccores)) ∧ Below w.heap.size w wr) (fun i _ => x.cores.length - (intOf i).toNat)
      case atStart => exact ⟨0, g, c, Nat.zero_le _, rfl, (by rw [Z1.out]; exact HL.out), ⟨m0, m1, m2⟩, HB.out⟩
      case round =>
        clear m0 m1 m2 HB HL hlt g c
        obtain ⟨k, g, c, hk, rfl, HL, ⟨m0, m1, m2⟩, hbel⟩ := hrel
        by_cases hlt : k < x.cores.length
        · obtain ⟨b, o, y, Rcode, ccode, rfl, _, hyk, hc⟩ := H.out.2.at_ hlt
          obtain ⟨c0_, c1_, c2_, c3_, c4_, hat⟩ := hc
          replace c0_ := keepCell hbel c0_
          replace c1_ := keepCell hbel c1_
          replace c2_ := keepCell hbel c2_
          replace c3_ := keepCell hbel c3_
          replace c4_ := keepCell hbel c4_
          have hy := HM.out.co k y hyk
          obtain ⟨p1, p2, p3, p4, p5⟩ := coV_parts hy
          have jy := (lnC_size hy).2
          have CP := (fun W (hb : Below w.heap.size w W) => decimal_any y.params (by omega) (by omega) W (HPJ.out.keep hb))
          have CLo := (fun W (hb : Below w.heap.size w W) => decimal_any y.locals (by omega) (by omega) W (HPJ.out.keep hb))
          have CO := (fun W => oneIf_any y.result W)
          have CQ : ∀ W, Below w.heap.size w W → Calls Tryz.prog 37 #[.int .i64 (if y.result = true then 1 else 0)] W fun e w' => e = .returned (.string (bitN y.result)) ∧ Below W.heap.size W w' := (fun W hb => decimal_any (if y.result = true then 1 else 0) (by split <;> omega) (by split <;> omega) W (HPJ.out.keep hb))
          have CAi : Hid (∀ (P g c gx cx : Nat) (s : ByteArray) (W : World), s.size ≤ 100000 → LineAt P W g c s → W.cell? ⟨gx, 0, none⟩ = some (.string wCor) → W.cell? ⟨gx, 1, none⟩ = some (.string y.name) → W.cell? ⟨gx, 2, none⟩ = some (.string (numB y.params)) → W.cell? ⟨gx, 3, none⟩ = some (.string (numB y.locals)) → W.cell? ⟨gx, 4, none⟩ = some (.string (bitN y.result)) → gx < W.heap.size → 5 ≤ cx → Calls Tryz.prog 36 #[.pointer (some ⟨P, 0, none⟩), .slice (some ⟨gx, 0, none⟩) 5 cx] W fun e w' => e = .returned (.tuple #[]) ∧ ∃ g' c', LineAt P w' g' c' (s ++ lnC y) ∧ Below P W w' ∧ (∀ k, k < W.heap.size → k ≠ P → k ≠ g → w'.heap[k]? = W.heap[k]?)) := Lib.hid (fun P g c gx cx s W hs hL q0 q1 q2 q3 q4 hlt hcx => add_any [wCor, y.name, (numB y.params), (numB y.locals), (bitN y.result)] (by show 5 ≤ 8; omega) (by show (jC y).size ≤ 2000; omega) P g c gx cx W s hs hL (fun i p hp => by
          match i with
          | 0 => cases hp; exact q0
          | 1 => cases hp; exact q1
          | 2 => cases hp; exact q2
          | 3 => cases hp; exact q3
          | 4 => cases hp; exact q4
          | i + 5 => cases hp) hlt hcx)
          have z0 := fun O => keepCell (below1 wr O) c0_
          have z1 := fun O => keepCell (below1 wr O) c1_
          have z2 := fun O => keepCell (below1 wr O) c2_
          have z3 := fun O => keepCell (below1 wr O) c3_
          have z4 := fun O => keepCell (below1 wr O) c4_
          have HSZ : Hid ((tC x k).size ≤ 100000) := Lib.hid (by have := tC_size HM.out HF.out hk; omega)
          have ZX : Hid (tX x k y 0 = tC x k ++ lnC y) := Lib.hid (runTo_zero _ _ _)
          have HLast := Lib.hid (tX_last hyk)
          have HY := Lib.hid hyk
          have HP5 := Lib.hid p5
          have HAt := Lib.hid hat
          have h120 : (y.code.length : Int) ≤ 120 := by omega
          have HB := Lib.hid hbel
          have hbs := hbel.size
          have f0 : w.heap.size ≤ w1.heap.size := Nat.le_of_lt hw1
          have hgn := HL.out.row.new
          have hgl := HL.out.row.lt
          have f1 : wr.heap.size ≠ w1.heap.size := by omega
          have f2 : wr.heap.size ≠ g := by omega
          have HX : Hid (Below wr.heap.size wr (wr.alloc (.cells #[.string y.name, .int .i64 y.params, .int .i64 y.locals, .bool y.result, .slice Rcode y.code.length ccode] 56)).drew) := Lib.hid (below1 wr _).drew
          clear hyk hbel hy p1 p2 p3 p5 jy hgn hgl hat
          unfold wCor at CAi
          generalize numB y.params = E at *
          generalize numB y.locals = F at *
          generalize bitN y.result = Bt at *
          generalize (if y.result = true then (1 : Int) else 0) = V at *
          have CP := Lib.hid CP
          have CLo := Lib.hid CLo
          have CO := Lib.hid CO
          have CQ := Lib.hid CQ
          go_wp2_with fail
          go_region_held3 (fun w' => w'.cell? ⟨wr.heap.size, 0, none⟩ = some (.string y.name) ∧ w'.cell? ⟨wr.heap.size, 1, none⟩ = some (.int .i64 y.params) ∧ w'.cell? ⟨wr.heap.size, 2, none⟩ = some (.int .i64 y.locals) ∧ w'.cell? ⟨wr.heap.size, 3, none⟩ = some (.bool y.result) ∧ w'.cell? ⟨wr.heap.size, 4, none⟩ = some (.slice Rcode y.code.length ccode) ∧ w'.cell? ⟨w.heap.size, 0, none⟩ = some (.int .i64 x.pages) ∧ w'.cell? ⟨w.heap.size, 1, none⟩ = some (.slice Rimports x.imports.length cimports) ∧ w'.cell? ⟨w.heap.size, 2, none⟩ = some (.slice (some ⟨b, o, none⟩) x.cores.length ccores) ∧ Below w.heap.size w w')
            (first | assumption | exact held8b_next (by assumption) (by assumption) | exact add8_next (by assumption) (by assumption) (by assumption) f1 f2 hw1 f0 | exact held8b_next (by assumption) (below1 _ _) | exact ⟨by go_simp, by go_simp, by go_simp, by go_simp, by go_simp, keepCell (below1 wr _).drew m0, keepCell (below1 wr _).drew m1, keepCell (below1 wr _).drew m2, (HB.out.alloc hbs _).drew⟩)
            (first
              | (go_at_call 37; (with_reducible refine (CP.out _ (HB.out.trans (HX.out.mono hbs))).mono ?_); rintro e wm ⟨rfl, hb⟩; have HX := Lib.hid (bnext HX.out hb))
              | (go_at_call 37; (with_reducible refine (CLo.out _ (HB.out.trans (HX.out.mono hbs))).mono ?_); rintro e wm ⟨rfl, hb⟩; have HX := Lib.hid (bnext HX.out hb))
              | (go_at_call 37; (with_reducible refine (CQ.out _ (HB.out.trans (HX.out.mono hbs))).mono ?_); rintro e wm ⟨rfl, hb⟩; have HX := Lib.hid (bnext HX.out hb))
              | (go_at_call 38; (with_reducible refine (CO.out _).mono ?_); rintro e wm ⟨rfl, hb⟩; have HX := Lib.hid (bnext HX.out hb))
              | (go_at_call 36; refine (CAi.out _ _ _ _ _ _ _ HSZ.out (HL.out.below (bnext HX.out (below1 _ _))) (by go_simp) (by go_simp) (by go_simp) (by go_simp) (by go_simp) (by simp) (by simp)).mono ?_; rintro e wz ⟨rfl, gz, cz, hLz, hbz, hkz⟩; have HLz := Lib.hid hLz; clear hLz))
          all_goals
            clear m0 m1 m2 z0 z1 z2 z3 z4 c0_ c1_ c2_ c3_ c4_ f1 f2
            clear HX CP CLo CO CQ CAi HL
            go_split_ands
            go_wp2_with fail
            go_loopw [61] (fun i wx => ∃ j g c : Nat, j ≤ y.code.length ∧ i = .int .i64 j ∧ Hid (LineAt w1.heap.size wx g c (tX x k y j)) ∧ (wx.cell? ⟨w.heap.size, 0, none⟩ = some (.int .i64 x.pages) ∧ wx.cell? ⟨w.heap.size, 1, none⟩ = some (.slice Rimports x.imports.length cimports) ∧ wx.cell? ⟨w.heap.size, 2, none⟩ = some (.slice (some ⟨b, o, none⟩) x.cores.length ccores)) ∧ Below w.heap.size w wx) (fun i _ => y.code.length - (intOf i).toNat)
            case atStart => exact ⟨0, gz, cz, Nat.zero_le _, rfl, (by rw [ZX.out]; exact HLz.out), ⟨by assumption, by assumption, by assumption⟩, by assumption⟩
            case round =>
              obtain ⟨j, g, c, hj, rfl, HL, ⟨n0, n1, n2⟩, hbw⟩ := hrel
              by_cases hlj : j < y.code.length
              · obtain ⟨b', o', i, rfl, _, hij, hci⟩ := (Ins.below HAt.out hbw).at_ hlj
                obtain ⟨d0_, d1_, _⟩ := hci
                have hfi := fin_at HF.out HY.out hij
                have hvi : insV i.op i.a = true := all_at HP5.out hij
                have jx := (lnX_size hfi).2
                have CI := (fun W (hb : Below w.heap.size w W) => implInsText_any i.op i.a hfi.2.1 hfi.2.2 W (HT.out.keep hb) (HPJ.out.keep hb))
                rw [if_pos hvi] at CI
                have CAx : Hid (∀ (P g c gx cx : Nat) (s : ByteArray) (W : World), s.size ≤ 100000 → LineAt P W g c s → W.cell? ⟨gx, 0, none⟩ = some (.string (insT i.op i.a)) → gx < W.heap.size → 1 ≤ cx → Calls Tryz.prog 36 #[.pointer (some ⟨P, 0, none⟩), .slice (some ⟨gx, 0, none⟩) 1 cx] W fun e w' => e = .returned (.tuple #[]) ∧ ∃ g' c', LineAt P w' g' c' (s ++ lnX i) ∧ Below P W w' ∧ (∀ k, k < W.heap.size → k ≠ P → k ≠ g → w'.heap[k]? = W.heap[k]?)) := Lib.hid (fun P g c gx cx s W hs hL q0 hlt hcx => add_any [(insT i.op i.a)] (by show 1 ≤ 8; omega) (by show (jX i).size ≤ 2000; omega) P g c gx cx W s hs hL (fun i p hp => by
          match i with
          | 0 => cases hp; exact q0
          | i + 1 => cases hp) hlt hcx)
                have HSZ : Hid ((tX x k y j).size ≤ 100000) := Lib.hid (by have := tX_size HM.out HF.out HY.out hj; omega)
                have HSx : Hid (tX x k y j ++ lnX i = tX x k y (j + 1)) := Lib.hid (runTo_step hij)
                have d0 := fun O => keepCell (below1 wr O) d0_
                have d1 := fun O => keepCell (below1 wr O) d1_
                have HBw := Lib.hid hbw
                have hbs := hbw.size
                have f0 : w.heap.size ≤ w1.heap.size := Nat.le_of_lt hw1
                clear hfi hvi hij hbw jx
                generalize insT i.op i.a = It at *
                have CI := Lib.hid CI
                go_wp2_with (first
                  | (go_at_call 39; (with_reducible refine (CI.out _ (HBw.out.alloc hbs _)).mono ?_); rintro e w5 ⟨rfl, h5⟩; have HX5 := Lib.hid (bnext (below1 wr _) h5); have HB5 := Lib.hid (bnext (HBw.out.alloc hbs _) h5); replace n0 := keepCell h5 (keepCell (below1 wr _) n0); replace n1 := keepCell h5 (keepCell (below1 wr _) n1); replace n2 := keepCell h5 (keepCell (below1 wr _) n2); clear h5)
                  | (go_at_call 36; refine (CAx.out _ _ _ _ _ _ _ HSZ.out (HL.out.below (bnext HX5.out (below1 _ _))) (by go_simp) (by simp) (by simp)).mono ?_; rintro e w6 ⟨rfl, g6, c6, hL6, hb6, _⟩; have HB6 : Hid (Below w.heap.size w w6) := Lib.hid ((HB5.out.alloc HB5.out.size _).trans (hb6.mono f0)); replace n0 := keepLow hb6 hw1 (keepCell (below1 _ _) n0); replace n1 := keepLow hb6 hw1 (keepCell (below1 _ _) n1); replace n2 := keepLow hb6 hw1 (keepCell (below1 _ _) n2); have HL6 := Lib.hid hL6; clear hL6 hb6))
                go_roundw
                case rel => exact ⟨j + 1, g6, c6, by omega, by go_num, (by rw [← HSx.out]; exact HL6.out), ⟨n0, n1, n2⟩, HB6.out⟩
                case measure => simp [intOf]; omega
              · obtain rfl : j = y.code.length := by omega
                have HBw := Lib.hid hbw
                clear hbw
                go_wp2_with fail
                go_roundw
                case rel => exact ⟨k + 1, g, c, by omega, by go_num, (by rw [← HLast.out]; exact HL.out), ⟨n0, n1, n2⟩, HBw.out⟩
                case measure => simp [intOf]; omega
        · obtain rfl : k = x.cores.length := by omega
          have HB := Lib.hid hbel
          have hcv := HL.out.row.backL
          have hcl := HL.out.cell
          clear hbel
          go_wp2_with fail
          go_ret
          exact ⟨rfl, HB.out⟩
theorem implModuleText_any (x : Mo) (hx : x.wt ≤ 1048576) (hf : x.Fin) (Rimports : Option Addr) (cimports : Nat) (Rcores : Option Addr) (ccores : Nat) (lo : Nat) (w : World) (h : Mo.At w lo x Rimports Rcores) (ht : OpTab w) (hp : PowsJ w) :
    Calls Tryz.prog 12 #[.agg #[.int .i64 x.pages, .slice Rimports x.imports.length cimports, .slice Rcores x.cores.length ccores]] w fun e w' => e = .returned (.string (txtA x)) ∧ Below w.heap.size w w' := by
  unfold txtA
  by_cases hP : shapeV x = true
  · rw [if_pos hP]
    exact implModuleText_yes x hx hf Rimports cimports Rcores ccores lo w h ht hp hP
  · rw [if_neg hP]
    have CM := (fun W (hb : Below w.heap.size w W) => implModuleShape2_any x hx hf Rimports cimports Rcores ccores lo W (h.below hb) (ht.keep hb))
    rw [Bool.eq_false_iff.mpr hP] at CM
    have CM := Lib.hid CM
    clear h ht hf hx hP hp
    go_enter Tryz.func12, Tryz.ntmps12
    go_wp2_with (go_at_call 26; (with_reducible refine (CM.out _ (below1 _ _)).mono ?_); rintro e w1 ⟨rfl, h1⟩; have HB1 := Lib.hid (bnext (below1 _ _) h1); clear h1)
    go_ret
    exact ⟨rfl, HB1.out⟩
end Go.Proofs.YtbjcldekapipaaaGreatDoor

namespace Go.Proofs.YtbjcldekapipaaaGreatDoor
open Go.ChangeShapes Go.WideShapes Go.ChangeAt Go.RowKit Go.Deep

set_option maxHeartbeats 2000000 in
set_option maxRecDepth 100000 in
theorem fnExactModuleTextLaw (x : Mo) (Rimports : Option Addr) (cimports : Nat) (Rcores : Option Addr) (ccores : Nat) (w : World) (hat : Mo.At w 0 x Rimports Rcores) (hfin : x.Fin) (ht : OpTab w) (hp : PowsJ w) :
    Calls Tryz.prog 4 #[.agg #[.int .i64 x.pages, .slice Rimports x.imports.length cimports, .slice Rcores x.cores.length ccores]] w fun e w' => e = .returned (.bool true) ∧ Below w.heap.size w w' := by
  have S := fun W h => szModule_any x hfin 1048576 (by omega) (by omega) Rimports cimports Rcores ccores 0 W h
  have HA := Lib.hid hat
  have HOT := Lib.hid (And.intro ht hp)
  clear ht hp
  have hn0 := x.wt_nonneg
  clear hat
  by_cases hn : 1048576 - x.wt < 0
  · rw [leftOr_neg hn] at S
    have S := Lib.hid S
    clear hn
    go_enter Tryz.func4, Tryz.ntmps4
    go_wp2_with fail
    go_at_call 6
    refine (S.out _ (HA.out.below (below1 _ _))).mono ?_
    rintro e w2 ⟨rfl, hb2⟩
    have HB2 := Lib.hid (bnext (below1 _ _) hb2)
    clear hb2
    go_wp2_with fail
    go_ret
    exact ⟨rfl, HB2.out⟩
  · have hT : x.wt ≤ 1048576 := by omega
    rw [leftOr_pos (by omega)] at S
    obtain ⟨L, hL⟩ : ∃ L, 1048576 - x.wt = L := ⟨_, rfl⟩
    rw [hL] at S
    have hL0 : 0 ≤ L := by omega
    have S := Lib.hid S
    have HT := Lib.hid (fun W h => toModule_any x hT Rimports cimports Rcores ccores 0 W h)
    have HE := Lib.hid (fun Rimports1 cimports1 Rcores1 ccores1 Rimports2 cimports2 Rcores2 ccores2 lo lo' W h h' => eqModule_any x hT Rimports1 cimports1 Rcores1 ccores1 Rimports2 cimports2 Rcores2 ccores2 lo lo' W h h')
    obtain ⟨v0, hv0⟩ : ∃ v, txtA x = v := ⟨_, rfl⟩
    have HS : Hid (∀ (Rimports : Option Addr) (cimports : Nat) (Rcores : Option Addr) (ccores : Nat) (lo : Nat) (W : World), Mo.At W lo x Rimports Rcores → (x.imports.length ≤ cimports ∧ x.cores.length ≤ ccores) → Calls Tryz.prog 11 #[.agg #[.int .i64 x.pages, .slice Rimports x.imports.length cimports, .slice Rcores x.cores.length ccores]] W fun e w' => e = .returned (.string v0) ∧ Below W.heap.size W w') := Lib.hid (fun Rimports cimports Rcores ccores lo W h hc => by
      have hh := specModuleText_any x hT hfin Rimports cimports Rcores ccores   lo W h hc
      rw [hv0] at hh
      exact hh)
    have HI : Hid (∀ (Rimports : Option Addr) (cimports : Nat) (Rcores : Option Addr) (ccores : Nat) (lo : Nat) (W : World), Mo.At W lo x Rimports Rcores → (OpTab W ∧ PowsJ W) → Calls Tryz.prog 12 #[.agg #[.int .i64 x.pages, .slice Rimports x.imports.length cimports, .slice Rcores x.cores.length ccores]] W fun e w' => e = .returned (.string v0) ∧ Below W.heap.size W w') := Lib.hid (fun Rimports cimports Rcores ccores lo W h ht => by
      have hh := implModuleText_any x hT hfin Rimports cimports Rcores ccores   lo W h ht.1 ht.2
      rw [hv0] at hh
      exact hh)
    clear hn hL hn0 hT hfin hv0
    go_enter Tryz.func4, Tryz.ntmps4
    go_wp2_with fail
    go_at_call 6
    refine (S.out _ (HA.out.below (below1 _ _))).mono ?_
    rintro e w2 ⟨rfl, hb2⟩
    have k0 := keepCell (a := ⟨w.heap.size, 0, none⟩) (v := .int .i64 x.pages) hb2 (by go_simp)
    have k1 := keepCell (a := ⟨w.heap.size, 1, none⟩) (v := .slice Rimports x.imports.length cimports) hb2 (by go_simp)
    have k2 := keepCell (a := ⟨w.heap.size, 2, none⟩) (v := .slice Rcores x.cores.length ccores) hb2 (by go_simp)
    have HB2 := Lib.hid (bnext (below1 _ _) hb2)
    clear hb2 S
    go_wp2_with fail
    go_at_call 8
    refine (HT.out _ (HA.out.below HB2.out)).mono ?_
    rintro e w3 ⟨Rimports3, cimports3, Rcores3, ccores3, rfl, hc3, ha3, hb3⟩
    replace k0 := keepCell hb3 k0
    replace k1 := keepCell hb3 k1
    replace k2 := keepCell hb3 k2
    have HB3 := Lib.hid (bnext HB2.out hb3)
    have HA3 := Lib.hid ha3
    have HC3 := Lib.hid hc3
    clear hb3 ha3 hc3
    go_wp2_with fail
    go_at_call 11
    refine (HS.out _ _ _ _ _ _ HA3.out HC3.out).mono ?_
    rintro e w4 ⟨rfl, hb4⟩
    replace k0 := keepCell hb4 k0
    replace k1 := keepCell hb4 k1
    replace k2 := keepCell hb4 k2
    have HB4 := Lib.hid (bnext HB3.out hb4)
    clear hb4
    go_wp2_with fail
    go_at_call 8
    refine (HT.out _ (HA.out.below HB4.out)).mono ?_
    rintro e w5 ⟨Rimports5, cimports5, Rcores5, ccores5, rfl, _, ha5, hb5⟩
    replace k0 := keepCell hb5 k0
    replace k1 := keepCell hb5 k1
    replace k2 := keepCell hb5 k2
    have HB5 := Lib.hid (bnext HB4.out hb5)
    have HA5 := Lib.hid ha5
    clear hb5 ha5
    go_wp2_with fail
    go_at_call 12
    refine (HI.out _ _ _ _ _ _ (HA5.out.below (below1 _ _)) (And.intro (HOT.out.1.keep (bnext HB5.out (below1 _ _))) (HOT.out.2.keep (bnext HB5.out (below1 _ _))))).mono ?_
    rintro e w6 ⟨rfl, hb6⟩
    have j0 := keepCell (a := ⟨w5.heap.size, 0, none⟩) (v := .int .i64 x.pages) hb6 (by go_simp)
    have j1 := keepCell (a := ⟨w5.heap.size, 1, none⟩) (v := .slice Rimports5 x.imports.length cimports5) hb6 (by go_simp)
    have j2 := keepCell (a := ⟨w5.heap.size, 2, none⟩) (v := .slice Rcores5 x.cores.length ccores5) hb6 (by go_simp)
    replace k0 := keepCell hb6 (keepCell (below1 w5 _) k0)
    replace k1 := keepCell hb6 (keepCell (below1 w5 _) k1)
    replace k2 := keepCell hb6 (keepCell (below1 w5 _) k2)
    have HB6 := Lib.hid (bnext (bnext HB5.out (below1 _ _)) hb6)
    have HN6 := Lib.hid (bnext (below1 _ _) hb6)
    clear hb6
    go_wp2_with fail
    go_region_held3 (fun w' => w'.cell? ⟨w5.heap.size, 0, none⟩ = some (.int .i64 x.pages) ∧ w'.cell? ⟨w5.heap.size, 1, none⟩ = some (.slice Rimports5 x.imports.length cimports5) ∧ w'.cell? ⟨w5.heap.size, 2, none⟩ = some (.slice Rcores5 x.cores.length ccores5) ∧ w'.cell? ⟨w.heap.size, 0, none⟩ = some (.int .i64 x.pages) ∧ w'.cell? ⟨w.heap.size, 1, none⟩ = some (.slice Rimports x.imports.length cimports) ∧ w'.cell? ⟨w.heap.size, 2, none⟩ = some (.slice Rcores x.cores.length ccores) ∧ Below w6.heap.size w6 w')
      (first | assumption | (exact (Below.refl _ _).drew) | (exact ⟨j0, j1, j2, k0, k1, k2, (Below.refl _ _).drew⟩) | (refine ⟨?_, ?_, ?_, ?_, ?_, ?_, ?_⟩ <;> assumption))
      (first
        | (go_at_call 8; refine (HT.out _ (HA.out.below HB6.out.drew)).mono ?_; rintro e w7 ⟨Rimports7, cimports7, Rcores7, ccores7, rfl, _, ha7, hb7⟩; have hbw : Below w6.heap.size w6 w7 := (Below.refl w6.heap.size w6).drew.trans hb7; have pj0 := keepCell hbw j0; have pj1 := keepCell hbw j1; have pj2 := keepCell hbw j2; have pk0 := keepCell hbw k0; have pk1 := keepCell hbw k1; have pk2 := keepCell hbw k2)
        | (go_at_call 10; refine (HE.out _ _ _ _ _ _ _ _ _ _ _ ((HA5.out.below HN6.out).below hbw) ha7).mono ?_; rintro e w8 ⟨rfl, hb8⟩; have hbw8 : Below w6.heap.size w6 w8 := hbw.trans (hb8.mono hbw.size); have rj0 := keepCell hbw8 j0; have rj1 := keepCell hbw8 j1; have rj2 := keepCell hbw8 j2; have rk0 := keepCell hbw8 k0; have rk1 := keepCell hbw8 k1; have rk2 := keepCell hbw8 k2))
    go_wp2_with fail
    go_ret
    exact ⟨rfl, bnext HB6.out (by assumption)⟩
end Go.Proofs.YtbjcldekapipaaaGreatDoor

namespace Go.Proofs.YtbjcldekapipaaaGreatDoor
open Go.ChangeShapes Go.WideShapes Go.ChangeAt Go.RowKit

theorem gPowK : Tryz.prog.globalNamed "internal/strconv.uint64pow10" = some 1 := by kernel_rfl
theorem gPowTypeK : (Tryz.prog.globals[1]?).map (·.type) = some 199 := by kernel_rfl
theorem cellsU64K : Tryz.prog.cellsOf 112 = 1 := by kernel_rfl
theorem cellsPowK : Tryz.prog.cellsOf 199 = 20 := by kernel_rfl
theorem powDataK : (Rows.laid_internal_strconv_uint64pow10 : DataW Unit) = Lib.tabData .u64 Lib.pow10Tab := by kernel_rfl
set_option maxRecDepth 100000 in
theorem powsMT {W : World} (h : laidMetH Tryz.prog Rows.fnExactModuleTextRow.laid W) : PowsJ W := by
  have h0 : laidMet Tryz.prog [("math/bits.deBruijn32tab", Rows.laid_math_bits_deBruijn32tab), ("math/bits.deBruijn64tab", Rows.laid_math_bits_deBruijn64tab), ("internal/strconv.uint64pow10", Rows.laid_internal_strconv_uint64pow10), ("unicode/utf8.acceptRanges", Rows.laid_unicode_utf8_acceptRanges), ("loop.example/g00901/impl.mnemonics", Rows.laid_loop_example_g00901_impl_mnemonics), ("unicode/utf8.first", Rows.laid_unicode_utf8_first)] W := h
  obtain ⟨ps, ⟨_, _, _, _, _, _, _, _, _, _, ⟨_, _, _, _, _, _, _, _, _, _, ⟨g', t', cs, fuel, p, q, hg', ht', hvar, hd, _, _⟩, _⟩, _⟩, _⟩ := h0
  obtain rfl := Option.some.inj (gPowK.symm.trans hg')
  obtain rfl := Option.some.inj (gPowTypeK.symm.trans ht')
  rw [powDataK] at hd
  unfold PowsJ Lib.TabIs
  rw [hvar, ← Lib.cells_of_tab Tryz.underlying199 Tryz.underlying112 cellsU64K cellsPowK hd]
set_option maxRecDepth 100000 in
theorem opTabMT {W : World} (h : laidMetH Tryz.prog Rows.fnExactModuleTextRow.laid W) : OpTab W := by
  have h0 : laidMet Tryz.prog [("math/bits.deBruijn32tab", Rows.laid_math_bits_deBruijn32tab), ("math/bits.deBruijn64tab", Rows.laid_math_bits_deBruijn64tab), ("internal/strconv.uint64pow10", Rows.laid_internal_strconv_uint64pow10), ("unicode/utf8.acceptRanges", Rows.laid_unicode_utf8_acceptRanges), ("loop.example/g00901/impl.mnemonics", Rows.laid_loop_example_g00901_impl_mnemonics), ("unicode/utf8.first", Rows.laid_unicode_utf8_first)] W := h
  obtain ⟨ps, ⟨_, _, _, _, _, _, _, _, _, _, ⟨_, _, _, _, _, _, _, _, _, _, ⟨_, _, _, _, _, _, _, _, _, _, ⟨_, _, _, _, _, _, _, _, _, _, ⟨g', t', cs, fuel, p, q, hg', ht', hvar, hd, _, _⟩, _⟩, _⟩, _⟩, _⟩, _⟩ := h0
  obtain rfl := Option.some.inj (gOp.symm.trans hg')
  obtain rfl := Option.some.inj (gOpType.symm.trans ht')
  obtain ⟨xs, m, rfl, hx, hlen, hxl, hi⟩ := DataW.trod_array Tryz.underlying161 hd
  intro i hi41
  have h1 := hi i hi41
  rw [cellsOp, Nat.mul_one] at h1
  rw [World.var?_cell gOp hvar i]
  have hxi : i < xs.length := by omega
  rw [List.getElem?_eq_getElem hxi] at h1
  obtain ⟨s, hs, hxs, _⟩ := DataW.trod_string Tryz.underlying9 h1
  have h2 : cs.toList[i]? = some (.string s) := by
    have h3 : ((cs.toList.drop i).take 1)[0]? = some (.string s) := by rw [hs]; rfl
    simpa using h3
  have h4 : cs[i]? = some (.string s) := by simpa using h2
  rw [h4]
  have h5 : (xs.map (·.1))[i]? = some (.lit (.string s.data.toList)) := by
    rw [List.getElem?_map, List.getElem?_eq_getElem hxi, hxs]; rfl
  have h6 : xs.map (·.1) = opWs.map fun l => DataW.lit (.string l) := by
    have h7 := congrArg Prod.fst hx
    simp only at h7
    injection h7 with h8
    exact h8.symm
  rw [h6, List.getElem?_map] at h5
  have h9 : opWs[i]? = some s.data.toList := by
    cases hw : opWs[i]? with
    | none => rw [hw] at h5; cases h5
    | some l =>
      rw [hw] at h5
      injection h5 with h5
      injection h5 with h5
      injection h5 with h5
      rw [h5]
  unfold opB
  rw [List.getD_eq_getElem?_getD, h9]
  rfl

end Go.Proofs.YtbjcldekapipaaaGreatDoor

