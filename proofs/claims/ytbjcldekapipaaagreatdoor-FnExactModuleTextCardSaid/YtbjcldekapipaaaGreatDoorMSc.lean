/-
  SecB, SecO, SecA, SecI: in one text.
-/
import Derived.Test.YtbjcldekapipaaaGreatDoorSecN
import Derived.Test.YtbjcldekapipaaaGreatDoorPutBytesLaw
import Derived.Test.YtbjcldekapipaaaGreatDoorPutFix
import Derived.Test.YtbjcldekapipaaaGreatDoorMSw
import Derived.Test.YtbjcldekapipaaaGreatDoorRowB
import Derived.Deep.RegionHeld3
import Derived.Lib.SlBytesConst
namespace Go.Proofs.YtbjcldekapipaaaGreatDoor
open Go.ChangeShapes Go.WideShapes Go.ChangeAt Go.RowKit Go.Deep

def putB (t : ByteArray) : ByteArray := strOfNums (lebU t.size) ++ t
/-- A section's content. -/
def secC (x : Sc) : ByteArray := if x.id = 0 then putB x.name ++ x.bytes else x.bytes
def secB (x : Sc) : ByteArray := strOfNums (fixl x.id 1) ++ putB (secC x)
def secV (x : Sc) : Bool := if x.id = 0 then nameV x.name else decide (1 ≤ x.id ∧ x.id ≤ 4) && decide (x.name.size = 0)
def headB : ByteArray := ⟨#[0, 99, 111, 114, 1]⟩
def secCat : List Sc → ByteArray
  | [] => ⟨#[]⟩
  | x :: xs => secB x ++ secCat xs
def secTo (xs : List Sc) (k : Nat) : ByteArray := headB ++ secCat (xs.take k)
/-- The answer. -/
def secA (xs : List Sc) : ByteArray := if xs.length ≤ 20 ∧ xs.all secV = true ∧ (secTo xs xs.length).size ≤ 30000 then secTo xs xs.length else ⟨#[]⟩
/-- One of the first so many is not in order. -/
def BadS (xs : List Sc) (k : Nat) : Prop := ∃ (i : Nat) (x : Sc), i < k ∧ xs[i]? = some x ∧ secV x = false
theorem BadS.no_step {xs : List Sc} {k : Nat} {x : Sc} (h : ¬ BadS xs k) (hx : xs[k]? = some x) (ho : secV x = true) : ¬ BadS xs (k + 1) := fun ⟨i, u, hi, hu, hno⟩ => by
  by_cases e : i = k
  · subst e
    rw [hx] at hu
    cases hu
    rw [ho] at hno
    cases hno
  · exact h ⟨i, u, by omega, hu, hno⟩
theorem BadS.not_all {xs : List Sc} {k : Nat} (h : BadS xs k) : ¬ xs.all secV = true := fun ha => by
  obtain ⟨i, x, _, hx, hv⟩ := h
  have := List.all_eq_true.mp ha x (List.mem_of_getElem? hx)
  rw [hv] at this
  cases this
theorem BadS.all {xs : List Sc} (h : ¬ BadS xs xs.length) : xs.all secV = true := by
  rw [List.all_eq_true]
  intro x hx
  obtain ⟨i, hi⟩ := List.getElem?_of_mem hx
  cases hv : secV x with
  | true => rfl
  | false => exact absurd ⟨i, x, (List.getElem?_eq_some_iff.1 hi).1, hi, hv⟩ h
theorem app_nilS (a : ByteArray) : a ++ (⟨#[]⟩ : ByteArray) = a := by
  refine ByteArray.ext (Array.toList_inj.mp ?_)
  rw [ByteArray.data_append, Array.toList_append]
  simp
theorem nil_appS (a : ByteArray) : (⟨#[]⟩ : ByteArray) ++ a = a := by
  refine ByteArray.ext (Array.toList_inj.mp ?_)
  rw [ByteArray.data_append, Array.toList_append]
  simp
theorem secCat_snoc : ∀ (xs : List Sc) (x : Sc), secCat (xs ++ [x]) = secCat xs ++ secB x
  | [], x => by
    show secB x ++ ⟨#[]⟩ = ⟨#[]⟩ ++ secB x
    rw [app_nilS, nil_appS]
  | y :: xs, x => by
    show secB y ++ secCat (xs ++ [x]) = (secB y ++ secCat xs) ++ secB x
    rw [secCat_snoc xs x, ByteArray.append_assoc]
theorem secTo_step {xs : List Sc} {k : Nat} {x : Sc} (h : xs[k]? = some x) : secTo xs k ++ secB x = secTo xs (k + 1) := by
  obtain ⟨hk, rfl⟩ := List.getElem?_eq_some_iff.1 h
  unfold secTo
  rw [List.take_succ_eq_append_getElem hk, secCat_snoc, ByteArray.append_assoc]
theorem secTo_zero (xs : List Sc) : secTo xs 0 = headB := by
  unfold secTo
  rw [List.take_zero]
  exact app_nilS _
theorem secTo_mono (xs : List Sc) : ∀ (d k : Nat), k + d ≤ xs.length → (secTo xs k).size ≤ (secTo xs (k + d)).size
  | 0, k, _ => Nat.le_refl _
  | d + 1, k, h => by
    have h1 := secTo_mono xs d k (by omega)
    have hx := List.getElem?_eq_getElem (show k + d < xs.length by omega)
    have h2 := secTo_step hx
    have h3 := congrArg ByteArray.size h2
    rw [ByteArray.size_append] at h3
    rw [show k + (d + 1) = k + d + 1 by omega]
    omega
theorem putB_size (t : ByteArray) (h : t.size ≤ 2000000) : t.size < (putB t).size ∧ (putB t).size ≤ t.size + 10 := by
  unfold putB
  rw [ByteArray.size_append, strOfNums_size]
  have h1 := lebU_pos t.size
  have h2 := lebU_length 9 t.size (by omega)
  omega
theorem secC_size {x : Sc} (hv : secV x = true) (_h : x.bytes.size ≤ 1048576) : x.bytes.size ≤ (secC x).size ∧ (secC x).size ≤ x.bytes.size + 50 := by
  unfold secC
  by_cases h0 : x.id = 0
  · rw [if_pos h0, ByteArray.size_append]
    unfold secV at hv
    rw [if_pos h0] at hv
    unfold nameV at hv
    rw [Bool.and_eq_true, decide_eq_true_iff] at hv
    have := putB_size x.name (by omega)
    omega
  · rw [if_neg h0]
    omega
theorem secB_size {x : Sc} (hv : secV x = true) (h : x.bytes.size ≤ 1048576) : x.bytes.size < (secB x).size ∧ (secB x).size ≤ x.bytes.size + 61 := by
  obtain ⟨h1, h2⟩ := secC_size hv h
  obtain ⟨h3, h4⟩ := putB_size (secC x) (by omega)
  unfold secB
  rw [ByteArray.size_append, strOfNums_size, fixl_length]
  omega
theorem secA_long {xs : List Sc} (h : ¬ xs.length ≤ 20) : secA xs = ⟨#[]⟩ := by
  unfold secA
  rw [if_neg (fun e => h e.1)]
theorem secA_bad {xs : List Sc} {k : Nat} (h : BadS xs k) : secA xs = ⟨#[]⟩ := by
  unfold secA
  rw [if_neg (fun e => h.not_all e.2.1)]
theorem secA_great {xs : List Sc} {k : Nat} (hk : k ≤ xs.length) (h : 30000 < (secTo xs k).size) : secA xs = ⟨#[]⟩ := by
  unfold secA
  rw [if_neg]
  intro e
  have := secTo_mono xs (xs.length - k) k (by omega)
  rw [show k + (xs.length - k) = xs.length by omega] at this
  omega
theorem secA_good {xs : List Sc} (hl : xs.length ≤ 20) (h : ¬ BadS xs xs.length) (hz : (secTo xs xs.length).size ≤ 30000) : secA xs = secTo xs xs.length := by
  unfold secA
  rw [if_pos ⟨hl, BadS.all h, hz⟩]

theorem implSectionOk_any (x : Sc) (w : World) :
    Calls Tryz.prog 108 #[.agg #[.int .i64 x.id, .string x.name, .string x.bytes]] w fun e w' => e = .returned (.bool (secV x)) ∧ Below w.heap.size w w' := by
  have C := Lib.hid (fun W => ownNameOk_any x.name W)
  have he := empty_iff x.name
  unfold secV
  by_cases h0 : x.id = 0
  · rw [if_pos h0]
    have q : (x.id == 0) = true := by rw [h0]; rfl
    clear he
    generalize nameV x.name = V at *
    go_enter Tryz.func108, Tryz.ntmps108
    go_wp2_with (go_at_call 135; refine (C.out _).mono ?_; rintro e w1 ⟨rfl, hb1⟩; have HB1 := Lib.hid (bnext (below1 _ _) hb1); clear hb1)
    go_ret
    exact ⟨rfl, HB1.out⟩
  · rw [if_neg h0]
    have q : (x.id == 0) = false := beq_eq_false_iff_ne.mpr h0
    clear C
    by_cases h1 : 1 ≤ x.id
    · by_cases h4 : x.id ≤ 4
      · rw [decide_eq_true ⟨h1, h4⟩, Bool.true_and, ← he]
        clear he
        go_enter Tryz.func108, Tryz.ntmps108
        go_wp2
        go_ret
        exact ⟨rfl, below1 _ _⟩
      · rw [decide_eq_false (fun h => h4 h.2), Bool.false_and]
        clear he
        go_enter Tryz.func108, Tryz.ntmps108
        go_wp2
        go_ret
        exact ⟨rfl, below1 _ _⟩
    · rw [decide_eq_false (fun h => h1 h.1), Bool.false_and]
      clear he
      go_enter Tryz.func108, Tryz.ntmps108
      go_wp2
      go_ret
      exact ⟨rfl, below1 _ _⟩

theorem isOwn_any (x : Sc) (w : World) :
    Calls Tryz.prog 73 #[.agg #[.int .i64 x.id, .string x.name, .string x.bytes]] w fun e w' => e = .returned (.bool (x.id == 0)) ∧ Below w.heap.size w w' := by
  go_enter Tryz.func73, Tryz.ntmps73
  go_wp2
  go_ret
  exact ⟨rfl, below1 _ _⟩
theorem notSection_any (x : Sc) (w : World) :
    Calls Tryz.prog 72 #[.agg #[.int .i64 x.id, .string x.name, .string x.bytes]] w fun e w' => e = .returned (.bool (!secV x)) ∧ Below w.heap.size w w' := by
  have C := Lib.hid (fun W => implSectionOk_any x W)
  generalize secV x = V at *
  go_enter Tryz.func72, Tryz.ntmps72
  go_wp2_with (go_at_call 108; refine (C.out _).mono ?_; rintro e w1 ⟨rfl, hb1⟩; have HB1 := Lib.hid (bnext (below1 _ _) hb1); clear hb1)
  go_ret
  exact ⟨rfl, HB1.out⟩

set_option maxHeartbeats 1000000 in
/-- The index of the first section that is not in order, or -1. -/
theorem idxSc_any (xs : List Sc) (hl : xs.length ≤ 1048576) (R : Option Addr) (c lo : Nat) (w : World) (h : Scs w lo xs R) :
    Calls Tryz.prog 107 #[.slice R xs.length c, .func (.func 72) #[] #[]] w (fun e w' => ∃ v : Int, e = .returned (.int .i64 v) ∧ -1 ≤ v ∧ (0 ≤ v ↔ BadS xs xs.length) ∧ Below w.heap.size w w') := by
  have H := Lib.hid h
  clear h
  go_enter Tryz.func107, Tryz.ntmps107
  go_wp2_with fail
  go_loopw [8] (fun i wr => ∃ k : Nat, k ≤ xs.length ∧ i = .int .i64 k ∧ Hid (¬ BadS xs k) ∧ Below w.heap.size w wr) (fun i _ => xs.length - (intOf i).toNat)
  case atStart => exact ⟨0, Nat.zero_le _, rfl, (fun ⟨i, u, hi, _⟩ => by omega), Below.refl _ _⟩
  case round =>
    obtain ⟨k, hk, rfl, hno, hbel⟩ := hrel
    by_cases hlt : k < xs.length
    · obtain ⟨b, o, x, rfl, _, hxk, hc⟩ := (Scs.below H.out hbel).at_ hlt
      have C := Lib.hid (fun W => notSection_any x W)
      obtain ⟨c0_, c1_, c2_, _⟩ := hc
      have HN := Lib.hid hxk
      have HB := Lib.hid hbel
      clear hxk hbel
      cases hv : secV x with
      | true =>
        rw [hv] at C
        have HV := Lib.hid hv
        clear hv
        go_wp2_with (go_at_call 72; (with_reducible refine (C.out _).mono ?_); rintro e w2 ⟨rfl, hb2⟩; have HB2 := Lib.hid hb2; clear hb2)
        go_roundw
        case rel => exact ⟨k + 1, by omega, by go_num, BadS.no_step hno.out HN.out HV.out, bnext HB.out HB2.out⟩
        case measure => simp [intOf]; omega
      | false =>
        rw [hv] at C
        have HV := Lib.hid hv
        clear hv
        go_wp2_with (go_at_call 72; (with_reducible refine (C.out _).mono ?_); rintro e w2 ⟨rfl, hb2⟩; have HB2 := Lib.hid hb2; clear hb2)
        go_ret
        exact ⟨k, rfl, by omega, ⟨fun _ => ⟨k, x, hlt, HN.out, HV.out⟩, fun _ => by omega⟩, bnext HB.out HB2.out⟩
    · have hk' : k = xs.length := by omega
      have HB := Lib.hid hbel
      clear hbel
      go_wp2
      go_ret
      exact ⟨-1, rfl, by omega, ⟨(fun h => by omega), (fun h => absurd (by rw [hk']; exact h) hno.out)⟩, HB.out⟩
theorem contSc_any (xs : List Sc) (hl : xs.length ≤ 1048576) (R : Option Addr) (c lo : Nat) (w : World) (h : Scs w lo xs R) :
    Calls Tryz.prog 71 #[.slice R xs.length c, .func (.func 72) #[] #[]] w (fun e w' => ∃ v : Bool, e = .returned (.bool v) ∧ (v = true ↔ BadS xs xs.length) ∧ Below w.heap.size w w') := by
  have C := Lib.hid (idxSc_any xs hl R c lo w h)
  clear h
  go_enter Tryz.func71, Tryz.ntmps71
  go_wp2_with (go_at_call 107; (with_reducible refine C.out.mono ?_); rintro e w2 ⟨v, rfl, hv1, hv, hb2⟩; have HV := Lib.hid hv; have HB2 := Lib.hid hb2; clear hv hb2)
  go_ret
  exact ⟨decide (0 ≤ v), rfl, by rw [decide_eq_true_iff]; exact HV.out, HB2.out⟩
end Go.Proofs.YtbjcldekapipaaaGreatDoor

namespace Go.Proofs.YtbjcldekapipaaaGreatDoor
open Go.ChangeShapes Go.WideShapes Go.ChangeAt Go.RowKit Go.Deep

theorem secS_next {w0 wm w' : World} {g : Nat} {v0 v1 v2 : Value} (h : wm.cell? ⟨g, 0, none⟩ = some v0 ∧ wm.cell? ⟨g, 1, none⟩ = some v1 ∧ wm.cell? ⟨g, 2, none⟩ = some v2 ∧ Below w0.heap.size w0 wm) (hb : Below wm.heap.size wm w') :
    w'.cell? ⟨g, 0, none⟩ = some v0 ∧ w'.cell? ⟨g, 1, none⟩ = some v1 ∧ w'.cell? ⟨g, 2, none⟩ = some v2 ∧ Below w0.heap.size w0 w' :=
  ⟨keepCell hb h.1, keepCell hb h.2.1, keepCell hb h.2.2.1, bnext h.2.2.2 hb⟩
theorem specPutB_any (s : ByteArray) (hs : s.size ≤ 2000000) (w : World) : Calls Tryz.prog 52 #[.string s] w fun e w' => e = .returned (.string (putB s)) ∧ Below w.heap.size w w' := specPutBytes_any s w hs
theorem implPutB_any (s : ByteArray) (hs : s.size ≤ 2000000) (w : World) : Calls Tryz.prog 29 #[.string s] w fun e w' => e = .returned (.string (putB s)) ∧ Below w.heap.size w w' := implPutBytes_any s w hs
theorem secV_name {x : Sc} (hv : secV x = true) (h0 : x.id = 0) : x.name.size ≤ 40 := by
  unfold secV at hv
  rw [if_pos h0] at hv
  unfold nameV at hv
  rw [Bool.and_eq_true, decide_eq_true_iff] at hv
  omega
theorem fixl1_size (n : Int) : (strOfNums (fixl n 1)).size = 1 := by rw [strOfNums_size, fixl_length]

set_option maxHeartbeats 1000000 in
theorem l17One_any (x : Sc) (hv : secV x = true) (hs : x.bytes.size ≤ 1048576) (w : World) :
    Calls Tryz.prog 50 #[.agg #[.int .i64 x.id, .string x.name, .string x.bytes]] w fun e w' => e = .returned (.string (secB x)) ∧ Below w.heap.size w w' := by
  have CF : ∀ W, Calls Tryz.prog 97 #[.int .i64 x.id, .int .i64 1] W fun e w' => e = .returned (.string (strOfNums (fixl x.id 1))) ∧ Below W.heap.size W w' := fun W => specPutFix_any x.id 1 W (by omega)
  have hF := fixl1_size x.id
  unfold secB secC
  by_cases h0 : x.id = 0
  · have q : (x.id == 0) = true := by rw [h0]; rfl
    have hn := secV_name hv h0
    have hpn := putB_size x.name (by omega)
    have CN := Lib.hid (fun W => specPutB_any x.name (by omega) W)
    have hsum : (putB x.name ++ x.bytes).size = (putB x.name).size + x.bytes.size := ByteArray.size_append
    have CB := (fun W => specPutB_any (putB x.name ++ x.bytes) (by omega) W)
    have hpb := putB_size (putB x.name ++ x.bytes) (by omega)
    rw [if_pos h0]
    clear hv
    generalize hA : putB (putB x.name ++ x.bytes) = A at *
    clear hA
    generalize putB x.name = N at *
    generalize strOfNums (fixl x.id 1) = F at *
    have CF := Lib.hid CF
    have CB := Lib.hid CB
    have hz1 : ¬ (9223372036854775807 < N.size + x.bytes.size) := by omega
    have hz2 : ¬ (9223372036854775807 < F.size + A.size) := by omega
    clear h0 hF
    go_enter Tryz.func50, Tryz.ntmps50
    go_wp2_with fail
    go_region_held3 (fun w' => w'.cell? ⟨w.heap.size, 0, none⟩ = some (.int .i64 x.id) ∧ w'.cell? ⟨w.heap.size, 1, none⟩ = some (.string x.name) ∧ w'.cell? ⟨w.heap.size, 2, none⟩ = some (.string x.bytes) ∧ Below w.heap.size w w')
      (first | assumption | exact secS_next (by assumption) (by assumption) | (refine ⟨by go_simp, by go_simp, by go_simp, ?_⟩; exact (below1 _ _).drew))
      (first
        | (go_at_call 97; (with_reducible refine (CF.out _).mono ?_); rintro e wm ⟨rfl, hb⟩)
        | (go_at_call 52; (with_reducible refine (CN.out _).mono ?_); rintro e wm ⟨rfl, hb⟩)
        | (go_at_call 52; (with_reducible refine (CB.out _).mono ?_); rintro e wm ⟨rfl, hb⟩))
    all_goals
      go_wp2_with fail
      go_ret
      go_split_ands
      exact ⟨rfl, by assumption⟩
  · have q : (x.id == 0) = false := beq_eq_false_iff_ne.mpr h0
    have CB := Lib.hid (fun W => specPutB_any x.bytes (by omega) W)
    have hpb := putB_size x.bytes (by omega)
    rw [if_neg h0]
    clear hv
    generalize putB x.bytes = A at *
    generalize strOfNums (fixl x.id 1) = F at *
    have CF := Lib.hid CF
    have hz2 : ¬ (9223372036854775807 < F.size + A.size) := by omega
    clear h0 hF
    go_enter Tryz.func50, Tryz.ntmps50
    go_wp2_with fail
    go_region_held3 (fun w' => w'.cell? ⟨w.heap.size, 0, none⟩ = some (.int .i64 x.id) ∧ w'.cell? ⟨w.heap.size, 1, none⟩ = some (.string x.name) ∧ w'.cell? ⟨w.heap.size, 2, none⟩ = some (.string x.bytes) ∧ Below w.heap.size w w')
      (first | assumption | exact secS_next (by assumption) (by assumption) | (refine ⟨by go_simp, by go_simp, by go_simp, ?_⟩; exact (below1 _ _).drew))
      (first
        | (go_at_call 97; (with_reducible refine (CF.out _).mono ?_); rintro e wm ⟨rfl, hb⟩)
        | (go_at_call 52; (with_reducible refine (CB.out _).mono ?_); rintro e wm ⟨rfl, hb⟩))
    all_goals
      go_wp2_with fail
      go_ret
      go_split_ands
      exact ⟨rfl, by assumption⟩
end Go.Proofs.YtbjcldekapipaaaGreatDoor

namespace Go.Proofs.YtbjcldekapipaaaGreatDoor
open Go.ChangeShapes Go.WideShapes Go.ChangeAt Go.RowKit Go.Deep

theorem RowB.ofAlloc (W : World) (vs : Array Value) (s : ByteArray) (ty : TypeId) (h : vs.toList = byteCells s) (hs : s.size ≤ maxLen) : RowB W.heap.size (W.alloc (.cells vs ty (vs.size, vs.size + 1))) W.heap.size s.size s := by
  have hl : vs.size = s.size := by
    have := congrArg List.length h
    rwa [byteCells_length, Array.length_toList] at this
  have hb : (W.alloc (.cells vs ty (vs.size, vs.size + 1))).heap[W.heap.size]? = some (.cells vs ty (vs.size, vs.size + 1)) := by
    show (W.heap.push _)[W.heap.size]? = _
    simp
  refine ⟨Nat.le_refl _, by simp, Nat.le_refl _, hs, fun j u hu => ?_, fun j hj => ⟨?_, ?_⟩⟩
  · simp only [World.cell?, hb]
    rw [← Array.getElem?_toList, h]
    exact hu
  · simp only [World.cell?, hb]
    rw [Array.getElem?_eq_getElem (by omega)]
    rfl
  · simp only [World.frozen?, hb]
    have h3 : ¬ vs.size ≤ j := by omega
    simp [h3]
/-- All stand within the limits, and the sum too. -/
theorem secTo_bound {xs : List Sc} (hv : ∀ (i : Nat) (x : Sc), xs[i]? = some x → secV x = true ∧ x.bytes.size ≤ 30000) : ∀ k, k ≤ xs.length → k ≤ 20 → (secTo xs k).size ≤ 5 + k * 30061
  | 0, _, _ => by rw [secTo_zero]; exact Nat.le_of_eq rfl
  | k + 1, h, h2 => by
    have h1 := secTo_bound hv k (by omega) (by omega)
    have hx := List.getElem?_eq_getElem (show k < xs.length by omega)
    have h2 := congrArg ByteArray.size (secTo_step hx)
    rw [ByteArray.size_append] at h2
    obtain ⟨ha, hb⟩ := hv k _ hx
    have := (secB_size ha (by omega)).2
    omega

set_option maxRecDepth 100000 in
set_option maxHeartbeats 1000000 in
theorem l17All_any (xs : List Sc) (hl : xs.length ≤ 20) (hv : ∀ (i : Nat) (x : Sc), xs[i]? = some x → secV x = true ∧ x.bytes.size ≤ 30000) (R : Option Addr) (c lo : Nat) (w : World) (h : Scs w lo xs R) :
    Calls Tryz.prog 22 #[.slice R xs.length c] w fun e w' => e = .returned (.string (secTo xs xs.length)) ∧ Below w.heap.size w w' := by
  have H := Lib.hid h
  have HV := Lib.hid hv
  have hli : (xs.length : Int) ≤ 20 := by omega
  clear h hv
  have kc := fun (w : World) (C : Array Value) (n c : Nat) => Lib.run_convert_bytes_const (P := Tryz.prog) w 63 5 C n c Tryz.underlying63 Tryz.underlying5
  go_enter Tryz.func22, Tryz.ntmps22
  go_wp2_with fail
  go_loopw [3, 4] (fun s i wr => ∃ k g cg : Nat, k ≤ xs.length ∧ s = .slice (some ⟨g, 0, none⟩) (secTo xs k).size cg ∧ i = .int .i64 k ∧ Hid (RowB w.heap.size wr g cg (secTo xs k)) ∧ Below w.heap.size w wr) (fun _ i _ => xs.length - (intOf i).toNat)
  case atStart =>
    have hrow := RowB.ofAlloc w #[.int .u8 0, .int .u8 99, .int .u8 111, .int .u8 114, .int .u8 1] headB 5 rfl (by decide)
    exact ⟨0, w.heap.size, 5, Nat.zero_le _, by rw [secTo_zero]; rfl, rfl, by rw [secTo_zero]; exact hrow, below1 _ _⟩
  case round =>
    obtain ⟨k, g, cg, hk, rfl, rfl, HR, hbel⟩ := hrel
    by_cases hlt : k < xs.length
    · obtain ⟨b, o, x, rfl, _, hxk, hc⟩ := (Scs.below H.out hbel).at_ hlt
      have hvx := HV.out k x hxk
      have CI := Lib.hid (fun W => l17One_any x hvx.1 (by omega) W)
      obtain ⟨c0_, c1_, c2_, _⟩ := hc
      have HB := Lib.hid hbel
      have hsz := secTo_bound HV.out k hk (by omega)
      have hsi := (secB_size hvx.1 (by omega)).2
      have HS := Lib.hid (secTo_step hxk)
      have hz : (secTo xs k).size + (secB x).size ≤ 1048576 := by omega
      clear hxk hbel hvx
      generalize secB x = I at *
      generalize secTo xs k = T at *
      go_wp2_with (first
        | (go_at_call 50; (with_reducible refine (CI.out _).mono ?_); rintro e w4 ⟨rfl, h4⟩; have HB4 := Lib.hid (bnext HB.out h4); have HR4 := Lib.hid (HR.out.below h4); clear h4)
        | (at_builtin; refine wpList_app_row rfl _ _ rfl (a := _) rfl HR4.out I rfl hz ?_; intro g' cg' w5 hr5 hb5 _ _ _; have HR5 := Lib.hid hr5; have HB5 := Lib.hid (HB4.out.trans hb5); clear hr5 hb5))
      have HR6 : Hid (RowB w.heap.size w5 g' cg' (secTo xs (k + 1))) := by
        rw [← HS.out]
        exact HR5
      go_roundw
      case rel => exact ⟨k + 1, g', cg', by omega, by rw [← HS.out, ByteArray.size_append], by go_num, HR6, HB5.out⟩
      case measure => simp [intOf]; omega
    · obtain rfl : k = xs.length := by omega
      have HB := Lib.hid hbel
      have hcv := HR.out.back
      clear hbel
      go_wp2_with fail
      go_ret
      exact ⟨rfl, HB.out⟩

end Go.Proofs.YtbjcldekapipaaaGreatDoor

namespace Go.Proofs.YtbjcldekapipaaaGreatDoor
open Go.ChangeShapes Go.WideShapes Go.ChangeAt Go.RowKit Go.Deep

theorem secV_id {x : Sc} (hv : secV x = true) : 0 ≤ x.id ∧ x.id ≤ 4 := by
  unfold secV at hv
  by_cases h0 : x.id = 0
  · omega
  · rw [if_neg h0, Bool.and_eq_true, decide_eq_true_iff] at hv
    omega

set_option maxHeartbeats 2000000 in
/-- The program's answer. -/
theorem implSectionBytes_any (xs : List Sc) (hl : xs.length ≤ 1048576) (hw : ∀ (i : Nat) (x : Sc), xs[i]? = some x → x.wt ≤ 1048576) (R : Option Addr) (c lo : Nat) (w : World) (h : Scs w lo xs R) :
    Calls Tryz.prog 31 #[.slice R xs.length c] w fun e w' => e = .returned (.string (secA xs)) ∧ Below w.heap.size w w' := by
  by_cases h20 : xs.length ≤ 20
  · have h20i : (xs.length : Int) ≤ 20 := by omega
    have CC0 := contSc_any xs hl R c lo w h
    by_cases hb : BadS xs xs.length
    · rw [secA_bad hb]
      have CC := Lib.hid (CC0.mono (R' := fun e w' => e = .returned (.bool true) ∧ Below w.heap.size w w') (by
        rintro e w1 ⟨v, rfl, hv, h1⟩
        rw [hv.mpr hb]
        exact ⟨rfl, h1⟩))
      clear hb h hw CC0
      go_enter Tryz.func31, Tryz.ntmps31
      go_wp2_with (go_at_call 71; (with_reducible refine CC.out.mono ?_); rintro e w1 ⟨rfl, h1⟩; have HB1 := Lib.hid h1; clear h1)
      go_ret
      exact ⟨rfl, HB1.out⟩
    · have CC := Lib.hid (CC0.mono (R' := fun e w' => e = .returned (.bool false) ∧ Below w.heap.size w w') (by
        rintro e w1 ⟨v, rfl, hv, h1⟩
        have : v = false := by
          cases v with
          | false => rfl
          | true => exact absurd (hv.mp rfl) hb
        rw [this]
        exact ⟨rfl, h1⟩))
      have HN := Lib.hid hb
      have H := Lib.hid h
      have HW := Lib.hid hw
      clear hb h hw CC0
      go_enter Tryz.func31, Tryz.ntmps31
      go_wp2_with (go_at_call 71; (with_reducible refine CC.out.mono ?_); rintro e w1 ⟨rfl, h1⟩; have HB1 := Lib.hid h1; clear h1)
      go_loopw [3, 16] (fun s i wr => ∃ k : Nat, k ≤ xs.length ∧ s = .string (secTo xs k) ∧ i = .int .i64 k ∧ (secTo xs k).size ≤ 30000 ∧ Below w.heap.size w wr) (fun _ i _ => xs.length - (intOf i).toNat)
      case atStart => exact ⟨0, Nat.zero_le _, by rw [secTo_zero]; rfl, rfl, by rw [secTo_zero]; decide, HB1.out⟩
      case round =>
        obtain ⟨k, hk, rfl, rfl, hsz, hbel⟩ := hrel
        by_cases hlt : k < xs.length
        · obtain ⟨b, o, x, rfl, _, hxk, hc⟩ := (Scs.below H.out hbel).at_ hlt
          have hvx : secV x = true := by
            cases hv : secV x with
            | true => rfl
            | false => exact absurd ⟨k, x, hlt, hxk, hv⟩ HN.out
          obtain ⟨hna, hby, _⟩ := Sc.parts_le (HW.out k x hxk)
          have CO := (fun W => isOwn_any x W)
          have hid := secV_id hvx
          have CF : ∀ W, Calls Tryz.prog 67 #[.int .i64 x.id, .int .i64 1] W fun e w' => e = .returned (.string (strOfNums (fixl x.id 1))) ∧ Below W.heap.size W w' := fun W => implPutFix_any x.id 1 W (by omega) (by omega) (by omega)
          have hF := fixl1_size x.id
          have HS := Lib.hid (secTo_step hxk)
          obtain ⟨c0_, c1_, c2_, _⟩ := hc
          have z0 := fun O => keepCell (below1 wr O) c0_
          have z1 := fun O => keepCell (below1 wr O) c1_
          have z2 := fun O => keepCell (below1 wr O) c2_
          have HB := Lib.hid hbel
          have hbs := hbel.size
          clear hxk hbel hid
          by_cases h0 : x.id = 0
          · skip
            have q : (x.id == 0) = true := by rw [h0]; rfl
            rw [q] at CO
            have hn := secV_name hvx h0
            have hpn := putB_size x.name (by omega)
            have CN := Lib.hid (fun W => implPutB_any x.name (by omega) W)
            have hsum : (putB x.name ++ x.bytes).size = (putB x.name).size + x.bytes.size := ByteArray.size_append
            have CB := (fun W => implPutB_any (putB x.name ++ x.bytes) (by omega) W)
            have hpb := putB_size (putB x.name ++ x.bytes) (by omega)
            have HB0 : secB x = strOfNums (fixl x.id 1) ++ putB (putB x.name ++ x.bytes) := by
              unfold secB secC
              rw [if_pos h0]
            rw [HB0] at HS
            clear HB0 q hvx h0
            generalize hA : putB (putB x.name ++ x.bytes) = A at *
            clear hA
            generalize putB x.name = N at *
            generalize strOfNums (fixl x.id 1) = F at *
            have CB := Lib.hid CB
            have hz1 : ¬ (9223372036854775807 < N.size + x.bytes.size) := by omega
            have CO := Lib.hid CO
            have CF := Lib.hid CF
            generalize hT : secTo xs k = T at *
            have hFA : (F ++ A).size = F.size + A.size := ByteArray.size_append
            have hTFA : (T ++ (F ++ A)).size = T.size + (F.size + A.size) := by rw [ByteArray.size_append, hFA]
            have hz2 : ¬ (9223372036854775807 < F.size + A.size) := by omega
            have hz3 : ¬ (9223372036854775807 < T.size + (F.size + A.size)) := by omega
            by_cases hq : T.size + (F.size + A.size) ≤ 30000
            · have hqi : ¬ (30000 < (T.size : Int) + ((F.size : Int) + (A.size : Int))) := by omega
              have HZ : Hid ((secTo xs (k + 1)).size ≤ 30000) := Lib.hid (by rw [← HS.out, hTFA]; exact hq)
              clear hFA hTFA hq hF
              go_wp2_with (first
              | (go_at_call 73; (with_reducible refine (CO.out _).mono ?_); rintro e w3 ⟨rfl, h3⟩; have HB3 := Lib.hid (bnext (HB.out.alloc hbs _) h3); have b0 := keepCell (a := ⟨wr.heap.size, 0, none⟩) (v := .int .i64 x.id) h3 (by go_simp); have b1 := keepCell (a := ⟨wr.heap.size, 1, none⟩) (v := .string x.name) h3 (by go_simp); clear h3)
              | (go_at_call 29; (with_reducible refine (CN.out _).mono ?_); rintro e w4 ⟨rfl, h4⟩; have HB4 := Lib.hid (bnext HB3.out h4); replace b0 := keepCell h4 b0; clear h4)
              | (go_at_call 67; (with_reducible refine (CF.out _).mono ?_); rintro e w5 ⟨rfl, h5⟩; have HB5 := Lib.hid (bnext HB4.out h5); clear h5)
              | (go_at_call 29; (with_reducible refine (CB.out _).mono ?_); rintro e w6 ⟨rfl, h6⟩; have HB6 := Lib.hid (bnext HB5.out h6); clear h6))
              go_roundw
              case rel => exact ⟨k + 1, by omega, by rw [HS.out], by go_num, HZ.out, HB6.out⟩
              case measure => simp [intOf]; omega
            · have hqi : (30000 < (T.size : Int) + ((F.size : Int) + (A.size : Int))) := by omega
              have HG := Lib.hid (secA_great (xs := xs) (k := k + 1) (by omega) (by rw [← HS.out, hTFA]; omega))
              clear hFA hTFA hq hF
              go_wp2_with (first
              | (go_at_call 73; (with_reducible refine (CO.out _).mono ?_); rintro e w3 ⟨rfl, h3⟩; have HB3 := Lib.hid (bnext (HB.out.alloc hbs _) h3); have b0 := keepCell (a := ⟨wr.heap.size, 0, none⟩) (v := .int .i64 x.id) h3 (by go_simp); have b1 := keepCell (a := ⟨wr.heap.size, 1, none⟩) (v := .string x.name) h3 (by go_simp); clear h3)
              | (go_at_call 29; (with_reducible refine (CN.out _).mono ?_); rintro e w4 ⟨rfl, h4⟩; have HB4 := Lib.hid (bnext HB3.out h4); replace b0 := keepCell h4 b0; clear h4)
              | (go_at_call 67; (with_reducible refine (CF.out _).mono ?_); rintro e w5 ⟨rfl, h5⟩; have HB5 := Lib.hid (bnext HB4.out h5); clear h5)
              | (go_at_call 29; (with_reducible refine (CB.out _).mono ?_); rintro e w6 ⟨rfl, h6⟩; have HB6 := Lib.hid (bnext HB5.out h6); clear h6))
              go_ret
              exact ⟨by rw [HG.out]; rfl, HB6.out⟩
          · skip
            have q : (x.id == 0) = false := beq_eq_false_iff_ne.mpr h0
            rw [q] at CO
            have CB := (fun W => implPutB_any x.bytes (by omega) W)
            have hpb := putB_size x.bytes (by omega)
            have HB0 : secB x = strOfNums (fixl x.id 1) ++ putB x.bytes := by
              unfold secB secC
              rw [if_neg h0]
            rw [HB0] at HS
            clear HB0 q hvx h0
            generalize putB x.bytes = A at *
            generalize strOfNums (fixl x.id 1) = F at *
            have CB := Lib.hid CB
            have CO := Lib.hid CO
            have CF := Lib.hid CF
            generalize hT : secTo xs k = T at *
            have hFA : (F ++ A).size = F.size + A.size := ByteArray.size_append
            have hTFA : (T ++ (F ++ A)).size = T.size + (F.size + A.size) := by rw [ByteArray.size_append, hFA]
            have hz2 : ¬ (9223372036854775807 < F.size + A.size) := by omega
            have hz3 : ¬ (9223372036854775807 < T.size + (F.size + A.size)) := by omega
            by_cases hq : T.size + (F.size + A.size) ≤ 30000
            · have hqi : ¬ (30000 < (T.size : Int) + ((F.size : Int) + (A.size : Int))) := by omega
              have HZ : Hid ((secTo xs (k + 1)).size ≤ 30000) := Lib.hid (by rw [← HS.out, hTFA]; exact hq)
              clear hFA hTFA hq hF
              go_wp2_with (first
              | (go_at_call 73; (with_reducible refine (CO.out _).mono ?_); rintro e w3 ⟨rfl, h3⟩; have HB3 := Lib.hid (bnext (HB.out.alloc hbs _) h3); have b0 := keepCell (a := ⟨wr.heap.size, 0, none⟩) (v := .int .i64 x.id) h3 (by go_simp); clear h3)
              | (go_at_call 67; (with_reducible refine (CF.out _).mono ?_); rintro e w5 ⟨rfl, h5⟩; have HB5 := Lib.hid (bnext HB3.out h5); clear h5)
              | (go_at_call 29; (with_reducible refine (CB.out _).mono ?_); rintro e w6 ⟨rfl, h6⟩; have HB6 := Lib.hid (bnext HB5.out h6); clear h6))
              go_roundw
              case rel => exact ⟨k + 1, by omega, by rw [HS.out], by go_num, HZ.out, HB6.out⟩
              case measure => simp [intOf]; omega
            · have hqi : (30000 < (T.size : Int) + ((F.size : Int) + (A.size : Int))) := by omega
              have HG := Lib.hid (secA_great (xs := xs) (k := k + 1) (by omega) (by rw [← HS.out, hTFA]; omega))
              clear hFA hTFA hq hF
              go_wp2_with (first
              | (go_at_call 73; (with_reducible refine (CO.out _).mono ?_); rintro e w3 ⟨rfl, h3⟩; have HB3 := Lib.hid (bnext (HB.out.alloc hbs _) h3); have b0 := keepCell (a := ⟨wr.heap.size, 0, none⟩) (v := .int .i64 x.id) h3 (by go_simp); clear h3)
              | (go_at_call 67; (with_reducible refine (CF.out _).mono ?_); rintro e w5 ⟨rfl, h5⟩; have HB5 := Lib.hid (bnext HB3.out h5); clear h5)
              | (go_at_call 29; (with_reducible refine (CB.out _).mono ?_); rintro e w6 ⟨rfl, h6⟩; have HB6 := Lib.hid (bnext HB5.out h6); clear h6))
              go_ret
              exact ⟨by rw [HG.out]; rfl, HB6.out⟩
        · obtain rfl : k = xs.length := by omega
          have HB := Lib.hid hbel
          have HG := Lib.hid (secA_good h20 HN.out hsz)
          clear hbel
          go_wp2
          go_ret
          exact ⟨by rw [HG.out]; rfl, HB.out⟩
  · rw [show secA xs = ⟨#[]⟩ from secA_long h20]
    have h20i : ¬ (xs.length : Int) ≤ 20 := by omega
    clear h h20 hw
    go_enter Tryz.func31, Tryz.ntmps31
    go_wp2_with fail
    go_ret
    exact ⟨rfl, Below.refl _ _⟩
end Go.Proofs.YtbjcldekapipaaaGreatDoor

