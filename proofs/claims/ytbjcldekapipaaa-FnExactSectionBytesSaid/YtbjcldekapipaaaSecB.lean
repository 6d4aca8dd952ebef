/-
  The bytes of sections: pure part, and the looks whether a section is in order.
-/
import Derived.Test.YtbjcldekapipaaaSecN
import Derived.Test.YtbjcldekapipaaaPutBytesLaw
import Derived.Test.YtbjcldekapipaaaPutFix
import Derived.Test.YtbjcldekapipaaaStWSSc
import Derived.Test.YtbjcldekapipaaaRowB
namespace Go.Proofs.Ytbjcldekapipaaa
open Go.ChangeShapes Go.WideShapes Go.ChangeAt Go.RowKit Go.Deep

def putB (t : ByteArray) : ByteArray := strOfNums (lebU t.size) ++ t
/-- A section's content. -/
def secC (x : Sc) : ByteArray := if x.id = 0 then putB x.name ++ x.bytes else x.bytes
def secB (x : Sc) : ByteArray := strOfNums (fixl x.id 1) ++ putB (secC x)
def secV (x : Sc) : Bool := if x.id = 0 then nameV x.name else decide (1 ≤ x.id ∧ x.id ≤ 4) && decide (x.name.size = 0)
def headB : ByteArray := ⟨#[0, 99, 111, 114, 1]⟩
def secCat : List Sc → ByteArray
  | [] => ⟨#[]⟩
  | x :: xs => secB x ++ secCat xs
def secTo (xs : List Sc) (k : Nat) : ByteArray := headB ++ secCat (xs.take k)
/-- The answer. -/
def secA (xs : List Sc) : ByteArray := if xs.length ≤ 20 ∧ xs.all secV = true ∧ (secTo xs xs.length).size ≤ 30000 then secTo xs xs.length else ⟨#[]⟩
/-- One of the first so many is not in order. -/
def BadS (xs : List Sc) (k : Nat) : Prop := ∃ (i : Nat) (x : Sc), i < k ∧ xs[i]? = some x ∧ secV x = false
theorem BadS.no_step {xs : List Sc} {k : Nat} {x : Sc} (h : ¬ BadS xs k) (hx : xs[k]? = some x) (ho : secV x = true) : ¬ BadS xs (k + 1) := fun ⟨i, u, hi, hu, hno⟩ => by
  by_cases e : i = k
  · subst e
    rw [hx] at hu
    cases hu
    rw [ho] at hno
    cases hno
  · exact h ⟨i, u, by omega, hu, hno⟩
theorem BadS.not_all {xs : List Sc} {k : Nat} (h : BadS xs k) : ¬ xs.all secV = true := fun ha => by
  obtain ⟨i, x, _, hx, hv⟩ := h
  have := List.all_eq_true.mp ha x (List.mem_of_getElem? hx)
  rw [hv] at this
  cases this
theorem BadS.all {xs : List Sc} (h : ¬ BadS xs xs.length) : xs.all secV = true := by
  rw [List.all_eq_true]
  intro x hx
  obtain ⟨i, hi⟩ := List.getElem?_of_mem hx
  cases hv : secV x with
  | true => rfl
  | false => exact absurd ⟨i, x, (List.getElem?_eq_some_iff.1 hi).1, hi, hv⟩ h
theorem app_nilS (a : ByteArray) : a ++ (⟨#[]⟩ : ByteArray) = a := by
  refine ByteArray.ext (Array.toList_inj.mp ?_)
  rw [ByteArray.data_append, Array.toList_append]
  simp
theorem nil_appS (a : ByteArray) : (⟨#[]⟩ : ByteArray) ++ a = a := by
  refine ByteArray.ext (Array.toList_inj.mp ?_)
  rw [ByteArray.data_append, Array.toList_append]
  simp
theorem secCat_snoc : ∀ (xs : List Sc) (x : Sc), secCat (xs ++ [x]) = secCat xs ++ secB x
  | [], x => by
    show secB x ++ ⟨#[]⟩ = ⟨#[]⟩ ++ secB x
    rw [app_nilS, nil_appS]
  | y :: xs, x => by
    show secB y ++ secCat (xs ++ [x]) = (secB y ++ secCat xs) ++ secB x
    rw [secCat_snoc xs x, ByteArray.append_assoc]
theorem secTo_step {xs : List Sc} {k : Nat} {x : Sc} (h : xs[k]? = some x) : secTo xs k ++ secB x = secTo xs (k + 1) := by
  obtain ⟨hk, rfl⟩ := List.getElem?_eq_some_iff.1 h
  unfold secTo
  rw [List.take_succ_eq_append_getElem hk, secCat_snoc, ByteArray.append_assoc]
theorem secTo_zero (xs : List Sc) : secTo xs 0 = headB := by
  unfold secTo
  rw [List.take_zero]
  exact app_nilS _
theorem secTo_mono (xs : List Sc) : ∀ (d k : Nat), k + d ≤ xs.length → (secTo xs k).size ≤ (secTo xs (k + d)).size
  | 0, k, _ => Nat.le_refl _
  | d + 1, k, h => by
    have h1 := secTo_mono xs d k (by omega)
    have hx := List.getElem?_eq_getElem (show k + d < xs.length by omega)
    have h2 := secTo_step hx
    have h3 := congrArg ByteArray.size h2
    rw [ByteArray.size_append] at h3
    rw [show k + (d + 1) = k + d + 1 by omega]
    omega
theorem putB_size (t : ByteArray) (h : t.size ≤ 2000000) : t.size < (putB t).size ∧ (putB t).size ≤ t.size + 10 := by
  unfold putB
  rw [ByteArray.size_append, strOfNums_size]
  have h1 := lebU_pos t.size
  have h2 := lebU_length 9 t.size (by omega)
  omega
theorem secC_size {x : Sc} (hv : secV x = true) (_h : x.bytes.size ≤ 1048576) : x.bytes.size ≤ (secC x).size ∧ (secC x).size ≤ x.bytes.size + 50 := by
  unfold secC
  by_cases h0 : x.id = 0
  · rw [if_pos h0, ByteArray.size_append]
    unfold secV at hv
    rw [if_pos h0] at hv
    unfold nameV at hv
    rw [Bool.and_eq_true, decide_eq_true_iff] at hv
    have := putB_size x.name (by omega)
    omega
  · rw [if_neg h0]
    omega
theorem secB_size {x : Sc} (hv : secV x = true) (h : x.bytes.size ≤ 1048576) : x.bytes.size < (secB x).size ∧ (secB x).size ≤ x.bytes.size + 61 := by
  obtain ⟨h1, h2⟩ := secC_size hv h
  obtain ⟨h3, h4⟩ := putB_size (secC x) (by omega)
  unfold secB
  rw [ByteArray.size_append, strOfNums_size, fixl_length]
  omega
theorem secA_long {xs : List Sc} (h : ¬ xs.length ≤ 20) : secA xs = ⟨#[]⟩ := by
  unfold secA
  rw [if_neg (fun e => h e.1)]
theorem secA_bad {xs : List Sc} {k : Nat} (h : BadS xs k) : secA xs = ⟨#[]⟩ := by
  unfold secA
  rw [if_neg (fun e => h.not_all e.2.1)]
theorem secA_great {xs : List Sc} {k : Nat} (hk : k ≤ xs.length) (h : 30000 < (secTo xs k).size) : secA xs = ⟨#[]⟩ := by
  unfold secA
  rw [if_neg]
  intro e
  have := secTo_mono xs (xs.length - k) k (by omega)
  rw [show k + (xs.length - k) = xs.length by omega] at this
  omega
theorem secA_good {xs : List Sc} (hl : xs.length ≤ 20) (h : ¬ BadS xs xs.length) (hz : (secTo xs xs.length).size ≤ 30000) : secA xs = secTo xs xs.length := by
  unfold secA
  rw [if_pos ⟨hl, BadS.all h, hz⟩]

theorem implSectionOk_any (x : Sc) (w : World) :
    Calls Try.prog 68 #[.agg #[.int .i64 x.id, .string x.name, .string x.bytes]] w fun e w' => e = .returned (.bool (secV x)) ∧ Below w.heap.size w w' := by
  have C := Lib.hid (fun W => ownNameOk_any x.name W)
  have he := empty_iff x.name
  unfold secV
  by_cases h0 : x.id = 0
  · rw [if_pos h0]
    have q : (x.id == 0) = true := by rw [h0]; rfl
    clear he
    generalize nameV x.name = V at *
    go_enter Try.func68, Try.ntmps68
    go_wp2_with (go_at_call 76; refine (C.out _).mono ?_; rintro e w1 ⟨rfl, hb1⟩; have HB1 := Lib.hid (bnext (below1 _ _) hb1); clear hb1)
    go_ret
    exact ⟨rfl, HB1.out⟩
  · rw [if_neg h0]
    have q : (x.id == 0) = false := beq_eq_false_iff_ne.mpr h0
    clear C
    by_cases h1 : 1 ≤ x.id
    · by_cases h4 : x.id ≤ 4
      · rw [decide_eq_true ⟨h1, h4⟩, Bool.true_and, ← he]
        clear he
        go_enter Try.func68, Try.ntmps68
        go_wp2
        go_ret
        exact ⟨rfl, below1 _ _⟩
      · rw [decide_eq_false (fun h => h4 h.2), Bool.false_and]
        clear he
        go_enter Try.func68, Try.ntmps68
        go_wp2
        go_ret
        exact ⟨rfl, below1 _ _⟩
    · rw [decide_eq_false (fun h => h1 h.1), Bool.false_and]
      clear he
      go_enter Try.func68, Try.ntmps68
      go_wp2
      go_ret
      exact ⟨rfl, below1 _ _⟩

theorem l17Section_any (x : Sc) (hn : x.name.size ≤ 2000000) (w : World) :
    Calls Try.prog 35 #[.agg #[.int .i64 x.id, .string x.name, .string x.bytes]] w fun e w' => e = .returned (.bool (secV x)) ∧ Below w.heap.size w w' := by
  have C := Lib.hid (fun W => l17Name_any x.name hn W)
  have he := empty_iff x.name
  clear hn
  unfold secV
  by_cases h0 : x.id = 0
  · rw [if_pos h0]
    have q : (x.id == 0) = true := by rw [h0]; rfl
    clear he
    generalize nameV x.name = V at *
    go_enter Try.func35, Try.ntmps35
    go_wp2_with (go_at_call 64; refine (C.out _).mono ?_; rintro e w1 ⟨rfl, hb1⟩; have HB1 := Lib.hid (bnext (below1 _ _) hb1); clear hb1)
    go_ret
    exact ⟨rfl, HB1.out⟩
  · rw [if_neg h0]
    have q : (x.id == 0) = false := beq_eq_false_iff_ne.mpr h0
    clear C
    by_cases h1 : 1 ≤ x.id ∧ x.id ≤ 4
    · rw [decide_eq_true h1, Bool.true_and, ← he]
      clear he
      go_enter Try.func35, Try.ntmps35
      go_wp2_with (go_at_call 65; refine (l00In_yes _ _ _ _ (by omega) (by omega)).mono ?_; rintro e w' ⟨rfl, rfl⟩)
      go_ret
      exact ⟨rfl, below1 _ _⟩
    · rw [decide_eq_false h1, Bool.false_and]
      clear he
      go_enter Try.func35, Try.ntmps35
      go_wp2_with (go_at_call 65; refine (l00In_no _ _ _ _ (by omega)).mono ?_; rintro e w' ⟨rfl, rfl⟩)
      go_ret
      exact ⟨rfl, below1 _ _⟩

theorem isOwn_any (x : Sc) (w : World) :
    Calls Try.prog 40 #[.agg #[.int .i64 x.id, .string x.name, .string x.bytes]] w fun e w' => e = .returned (.bool (x.id == 0)) ∧ Below w.heap.size w w' := by
  go_enter Try.func40, Try.ntmps40
  go_wp2
  go_ret
  exact ⟨rfl, below1 _ _⟩
theorem notSection_any (x : Sc) (w : World) :
    Calls Try.prog 39 #[.agg #[.int .i64 x.id, .string x.name, .string x.bytes]] w fun e w' => e = .returned (.bool (!secV x)) ∧ Below w.heap.size w w' := by
  have C := Lib.hid (fun W => implSectionOk_any x W)
  generalize secV x = V at *
  go_enter Try.func39, Try.ntmps39
  go_wp2_with (go_at_call 68; refine (C.out _).mono ?_; rintro e w1 ⟨rfl, hb1⟩; have HB1 := Lib.hid (bnext (below1 _ _) hb1); clear hb1)
  go_ret
  exact ⟨rfl, HB1.out⟩

set_option maxHeartbeats 1000000 in
/-- The index of the first section that is not in order, or -1. -/
theorem idxSc_any (xs : List Sc) (hl : xs.length ≤ 1048576) (R : Option Addr) (c lo : Nat) (w : World) (h : Scs w lo xs R) :
    Calls Try.prog 67 #[.slice R xs.length c, .func (.func 39) #[] #[]] w (fun e w' => ∃ v : Int, e = .returned (.int .i64 v) ∧ -1 ≤ v ∧ (0 ≤ v ↔ BadS xs xs.length) ∧ Below w.heap.size w w') := by
  have H := Lib.hid h
  clear h
  go_enter Try.func67, Try.ntmps67
  go_wp2_with fail
  go_loopw [8] (fun i wr => ∃ k : Nat, k ≤ xs.length ∧ i = .int .i64 k ∧ Hid (¬ BadS xs k) ∧ Below w.heap.size w wr) (fun i _ => xs.length - (intOf i).toNat)
  case atStart => exact ⟨0, Nat.zero_le _, rfl, (fun ⟨i, u, hi, _⟩ => by omega), Below.refl _ _⟩
  case round =>
    obtain ⟨k, hk, rfl, hno, hbel⟩ := hrel
    by_cases hlt : k < xs.length
    · obtain ⟨b, o, x, rfl, _, hxk, hc⟩ := (Scs.below H.out hbel).at_ hlt
      have C := Lib.hid (fun W => notSection_any x W)
      obtain ⟨c0_, c1_, c2_, _⟩ := hc
      have HN := Lib.hid hxk
      have HB := Lib.hid hbel
      clear hxk hbel
      cases hv : secV x with
      | true =>
        rw [hv] at C
        have HV := Lib.hid hv
        clear hv
        go_wp2_with (go_at_call 39; (with_reducible refine (C.out _).mono ?_); rintro e w2 ⟨rfl, hb2⟩; have HB2 := Lib.hid hb2; clear hb2)
        go_roundw
        case rel => exact ⟨k + 1, by omega, by go_num, BadS.no_step hno.out HN.out HV.out, bnext HB.out HB2.out⟩
        case measure => simp [intOf]; omega
      | false =>
        rw [hv] at C
        have HV := Lib.hid hv
        clear hv
        go_wp2_with (go_at_call 39; (with_reducible refine (C.out _).mono ?_); rintro e w2 ⟨rfl, hb2⟩; have HB2 := Lib.hid hb2; clear hb2)
        go_ret
        exact ⟨k, rfl, by omega, ⟨fun _ => ⟨k, x, hlt, HN.out, HV.out⟩, fun _ => by omega⟩, bnext HB.out HB2.out⟩
    · have hk' : k = xs.length := by omega
      have HB := Lib.hid hbel
      clear hbel
      go_wp2
      go_ret
      exact ⟨-1, rfl, by omega, ⟨(fun h => by omega), (fun h => absurd (by rw [hk']; exact h) hno.out)⟩, HB.out⟩
theorem contSc_any (xs : List Sc) (hl : xs.length ≤ 1048576) (R : Option Addr) (c lo : Nat) (w : World) (h : Scs w lo xs R) :
    Calls Try.prog 38 #[.slice R xs.length c, .func (.func 39) #[] #[]] w (fun e w' => ∃ v : Bool, e = .returned (.bool v) ∧ (v = true ↔ BadS xs xs.length) ∧ Below w.heap.size w w') := by
  have C := Lib.hid (idxSc_any xs hl R c lo w h)
  clear h
  go_enter Try.func38, Try.ntmps38
  go_wp2_with (go_at_call 67; (with_reducible refine C.out.mono ?_); rintro e w2 ⟨v, rfl, hv1, hv, hb2⟩; have HV := Lib.hid hv; have HB2 := Lib.hid hb2; clear hv hb2)
  go_ret
  exact ⟨decide (0 ≤ v), rfl, by rw [decide_eq_true_iff]; exact HV.out, HB2.out⟩
end Go.Proofs.Ytbjcldekapipaaa
