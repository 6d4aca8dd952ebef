/-
  The walks of both InsText.
-/
import Derived.Test.YtoeofhhmkkpjbaaDoorIns
import Derived.Test.YtoeofhhmkkpjbaaDoorDig15
import Derived.Ground.NamesProg
import Derived.Shelf.Lay
import Derived.Shelf.Strconv.Itoa4
import Derived.Lib.AppendIntMem
import Derived.Lib.ItoaLen
import Derived.Deep.RegionWith
import Derived.Deep.RegionHeld3
namespace Go.Proofs
open Go.Shelf
def Tryd.laysFJ_ren : Go.Shelf.Ren := ⟨fun | 173 => 91 | 246 => 114 | 283 => 125 | 284 => 126 | 285 => 127 | 286 => 128 | 129 => 141 | 317 => 140 | 318 => 142 | 319 => 143 | 320 => 144 | 337 => 148 | 338 => 149 | n => n, fun | 2 => 2 | 3 => 3 | 9 => 9 | 4 => 4 | 171 => 154 | 0 => 0 | 53 => 144 | 37 => 141 | 5 => 5 | 173 => 157 | 212 => 172 | 51 => 173 | 20 => 20 | 213 => 174 | 46 => 147 | 232 => 184 | 233 => 185 | n => n, fun | 17 => 6 | 18 => 7 | 19 => 8 | n => n⟩
theorem Tryd.laysFJ : Go.Proofs.LaysM.n173 Tryd.prog Tryd.laysFJ_ren := {
  mixed := by kernel_rfl
  f129 := Tryd.func141.trans (congrArg some (by kernel_rfl))
  f173 := Tryd.func91.trans (congrArg some (by kernel_rfl))
  f246 := Tryd.func114.trans (congrArg some (by kernel_rfl))
  f283 := Tryd.func125.trans (congrArg some (by kernel_rfl))
  f284 := Tryd.func126.trans (congrArg some (by kernel_rfl))
  f285 := Tryd.func127.trans (congrArg some (by kernel_rfl))
  f286 := Tryd.func128.trans (congrArg some (by kernel_rfl))
  f317 := Tryd.func140.trans (congrArg some (by kernel_rfl))
  f318 := Tryd.func142.trans (congrArg some (by kernel_rfl))
  f319 := Tryd.func143.trans (congrArg some (by kernel_rfl))
  f320 := Tryd.func144.trans (congrArg some (by kernel_rfl))
  f337 := Tryd.func148.trans (congrArg some (by kernel_rfl))
  f338 := Tryd.func149.trans (congrArg some (by kernel_rfl))
  t0 := Tryd.underlying0
  a0 := Tryd.isAgg0
  z0 := Tryd.sizeOf0
  v0 := Tryd.zeroValue0
  t2 := Tryd.underlying2
  a2 := Tryd.isAgg2
  z2 := Tryd.sizeOf2
  v2 := Tryd.zeroValue2
  t3 := Tryd.underlying3
  a3 := Tryd.isAgg3
  z3 := Tryd.sizeOf3
  v3 := Tryd.zeroValue3
  t4 := Tryd.underlying4
  a4 := Tryd.isAgg4
  z4 := Tryd.sizeOf4
  v4 := Tryd.zeroValue4
  t5 := Tryd.underlying5
  a5 := Tryd.isAgg5
  z5 := Tryd.sizeOf5
  v5 := Tryd.zeroValue5
  t9 := Tryd.underlying9
  a9 := Tryd.isAgg9
  z9 := Tryd.sizeOf9
  v9 := Tryd.zeroValue9
  t20 := Tryd.underlying20
  a20 := Tryd.isAgg20
  z20 := Tryd.sizeOf20
  v20 := Tryd.zeroValue20
  t37 := Tryd.underlying141
  a37 := Tryd.isAgg141
  z37 := Tryd.sizeOf141
  v37 := Tryd.zeroValue141
  t46 := Tryd.underlying147
  a46 := Tryd.isAgg147
  z46 := Tryd.sizeOf147
  v46 := Tryd.zeroValue147
  t51 := Tryd.underlying173
  a51 := Tryd.isAgg173
  z51 := Tryd.sizeOf173
  v51 := Tryd.zeroValue173
  t53 := Tryd.underlying144
  a53 := Tryd.isAgg144
  z53 := Tryd.sizeOf144
  v53 := Tryd.zeroValue144
  t171 := Tryd.underlying154
  a171 := Tryd.isAgg154
  z171 := Tryd.sizeOf154
  v171 := Tryd.zeroValue154
  t173 := Tryd.underlying157
  a173 := Tryd.isAgg157
  z173 := Tryd.sizeOf157
  v173 := Tryd.zeroValue157
  t212 := Tryd.underlying172
  a212 := Tryd.isAgg172
  z212 := Tryd.sizeOf172
  v212 := Tryd.zeroValue172
  t213 := Tryd.underlying174
  a213 := Tryd.isAgg174
  z213 := Tryd.sizeOf174
  t232 := Tryd.underlying184
  a232 := Tryd.isAgg184
  z232 := Tryd.sizeOf184
  v232 := Tryd.zeroValue184
  t233 := Tryd.underlying185
  a233 := Tryd.isAgg185
  z233 := Tryd.sizeOf185
  v233 := Tryd.zeroValue185
  g17 := by kernel_rfl
  g18 := by kernel_rfl
  g19 := by kernel_rfl
  i0 := by kernel_rfl
  i2 := by kernel_rfl
  i3 := by kernel_rfl
  i4 := by kernel_rfl
  i5 := by kernel_rfl
  i9 := by kernel_rfl
  i20 := by kernel_rfl
  i37 := by kernel_rfl
  i46 := by kernel_rfl
  i51 := by kernel_rfl
  i53 := by kernel_rfl
  i171 := by kernel_rfl
  i173 := by kernel_rfl
  i212 := by kernel_rfl
  i232 := by kernel_rfl
  i233 := by kernel_rfl
  m17 := by kernel_rfl
  m18 := by kernel_rfl
  m19 := by kernel_rfl }
end Go.Proofs
namespace Go.Proofs.YtoeofhhmkkpjbaaDoor
open Go.ChangeShapes Go.WideShapes Go.ChangeAt Go.RowKit

/-- The table of the powers of ten. -/
def PowsJ (w : World) : Prop := Lib.TabIs Tryd.prog w "internal/strconv.uint64pow10" .u64 Lib.pow10Tab
theorem PowsJ.keep {w w' : World} (h : PowsJ w) (hb : Below w.heap.size w w') : PowsJ w' := Lib.tabBelow_of_tabIs h w' hb

theorem decimal_any (n : Int) (h0 : -9223372036854775808 ≤ n) (h1 : n ≤ 9223372036854775807) (w : World) (htab : PowsJ w) :
    Calls Tryd.prog 51 #[.int .i64 n] w fun e w' => e = .returned (.string (numB n)) ∧ Below w.heap.size w w' := by
  have C : Hid (Calls Tryd.prog 91 #[.int .i64 n, .int .i64 10] w fun e w' => e = .returned (.string (numB n)) ∧ Below w.heap.size w w') := Lib.hid (by
    refine (Any.strconv_FormatInt_10 Tryd.laysFJ n h0 h1 w htab).mono ?_
    rintro e w' ⟨rfl, k, os, rfl⟩
    exact ⟨rfl, Lib.below_grow _ _ (Nat.le_refl _) k os⟩)
  clear htab h0 h1
  generalize numB n = D at *
  go_enter Tryd.func51, Tryd.ntmps51
  go_wp2_with (go_at_call 91; refine C.out.mono ?_; rintro e wx ⟨rfl, hb⟩)
  go_ret
  exact ⟨rfl, hb⟩

theorem insR_has (op : Int) : (insR op).2.2 = true ↔ ((insR op).1 ≠ 0 ∨ (insR op).2.1 ≠ 0) := by
  unfold insR
  repeat' split
  all_goals simp

theorem hasOperand_any (op : Int) (w : World) :
    Calls Tryd.prog 50 #[.int .i64 op] w fun e w' => e = .returned (.bool (insR op).2.2) ∧ Below w.heap.size w w' := by
  have CR := Lib.hid (fun W => operandsOf_any op W)
  have hh := insR_has op
  generalize insR op = R at *
  obtain ⟨lo, hi, b⟩ := R
  simp only at hh CR ⊢
  by_cases h1 : lo = 0
  · by_cases h2 : hi = 0
    · obtain rfl : b = false := by
        cases b with
        | false => rfl
        | true => have := hh.mp rfl; omega
      clear hh
      go_enter Tryd.func50, Tryd.ntmps50
      go_wp2_with (go_at_call 47; refine (CR.out _).mono ?_; rintro e wx ⟨rfl, hb⟩; have HB := Lib.hid hb; clear hb)
      go_ret
      exact ⟨rfl, HB.out⟩
    · obtain rfl : b = true := hh.mpr (Or.inr h2)
      clear hh
      go_enter Tryd.func50, Tryd.ntmps50
      go_wp2_with (go_at_call 47; refine (CR.out _).mono ?_; rintro e wx ⟨rfl, hb⟩; have HB := Lib.hid hb; clear hb)
      go_ret
      exact ⟨rfl, HB.out⟩
  · obtain rfl : b = true := hh.mpr (Or.inl h1)
    clear hh
    go_enter Tryd.func50, Tryd.ntmps50
    go_wp2_with (go_at_call 47; refine (CR.out _).mono ?_; rintro e wx ⟨rfl, hb⟩; have HB := Lib.hid hb; clear hb)
    go_ret
    exact ⟨rfl, HB.out⟩

/-- An instruction's text. -/
def insT (op a : Int) : ByteArray := if (insR op).2.2 = true then opW op ++ ⟨#[32]⟩ ++ numB a else opW op
theorem opB_size : ∀ k, k ≤ 40 → (opB k).size ≤ 8 := by
  intro k h
  have h2 : ∀ j : Fin 41, (opB j.val).size ≤ 8 := by decide +kernel
  exact h2 ⟨k, by omega⟩
theorem opW_size (op : Int) : (opW op).size ≤ 8 := by
  unfold opW
  split
  · exact opB_size _ (by omega)
  · exact Nat.zero_le _
theorem numB_le (n : Int) (h0 : -9223372036854775808 ≤ n) (h1 : n ≤ 9223372036854775807) : (numB n).size ≤ 21 := by
  have := Lib.itoa_length_le n h0 h1
  unfold numB
  simpa [ByteArray.size] using this

/-- The model's, of an instruction in order. -/
theorem l15InsText_any (op a : Int) (h : insV op a = true) (ha0 : -9223372036854775808 ≤ a) (ha1 : a ≤ 9223372036854775807) (w : World) :
    Calls Tryd.prog 49 #[.agg #[.int .i64 op, .int .i64 a]] w fun e w' => e = .returned (.string (insT op a)) ∧ Below w.heap.size w w' := by
  have h2 : 1 ≤ op ∧ op ≤ 40 := by
    unfold insV at h
    simp at h
    exact h.1
  obtain ⟨k, rfl⟩ : ∃ k : Nat, op = (k : Int) + 1 := ⟨(op - 1).toNat, by omega⟩
  have hr : opW ((k : Int) + 1) = opB (k + 1) := opW_at (k + 1) (by omega) (by omega)
  have CH := Lib.hid (fun W => l15Has_any ((k : Int) + 1) W)
  have CD := Lib.hid (fun W => dig15_any a W ha0 ha1)
  have hzB := opB_size (k + 1) (by omega)
  have hzD := numB_le a ha0 ha1
  unfold insT
  rw [hr]
  have hk2 : ((k : Int) < 40) := by omega
  have hk3 : k < 40 := by omega
  have hw1 : IntKind.i64.wrap ((k : Int) + 1 - 1) = (k : Int) := by rw [show (k : Int) + 1 - 1 = (k : Int) by omega]; exact IntWalk.i64_in _ (by omega)
  have hw2 : IntKind.i64.wrap (k : Int) = (k : Int) := IntWalk.i64_in _ (by omega)
  have hk4 : ¬ ((k : Int) < 0) := by omega
  have hk5 : (0 : Int) ≤ (k : Int) := by omega
  clear h h2 hr ha0 ha1
  generalize insR ((k : Int) + 1) = R at *
  obtain ⟨lo, hi, b⟩ := R
  simp only at CH ⊢
  generalize numB a = D at *
  go_enter Tryd.func49, Tryd.ntmps49
  go_wp2_with fail
  go_region_with
    (first
      | (go_at_call 45; refine (l15Words_any _).mono ?_; rintro e wx ⟨rfl, hb, hrow⟩; have hc := hrow k hk3; (try simp at hc); have c0 := keepCell (a := ⟨w.heap.size, 0, none⟩) (v := .int .i64 ((k : Int) + 1)) hb (by go_simp); have c1 := keepCell (a := ⟨w.heap.size, 1, none⟩) (v := .int .i64 a) hb (by go_simp); clear hrow))
  all_goals
    have HB : Hid (Below w.heap.size w wx) := Lib.hid (bnext (by first | exact (below1 _ _).drew | exact below1 _ _) hb)
    clear hb
    cases b with
    | false =>
      go_wp2_with (go_at_call 89; refine (CH.out _).mono ?_; rintro e wh ⟨rfl, rfl⟩)
      go_ret
      exact ⟨rfl, HB.out⟩
    | true =>
      have hz1 : ¬ (9223372036854775807 < 1 + D.size) := by omega
      have hz2 : ¬ (9223372036854775807 < (opB (k + 1)).size + (1 + D.size)) := by omega
      go_wp2_with (first
        | (go_at_call 89; refine (CH.out _).mono ?_; rintro e wh ⟨rfl, rfl⟩)
        | (go_at_call 90; refine (CD.out _).mono ?_; rintro e wd ⟨rfl, hd⟩; have HD := Lib.hid (bnext HB.out hd); clear hd))
      go_ret
      exact ⟨by rw [ByteArray.append_assoc]; rfl, HD.out⟩

/-- The program's. -/
theorem implInsText_any (op a : Int) (ha0 : -9223372036854775808 ≤ a) (ha1 : a ≤ 9223372036854775807) (w : World) (ht : OpTab w) (hp : PowsJ w) :
    Calls Tryd.prog 20 #[.agg #[.int .i64 op, .int .i64 a]] w fun e w' => e = .returned (.string (if insV op a = true then insT op a else ⟨#[]⟩)) ∧ Below w.heap.size w w' := by
  have CI := Lib.hid (fun W (hb : Below w.heap.size w W) => implInsOk_any op a W (ht.keep hb))
  have CH := Lib.hid (fun W => hasOperand_any op W)
  have CO := Lib.hid (fun W (hb : Below w.heap.size w W) => implOpWord_any op W (ht.keep hb))
  have CD := Lib.hid (fun W (hb : Below w.heap.size w W) => decimal_any a ha0 ha1 W (hp.keep hb))
  have hzB := opW_size op
  have hzD := numB_le a ha0 ha1
  unfold insT
  clear ht hp ha0 ha1
  generalize opW op = T at *
  generalize numB a = D at *
  generalize insR op = R at *
  obtain ⟨lo, hi, b⟩ := R
  simp only at CH ⊢
  cases hv : insV op a with
  | false =>
    rw [hv] at CI
    clear hv
    go_enter Tryd.func20, Tryd.ntmps20
    go_wp2_with (first
      | (go_at_call 18; refine (CI.out _ (below1 _ _)).mono ?_; rintro e w1 ⟨rfl, h1⟩; have HB1 := Lib.hid (bnext (below1 _ _) h1); clear h1))
    go_ret
    exact ⟨rfl, HB1.out⟩
  | true =>
    rw [hv] at CI
    clear hv
    cases b with
    | false =>
      go_enter Tryd.func20, Tryd.ntmps20
      go_wp2_with (first
        | (go_at_call 18; refine (CI.out _ (below1 _ _)).mono ?_; rintro e w1 ⟨rfl, h1⟩; have HB1 := Lib.hid (bnext (below1 _ _) h1); have c0 := keepCell (a := ⟨w.heap.size, 0, none⟩) (v := .int .i64 op) h1 (by go_simp); clear h1)
        | (go_at_call 50; refine (CH.out _).mono ?_; rintro e w2 ⟨rfl, h2⟩; have HB2 := Lib.hid (bnext HB1.out h2); have d0 := keepCell h2 c0; clear h2)
        | (go_at_call 15; refine (CO.out _ HB2.out).mono ?_; rintro e w3 ⟨rfl, rfl⟩))
      go_ret
      exact ⟨rfl, HB2.out⟩
    | true =>
      have hz1 : ¬ (9223372036854775807 < T.size + 1) := by omega
      have hz2 : ¬ (9223372036854775807 < T.size + 1 + D.size) := by omega
      go_enter Tryd.func20, Tryd.ntmps20
      go_wp2_with (first
        | (go_at_call 18; refine (CI.out _ (below1 _ _)).mono ?_; rintro e w1 ⟨rfl, h1⟩; have HB1 := Lib.hid (bnext (below1 _ _) h1); have c0 := keepCell (a := ⟨w.heap.size, 0, none⟩) (v := .int .i64 op) h1 (by go_simp); have c1 := keepCell (a := ⟨w.heap.size, 1, none⟩) (v := .int .i64 a) h1 (by go_simp); clear h1)
        | (go_at_call 50; refine (CH.out _).mono ?_; rintro e w2 ⟨rfl, h2⟩; have HB2 := Lib.hid (bnext HB1.out h2); have d0 := keepCell h2 c0; have d1 := keepCell h2 c1; clear h2 c0 c1))
      go_region_held3 (fun w' => w'.cell? ⟨w.heap.size, 0, none⟩ = some (.int .i64 op) ∧ w'.cell? ⟨w.heap.size, 1, none⟩ = some (.int .i64 a) ∧ Below w.heap.size w w')
        (first | assumption | (exact ⟨d0, d1, HB2.out⟩) | (exact ⟨d0, d1, HB2.out.drew⟩) | (exact ⟨e0, e1, HB3⟩))
        (first
          | (go_at_call 15; refine (CO.out _ (by first | exact HB2.out | exact HB2.out.drew | exact HB3)).mono ?_; rintro e w3 ⟨rfl, rfl⟩)
          | (go_at_call 51; refine (CD.out _ (by first | exact HB2.out | exact HB2.out.drew)).mono ?_; rintro e w4 ⟨rfl, h4⟩; have HB3 := bnext (by first | exact HB2.out | exact HB2.out.drew) h4; have e0 := keepCell h4 d0; have e1 := keepCell h4 d1))
      all_goals
        go_wp2_with fail
        go_ret
        exact ⟨rfl, HB3⟩
end Go.Proofs.YtoeofhhmkkpjbaaDoor
