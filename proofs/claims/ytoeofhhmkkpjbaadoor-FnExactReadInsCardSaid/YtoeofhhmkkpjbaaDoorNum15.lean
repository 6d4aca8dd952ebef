/-
  The walk of the model's l15Number: a canonical decimal int64.
-/
import Derived.Test.YtoeofhhmkkpjbaaDoorStrIx
import Derived.Test.YtoeofhhmkkpjbaaDoorSays
import Derived.Test.YtoeofhhmkkpjbaaDoorDig15
import Derived.Lib.ItoaLen
namespace Go.Proofs.YtoeofhhmkkpjbaaDoor
open Go.ChangeShapes Go.WideShapes Go.ChangeAt Go.RowKit Go.Deep

/-- The digits that are left, behind what was read: the number, unless a byte is no digit or the number is beyond 2^63. -/
def evalD : List UInt8 → Nat → Option Nat
  | [], N => some N
  | c :: r, N => if c.toNat < 48 ∨ 57 < c.toNat then none else if 9223372036854775808 < 10 * N + (c.toNat - 48) then none else evalD r (10 * N + (c.toNat - 48))
theorem evalD_append : ∀ (a b : List UInt8) (N : Nat), evalD (a ++ b) N = (evalD a N).bind (evalD b)
  | [], b, N => rfl
  | c :: r, b, N => by
    rw [List.cons_append, evalD, evalD]
    split
    · rfl
    · split
      · rfl
      · exact evalD_append r b _
theorem evalD_dec : ∀ (k m : Nat), m ≤ k → m ≤ 9223372036854775808 → evalD (Lib.decDigits m) 0 = some m
  | k, m, hk, hm => by
    by_cases h : m < 10
    · rw [Lib.decDigits, dif_pos h]
      have h1 : (UInt8.ofNat (48 + m)).toNat = 48 + m := by simp; omega
      simp only [evalD, h1]
      rw [if_neg (by omega), if_neg (by omega)]
      congr 1
      omega
    · match k, hk with
      | 0, hk => omega
      | k + 1, hk =>
        rw [Lib.decDigits, dif_neg h, evalD_append, evalD_dec k (m / 10) (by omega) (by omega)]
        have h1 : (UInt8.ofNat (48 + m % 10)).toNat = 48 + m % 10 := by simp; omega
        simp only [Option.bind_some, evalD, h1]
        rw [if_neg (by omega), if_neg (by omega)]
        congr 1
        omega
/-- Does a text begin with a minus? -/
def minusB (s : ByteArray) : Bool := decide (s.data.toList.head? = some 45)
def fromB (s : ByteArray) : Nat := if minusB s = true then 1 else 0
/-- The answer, of what was read. -/
def numF (s : ByteArray) (m : Bool) : Option Nat → Int × Bool
  | none => (0, false)
  | some N => if m = true then (-(N : Int), decide (numB (-(N : Int)) = s)) else if N = 9223372036854775808 then (0, false) else ((N : Int), decide (numB (N : Int) = s))
/-- What l15Number answers. -/
def numR (s : ByteArray) : Int × Bool :=
  if 19 < s.size - fromB s then (0, false) else numF s (minusB s) (evalD (s.data.toList.drop (fromB s)) 0)
theorem dec_head (m : Nat) : (Lib.decDigits m).head? ≠ some 45 := by
  have h := Lib.decDigits_length m
  intro e
  have h2 : ∀ (k m : Nat), m ≤ k → ∀ c ∈ Lib.decDigits m, 48 ≤ c.toNat := by
    intro k
    induction k with
    | zero =>
      intro m hm c hc
      obtain rfl : m = 0 := by omega
      rw [Lib.decDigits, dif_pos (by omega)] at hc
      simp at hc
      subst hc
      decide
    | succ k ih =>
      intro m hm c hc
      rw [Lib.decDigits] at hc
      split at hc
      · obtain rfl := List.mem_singleton.mp hc
        have h1 : (UInt8.ofNat (48 + m)).toNat = 48 + m := by simp; omega
        rw [h1]
        omega
      · rw [List.mem_append] at hc
        rcases hc with hc | hc
        · exact ih (m / 10) (by omega) c hc
        · obtain rfl := List.mem_singleton.mp hc
          have h1 : (UInt8.ofNat (48 + m % 10)).toNat = 48 + m % 10 := by simp; omega
          rw [h1]
          omega
  have h3 := h2 m m (Nat.le_refl _) 45 (by
    cases hd : Lib.decDigits m with
    | nil => rw [hd] at e; cases e
    | cons a l => rw [hd] at e; simp at e; simp [e])
  exact absurd h3 (by decide)
theorem numR_numB (n : Int) (h0 : -9223372036854775808 ≤ n) (h1 : n ≤ 9223372036854775807) : numR (numB n) = (n, true) := by
  by_cases hp : 0 ≤ n
  · obtain ⟨m, rfl⟩ : ∃ m : Nat, n = (m : Int) := ⟨n.toNat, by omega⟩
    have hd : (numB (m : Int)).data.toList = Lib.decDigits m := by rw [numB_pos]
    have hm : minusB (numB (m : Int)) = false := by
      unfold minusB
      rw [hd]
      exact decide_eq_false (dec_head m)
    have hf : fromB (numB (m : Int)) = 0 := by unfold fromB; rw [hm]; rfl
    have hz := numB_size m (by omega)
    unfold numR
    rw [hf, if_neg (by omega), hd, List.drop_zero, evalD_dec m m (Nat.le_refl _) (by omega), hm]
    simp only [numF]
    rw [if_neg (by decide), if_neg (by omega)]
    simp
  · obtain ⟨m, rfl⟩ : ∃ m : Nat, n = -(m : Int) := ⟨n.natAbs, by omega⟩
    have hm1 : 1 ≤ m := by omega
    have hb := numB_neg m hm1
    have hd : (numB (-(m : Int))).data.toList = 45 :: Lib.decDigits m := by
      rw [hb, numB_pos]
      simp
    have hm : minusB (numB (-(m : Int))) = true := by
      unfold minusB
      rw [hd]
      rfl
    have hf : fromB (numB (-(m : Int))) = 1 := by unfold fromB; rw [hm]; rfl
    have hz : (numB (-(m : Int))).size ≤ 20 := by
      have h2 := numB_size m (by omega)
      have h3 : (numB (-(m : Int))).size = (numB (-(m : Int))).data.toList.length := rfl
      have h4 : (numB (m : Int)).size = (Lib.decDigits m).length := by rw [numB_pos]; simp [ByteArray.size]
      rw [h3, hd]
      simp
      omega
    unfold numR
    rw [hf, if_neg (by omega), hd, List.drop_succ_cons, List.drop_zero, evalD_dec m m (Nat.le_refl _) (by omega), hm]
    simp [numF]
theorem numR_range (s : ByteArray) : -9223372036854775808 ≤ (numR s).1 ∧ (numR s).1 ≤ 9223372036854775807 := by
  have key : ∀ (l : List UInt8) (N M : Nat), N ≤ 9223372036854775808 → evalD l N = some M → M ≤ 9223372036854775808 := by
    intro l
    induction l with
    | nil => intro N M hN e; simp [evalD] at e; omega
    | cons c r ih =>
      intro N M hN e
      rw [evalD] at e
      split at e
      · cases e
      · split at e
        · cases e
        · exact ih _ M (by omega) e
  unfold numR
  split
  · simp
  · cases hN : evalD (s.data.toList.drop (fromB s)) 0 with
    | none => simp [numF]
    | some N =>
      have := key _ _ _ (by omega) hN
      simp only [numF]
      split
      · simp; omega
      · split
        · simp
        · simp; omega

theorem drop_at15 (s : ByteArray) (i : Nat) (hi : i < s.size) : s.data.toList.drop i = s[i]'hi :: s.data.toList.drop (i + 1) := by
  have hl : i < s.data.toList.length := by simpa using hi
  rw [List.drop_eq_getElem_cons hl]
  rfl
theorem size_list15 (s : ByteArray) : s.data.toList.length = s.size := rfl
set_option maxHeartbeats 4000000 in
set_option maxRecDepth 100000 in
theorem l15Number_any (s : ByteArray) (hs : s.size ≤ 1048576) (w : World) :
    Calls Tryd.prog 94 #[.string s] w fun e w' => e = .returned (.tuple #[.int .i64 (numR s).1, .bool (numR s).2]) ∧ Below w.heap.size w w' := by
  obtain ⟨A, hA⟩ : ∃ A, numR s = A := ⟨_, rfl⟩
  rw [hA]
  by_cases h0 : s.size = 0
  · obtain rfl : s = ⟨#[]⟩ := by
      apply ByteArray.ext
      exact Array.eq_empty_of_size_eq_zero h0
    have HA : Hid (A = (0, false)) := Lib.hid (by rw [← hA]; decide +kernel)
    have CD := Lib.hid (fun W => dig15_any 0 W (by omega) (by omega))
    have e0 : ((numB 0).toList == (⟨#[]⟩ : ByteArray).toList) = false := text_neM (by decide +kernel)
    have e2 : ¬ (numB 0).toList = [] := by rw [ByteArray.toList_eq]; decide +kernel
    clear hA h0
    go_enter Tryd.func94, Tryd.ntmps94
    go_wp2_with fail
    go_loopw [4, 7] (fun v i wr => v = .int .i64 0 ∧ i = .int .i64 0 ∧ wr = w) (fun _ _ _ => 0)
    case atStart => exact ⟨rfl, rfl, rfl⟩
    case round =>
      obtain ⟨rfl, rfl, rfl⟩ := hrel
      go_wp2_with (go_at_call 90; (with_reducible refine (CD.out _).mono ?_); rintro e w1 ⟨rfl, h1⟩; have HB1 := Lib.hid h1; clear h1)
      exact bodyPost_ret (v := .tuple #[.int .i64 0, .bool false]) (by simp [results, Tryd.results94, go_sem, e2]) rfl ⟨(by rw [HA.out]), HB1.out⟩
  have hp : 0 < s.size := by omega
  have hpi : (0 : Int) < (s.size : Int) := by omega
  have hI0 : ∀ W, (Instr.index 9 (.string s) (.int .i64 0)).run Tryd.prog W = _ := index_atW s 0 hp
  have hhd : s.data.toList.head? = some (s[0]'hp) := by
    have := drop_at15 s 0 hp
    rw [List.drop_zero] at this
    rw [this]
    rfl
  have hmi : minusB s = decide (s[0]'hp = 45) := by unfold minusB; rw [hhd]; simp
  have hc1 : ∀ c : UInt8, c = 45 ↔ (c.toNat : Int) = 45 := fun c => ⟨fun e => by rw [e]; rfl, fun e => by
    have h2 : c.toNat = 45 := by omega
    have h3 : UInt8.ofNat c.toNat = c := by simp
    rw [← h3, h2]
    rfl⟩
  have hcc := hc1 (s[0]'hp)
  clear hhd hc1 h0
  generalize s[0]'hp = cA at *
  obtain ⟨a, hae⟩ : ∃ a : Int, (cA.toNat : Int) = a := ⟨_, rfl⟩
  rw [hae] at hI0 hcc
  by_cases h45 : a = 45
  · have hmB : minusB s = true := by rw [hmi]; exact decide_eq_true (hcc.mpr h45)
    subst h45
    clear hmi hcc hae
    have HM0 : Hid (A = if 19 < s.size - 1 then (0, false) else numF s true (evalD (s.data.toList.drop 1) 0)) := Lib.hid (by rw [← hA]; unfold numR fromB; rw [hmB]; rfl)
    have hwf : IntKind.i64.wrap ((s.size : Int) - 1) = (s.size : Int) - 1 := IntWalk.i64_in _ (by omega)
    have hwf2 : IntKind.i64.wrap (s.size : Int) = (s.size : Int) := IntWalk.i64_in _ (by omega)
    by_cases hlong : 19 < s.size - 1
    · have g19 : 19 < (s.size : Int) - 1 := by omega
      have HA : Hid (A = (0, false)) := Lib.hid (by rw [HM0.out, if_pos hlong])
      clear HM0 hA hmB hlong
      go_enter Tryd.func94, Tryd.ntmps94
      go_wp2_with fail
      exact bodyPost_ret (v := .tuple #[.int .i64 0, .bool false]) (by simp [results, Tryd.results94, go_sem]) rfl ⟨(by rw [HA.out]), Below.refl _ _⟩
    have g19 : ¬ 19 < (s.size : Int) - 1 := by omega
    obtain ⟨R, hR⟩ : ∃ R, evalD (s.data.toList.drop 1) 0 = R := ⟨_, rfl⟩
    have HM : Hid (A = numF s true R) := Lib.hid (by rw [HM0.out, if_neg hlong, hR])
    have HR0 := Lib.hid hR
    clear HM0 hR hA hmB hlong
    go_enter Tryd.func94, Tryd.ntmps94
    go_wp2_with fail
    clear g19 hwf hwf2
    go_loopw [4, 7] (fun v i wr => ∃ (N k : Nat), v = .int .i64 (-(N : Int)) ∧ i = .int .i64 k ∧ 1 ≤ k ∧ k ≤ s.size ∧ N ≤ 9223372036854775808 ∧ Hid (evalD (s.data.toList.drop k) N = R) ∧ wr = w) (fun _ i _ => s.size - (intOf i).toNat)
    case atStart => exact ⟨0, 1, rfl, rfl, Nat.le_refl _, by omega, by omega, HR0, rfl⟩
    case round =>
      obtain ⟨N, k, rfl, rfl, hk1, hk, hN, HRk, rfl⟩ := hrel
      clear HR0 hI0
      by_cases hlt : k < s.size
      · have hli : (k : Int) < (s.size : Int) := by omega
        have hI := index_atW s k hlt
        have hc0 := (s[k]'hlt).toNat_lt
        have hst := HRk.out
        rw [drop_at15 s k hlt, evalD] at hst
        clear HRk
        generalize s[k]'hlt = cB at *
        obtain ⟨c, hce⟩ : ∃ c : Int, (cB.toNat : Int) = c := ⟨_, rfl⟩
        rw [hce] at hI
        by_cases hdig : cB.toNat < 48 ∨ 57 < cB.toNat
        · rw [if_pos hdig] at hst
          have HA : Hid (A = (0, false)) := Lib.hid (by rw [HM.out, ← hst]; rfl)
          by_cases h48 : c < 48
          · have d48 : decide (c < 48) = true := decide_eq_true h48
            clear hst hdig hce
            go_wp2_with fail
            exact bodyPost_ret (v := .tuple #[.int .i64 0, .bool false]) (by simp [results, Tryd.results94, go_sem]) rfl ⟨(by rw [HA.out]), Below.refl _ _⟩
          · have d48 : decide (c < 48) = false := decide_eq_false h48
            have h57 : 57 < c := by omega
            have d57 : decide (57 < c) = true := decide_eq_true h57
            clear hst hdig hce
            go_wp2_with fail
            exact bodyPost_ret (v := .tuple #[.int .i64 0, .bool false]) (by simp [results, Tryd.results94, go_sem]) rfl ⟨(by rw [HA.out]), Below.refl _ _⟩
        · rw [if_neg hdig] at hst
          have h48 : ¬ c < 48 := by omega
          have h57 : ¬ 57 < c := by omega
          have d48 : decide (c < 48) = false := decide_eq_false h48
          have d57 : decide (57 < c) = false := decide_eq_false h57
          obtain ⟨d, hd⟩ : ∃ d : Int, c - 48 = d := ⟨_, rfl⟩
          have hcd : cB.toNat - 48 = d.toNat := by omega
          have hd0 : 0 ≤ d ∧ d ≤ 9 := by omega
          rw [hcd] at hst
          obtain ⟨x, hx⟩ : ∃ x : Int, -(N : Int) = x := ⟨_, rfl⟩
          rw [hx]
          have w1 : IntKind.u8.wrap (c - 48) = d := by rw [hd]; simp [IntKind.wrap, IntKind.signed, IntKind.bits]; omega
          have w2 : IntKind.i64.wrap d = d := IntWalk.i64_in _ (by omega)
          obtain ⟨y, hy⟩ : ∃ y : Int, -9223372036854775808 + d = y := ⟨_, rfl⟩
          have w3 : IntKind.i64.wrap (-9223372036854775808 + d) = y := by rw [hy]; exact IntWalk.i64_in _ (by omega)
          obtain ⟨q, hq⟩ : ∃ q : Int, y.tdiv 10 = q := ⟨_, rfl⟩
          have hqv : q = -((9223372036854775808 - d) / 10) := by
            rw [← hq, show y = -(9223372036854775808 - d) by omega, Int.neg_tdiv, Int.tdiv_eq_ediv_of_nonneg (by omega)]
          have w4 : IntKind.i64.wrap q = q := IntWalk.i64_in _ (by omega)
          by_cases hov : 9223372036854775808 < 10 * N + d.toNat
          · rw [if_pos hov] at hst
            have HA : Hid (A = (0, false)) := Lib.hid (by rw [HM.out, ← hst]; rfl)
            have hlt2 : x < q := by omega
            have dlt : decide (x < q) = true := decide_eq_true hlt2
            clear hst hov hdig hce hcd hd hqv hx hy
            go_wp2_with fail
            exact bodyPost_ret (v := .tuple #[.int .i64 0, .bool false]) (by simp [results, Tryd.results94, go_sem]) rfl ⟨(by rw [HA.out]), Below.refl _ _⟩
          · rw [if_neg hov] at hst
            have HS := Lib.hid hst
            have hlt2 : ¬ x < q := by omega
            have dlt : decide (x < q) = false := decide_eq_false hlt2
            obtain ⟨x10, h10⟩ : ∃ t : Int, 10 * x = t := ⟨_, rfl⟩
            have w5 : IntKind.i64.wrap (10 * x) = x10 := by rw [h10]; exact IntWalk.i64_in _ (by omega)
            obtain ⟨x2, h2⟩ : ∃ t : Int, x10 - d = t := ⟨_, rfl⟩
            have w6 : IntKind.i64.wrap (x10 - d) = x2 := by rw [h2]; exact IntWalk.i64_in _ (by omega)
            have HX := Lib.hid (show x2 = -((10 * N + d.toNat : Nat) : Int) by omega)
            have HB := Lib.hid (show 10 * N + d.toNat ≤ 9223372036854775808 by omega)
            clear hst hov hdig hce hcd hd hqv hx hy h10 h2 hN
            go_wp2_with fail
            go_roundw
            case rel => exact ⟨10 * N + d.toNat, k + 1, by rw [← HX.out], by go_num, by omega, by omega, HB.out, HS.out, by first | trivial | rfl⟩
            case measure => simp [intOf]; omega
      · obtain rfl : k = s.size := by omega
        have hlti : ¬ (s.size : Int) < (s.size : Int) := by omega
        have hR := HRk.out
        rw [List.drop_of_length_le (by rw [size_list15]; exact Nat.le_refl _), evalD] at hR
        have HA0 : Hid (A = numF s true (some N)) := Lib.hid (by rw [HM.out, ← hR])
        clear HRk hR
        obtain ⟨x, hx⟩ : ∃ x : Int, -(N : Int) = x := ⟨_, rfl⟩
        rw [hx]
        have CD := Lib.hid (fun W => dig15_any x W (by omega) (by omega))
        by_cases he : numB x = s
        · have e0 : ((numB x).toList == s.toList) = true := by rw [he, beq_iff_eq]
          have HA : Hid (A = (x, true)) := Lib.hid (by rw [HA0.out]; simp only [numF]; rw [if_pos trivial, hx, decide_eq_true he])
          clear HA0 he hx
          go_wp2_with (go_at_call 90; (with_reducible refine (CD.out _).mono ?_); rintro e w1 ⟨rfl, h1⟩; have HB1 := Lib.hid h1; clear h1)
          exact bodyPost_ret (v := .tuple #[.int .i64 x, .bool true]) (by simp [results, Tryd.results94, go_sem]) rfl ⟨(by rw [HA.out]), HB1.out⟩
        · have e0 := text_neM he
          have HA : Hid (A = (x, false)) := Lib.hid (by rw [HA0.out]; simp only [numF]; rw [if_pos trivial, hx, decide_eq_false he])
          clear HA0 he hx
          go_wp2_with (go_at_call 90; (with_reducible refine (CD.out _).mono ?_); rintro e w1 ⟨rfl, h1⟩; have HB1 := Lib.hid h1; clear h1)
          exact bodyPost_ret (v := .tuple #[.int .i64 x, .bool false]) (by simp [results, Tryd.results94, go_sem]) rfl ⟨(by rw [HA.out]), HB1.out⟩
  · have hmB : minusB s = false := by rw [hmi]; exact decide_eq_false (fun e => h45 (hcc.mp e))
    have e45 : (a == 45) = false := beq_eq_false_iff_ne.mpr h45
    clear hmi hcc hae h45
    have HM0 : Hid (A = if 19 < s.size - 0 then (0, false) else numF s false (evalD (s.data.toList.drop 0) 0)) := Lib.hid (by rw [← hA]; unfold numR fromB; rw [hmB]; rfl)
    have hwf : IntKind.i64.wrap ((s.size : Int) - 0) = (s.size : Int) - 0 := IntWalk.i64_in _ (by omega)
    have hwf2 : IntKind.i64.wrap (s.size : Int) = (s.size : Int) := IntWalk.i64_in _ (by omega)
    by_cases hlong : 19 < s.size - 0
    · have g19 : 19 < (s.size : Int) := by omega
      have HA : Hid (A = (0, false)) := Lib.hid (by rw [HM0.out, if_pos hlong])
      clear HM0 hA hmB hlong
      go_enter Tryd.func94, Tryd.ntmps94
      go_wp2_with fail
      exact bodyPost_ret (v := .tuple #[.int .i64 0, .bool false]) (by simp [results, Tryd.results94, go_sem]) rfl ⟨(by rw [HA.out]), Below.refl _ _⟩
    have g19 : ¬ 19 < (s.size : Int) := by omega
    obtain ⟨R, hR⟩ : ∃ R, evalD (s.data.toList.drop 0) 0 = R := ⟨_, rfl⟩
    have HM : Hid (A = numF s false R) := Lib.hid (by rw [HM0.out, if_neg hlong, hR])
    have HR0 := Lib.hid hR
    clear HM0 hR hA hmB hlong
    go_enter Tryd.func94, Tryd.ntmps94
    go_wp2_with fail
    clear g19 hwf hwf2
    go_loopw [4, 7] (fun v i wr => ∃ (N k : Nat), v = .int .i64 (-(N : Int)) ∧ i = .int .i64 k ∧ 0 ≤ k ∧ k ≤ s.size ∧ N ≤ 9223372036854775808 ∧ Hid (evalD (s.data.toList.drop k) N = R) ∧ wr = w) (fun _ i _ => s.size - (intOf i).toNat)
    case atStart => exact ⟨0, 0, rfl, rfl, Nat.le_refl _, by omega, by omega, HR0, rfl⟩
    case round =>
      obtain ⟨N, k, rfl, rfl, hk1, hk, hN, HRk, rfl⟩ := hrel
      clear HR0 hI0
      by_cases hlt : k < s.size
      · have hli : (k : Int) < (s.size : Int) := by omega
        have hI := index_atW s k hlt
        have hc0 := (s[k]'hlt).toNat_lt
        have hst := HRk.out
        rw [drop_at15 s k hlt, evalD] at hst
        clear HRk
        generalize s[k]'hlt = cB at *
        obtain ⟨c, hce⟩ : ∃ c : Int, (cB.toNat : Int) = c := ⟨_, rfl⟩
        rw [hce] at hI
        by_cases hdig : cB.toNat < 48 ∨ 57 < cB.toNat
        · rw [if_pos hdig] at hst
          have HA : Hid (A = (0, false)) := Lib.hid (by rw [HM.out, ← hst]; rfl)
          by_cases h48 : c < 48
          · have d48 : decide (c < 48) = true := decide_eq_true h48
            clear hst hdig hce
            go_wp2_with fail
            exact bodyPost_ret (v := .tuple #[.int .i64 0, .bool false]) (by simp [results, Tryd.results94, go_sem]) rfl ⟨(by rw [HA.out]), Below.refl _ _⟩
          · have d48 : decide (c < 48) = false := decide_eq_false h48
            have h57 : 57 < c := by omega
            have d57 : decide (57 < c) = true := decide_eq_true h57
            clear hst hdig hce
            go_wp2_with fail
            exact bodyPost_ret (v := .tuple #[.int .i64 0, .bool false]) (by simp [results, Tryd.results94, go_sem]) rfl ⟨(by rw [HA.out]), Below.refl _ _⟩
        · rw [if_neg hdig] at hst
          have h48 : ¬ c < 48 := by omega
          have h57 : ¬ 57 < c := by omega
          have d48 : decide (c < 48) = false := decide_eq_false h48
          have d57 : decide (57 < c) = false := decide_eq_false h57
          obtain ⟨d, hd⟩ : ∃ d : Int, c - 48 = d := ⟨_, rfl⟩
          have hcd : cB.toNat - 48 = d.toNat := by omega
          have hd0 : 0 ≤ d ∧ d ≤ 9 := by omega
          rw [hcd] at hst
          obtain ⟨x, hx⟩ : ∃ x : Int, -(N : Int) = x := ⟨_, rfl⟩
          rw [hx]
          have w1 : IntKind.u8.wrap (c - 48) = d := by rw [hd]; simp [IntKind.wrap, IntKind.signed, IntKind.bits]; omega
          have w2 : IntKind.i64.wrap d = d := IntWalk.i64_in _ (by omega)
          obtain ⟨y, hy⟩ : ∃ y : Int, -9223372036854775808 + d = y := ⟨_, rfl⟩
          have w3 : IntKind.i64.wrap (-9223372036854775808 + d) = y := by rw [hy]; exact IntWalk.i64_in _ (by omega)
          obtain ⟨q, hq⟩ : ∃ q : Int, y.tdiv 10 = q := ⟨_, rfl⟩
          have hqv : q = -((9223372036854775808 - d) / 10) := by
            rw [← hq, show y = -(9223372036854775808 - d) by omega, Int.neg_tdiv, Int.tdiv_eq_ediv_of_nonneg (by omega)]
          have w4 : IntKind.i64.wrap q = q := IntWalk.i64_in _ (by omega)
          by_cases hov : 9223372036854775808 < 10 * N + d.toNat
          · rw [if_pos hov] at hst
            have HA : Hid (A = (0, false)) := Lib.hid (by rw [HM.out, ← hst]; rfl)
            have hlt2 : x < q := by omega
            have dlt : decide (x < q) = true := decide_eq_true hlt2
            clear hst hov hdig hce hcd hd hqv hx hy
            go_wp2_with fail
            exact bodyPost_ret (v := .tuple #[.int .i64 0, .bool false]) (by simp [results, Tryd.results94, go_sem]) rfl ⟨(by rw [HA.out]), Below.refl _ _⟩
          · rw [if_neg hov] at hst
            have HS := Lib.hid hst
            have hlt2 : ¬ x < q := by omega
            have dlt : decide (x < q) = false := decide_eq_false hlt2
            obtain ⟨x10, h10⟩ : ∃ t : Int, 10 * x = t := ⟨_, rfl⟩
            have w5 : IntKind.i64.wrap (10 * x) = x10 := by rw [h10]; exact IntWalk.i64_in _ (by omega)
            obtain ⟨x2, h2⟩ : ∃ t : Int, x10 - d = t := ⟨_, rfl⟩
            have w6 : IntKind.i64.wrap (x10 - d) = x2 := by rw [h2]; exact IntWalk.i64_in _ (by omega)
            have HX := Lib.hid (show x2 = -((10 * N + d.toNat : Nat) : Int) by omega)
            have HB := Lib.hid (show 10 * N + d.toNat ≤ 9223372036854775808 by omega)
            clear hst hov hdig hce hcd hd hqv hx hy h10 h2 hN
            go_wp2_with fail
            go_roundw
            case rel => exact ⟨10 * N + d.toNat, k + 1, by rw [← HX.out], by go_num, by omega, by omega, HB.out, HS.out, by first | trivial | rfl⟩
            case measure => simp [intOf]; omega
      · obtain rfl : k = s.size := by omega
        have hlti : ¬ (s.size : Int) < (s.size : Int) := by omega
        have hR := HRk.out
        rw [List.drop_of_length_le (by rw [size_list15]; exact Nat.le_refl _), evalD] at hR
        have HA0 : Hid (A = numF s false (some N)) := Lib.hid (by rw [HM.out, ← hR])
        clear HRk hR
        obtain ⟨x, hx⟩ : ∃ x : Int, -(N : Int) = x := ⟨_, rfl⟩
        rw [hx]
        by_cases hmx : N = 9223372036854775808
        · have e1 : (x == -9223372036854775808) = true := by rw [beq_iff_eq]; omega
          have hx1 : x = -9223372036854775808 := by omega
          have HA : Hid (A = (0, false)) := Lib.hid (by rw [HA0.out]; simp only [numF]; rw [if_neg (by decide), if_pos hmx])
          clear HA0 hx hmx e1
          subst hx1
          go_wp2_with fail
          exact bodyPost_ret (v := .tuple #[.int .i64 0, .bool false]) (by simp [results, Tryd.results94, go_sem]) rfl ⟨(by rw [HA.out]), Below.refl _ _⟩
        · have e1 : (x == -9223372036854775808) = false := beq_eq_false_iff_ne.mpr (by omega)
          obtain ⟨z, hz⟩ : ∃ z : Int, -x = z := ⟨_, rfl⟩
          have w7 : IntKind.i64.wrap (-x) = z := by rw [hz]; exact IntWalk.i64_in _ (by omega)
          have hzN : (N : Int) = z := by omega
          have CD := Lib.hid (fun W => dig15_any z W (by omega) (by omega))
          by_cases he : numB z = s
          · have e0 : ((numB z).toList == s.toList) = true := by rw [he, beq_iff_eq]
            have HA : Hid (A = (z, true)) := Lib.hid (by rw [HA0.out]; simp only [numF]; rw [if_neg (by decide), if_neg hmx, hzN, decide_eq_true he])
            clear HA0 he hx hz hzN hmx
            go_wp2_with (go_at_call 90; (with_reducible refine (CD.out _).mono ?_); rintro e w1 ⟨rfl, h1⟩; have HB1 := Lib.hid h1; clear h1)
            exact bodyPost_ret (v := .tuple #[.int .i64 z, .bool true]) (by simp [results, Tryd.results94, go_sem]) rfl ⟨(by rw [HA.out]), HB1.out⟩
          · have e0 := text_neM he
            have HA : Hid (A = (z, false)) := Lib.hid (by rw [HA0.out]; simp only [numF]; rw [if_neg (by decide), if_neg hmx, hzN, decide_eq_false he])
            clear HA0 he hx hz hzN hmx
            go_wp2_with (go_at_call 90; (with_reducible refine (CD.out _).mono ?_); rintro e w1 ⟨rfl, h1⟩; have HB1 := Lib.hid h1; clear h1)
            exact bodyPost_ret (v := .tuple #[.int .i64 z, .bool false]) (by simp [results, Tryd.results94, go_sem]) rfl ⟨(by rw [HA.out]), HB1.out⟩
end Go.Proofs.YtoeofhhmkkpjbaaDoor
