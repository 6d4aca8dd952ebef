/-
  The walk of the model's l03Name.
-/
import Derived.Test.YtlmmbheamicdaaaDoorNamePure
import Derived.Deep.LoopGhost
import Derived.IntWalk
namespace Go.Proofs.YtlmmbheamicdaaaDoor
open Go.ChangeShapes Go.WideShapes Go.ChangeAt Go.RowKit

theorem index_at (s : ByteArray) (j : Nat) (h : j < s.size) : ∀ W, (Instr.index 9 (.string s) (.int .i64 (j : Int))).run Tryd.prog W = .ok (.int .u8 ((s[j]'h).toNat : Int)) W := by
  intro W
  rw [run_index_string W _ _ _ _ Tryd.underlying9, dif_pos ⟨by omega, by omega⟩]
  rfl
theorem index_back (s : ByteArray) (j : Nat) (h : j < s.size) (i : Int) (hi : i = (j : Int)) : ∀ W, (Instr.index 9 (.string s) (.int .i64 i)).run Tryd.prog W = .ok (.int .u8 ((s[j]'h).toNat : Int)) W := by
  subst hi
  exact index_at s j h

/-- The byte ahead of a place. -/
def prevB (s : ByteArray) (i : Nat) : UInt8 := if i = 0 then 0 else s.data.toList.getD (i - 1) 0
theorem prevB_succ (s : ByteArray) (i : Nat) (h : i < s.size) : prevB s (i + 1) = s[i]'h := by
  have hl : i < s.data.toList.length := by simpa using h
  unfold prevB
  rw [if_neg (by omega), Nat.add_sub_cancel, List.getD_eq_getElem?_getD, List.getElem?_eq_getElem hl]
  rfl
theorem prevB_at (s : ByteArray) (i : Nat) (h0 : i ≠ 0) (h : i - 1 < s.size) : prevB s i = s[i - 1]'h := by
  obtain ⟨k, rfl⟩ : ∃ k, i = k + 1 := ⟨i - 1, by omega⟩
  exact prevB_succ s k h
theorem nmL_at (s : ByteArray) (i : Nat) (h : i < s.size) (p : UInt8) :
    nmL (s.data.toList.drop i) p = if okb (s[i]'h) = false then false else if (s[i]'h) = 45 ∧ p = 45 then false else nmL (s.data.toList.drop (i + 1)) (s[i]'h) := by
  have hl : i < s.data.toList.length := by simpa using h
  rw [List.drop_eq_getElem_cons hl]
  rfl

theorem head_of (s : ByteArray) (h : 0 < s.size) : s.data.toList.headD 0 = s[0]'h := by
  have hl : 0 < s.data.toList.length := by simpa using h
  match hs : s.data.toList, hl with
  | c :: t, _ =>
    have h1 : s.data.toList[0]'(by rw [hs]; simp) = c := by simp [hs]
    rw [List.headD_cons, ← h1]
    rfl
theorem last_of (s : ByteArray) (h : s.size - 1 < s.size) : s.data.toList.getLastD 0 = s[s.size - 1]'h := by
  have hl : s.size - 1 < s.data.toList.length := by simpa using h
  have hz : s.data.toList.length = s.size := rfl
  rw [List.getLastD_eq_getLast?, List.getLast?_eq_getElem?, hz, List.getElem?_eq_getElem hl]
  rfl
theorem u8_eq_iff (c : UInt8) (k : Nat) (hk : k < 256) : c = UInt8.ofNat k ↔ (c.toNat : Int) = k := by
  constructor
  · rintro rfl
    simp
    omega
  · intro h
    have h2 : c.toNat = k := by omega
    rw [← h2]
    simp

theorem specName_short (s : ByteArray) (h : s.size = 0) (w : World) :
    Calls Tryd.prog 25 #[.string s] w fun e w' => e = .returned (.bool false) ∧ w = w' := by
  go_enter Tryd.func25, Tryd.ntmps25
  go_wp2
  go_ret
  exact ⟨rfl, rfl⟩
theorem specName_long (s : ByteArray) (h : 12 < s.size) (hs : s.size ≤ 1048576) (w : World) :
    Calls Tryd.prog 25 #[.string s] w fun e w' => e = .returned (.bool false) ∧ w = w' := by
  have h1 : ¬ s.size < 1 := by omega
  go_enter Tryd.func25, Tryd.ntmps25
  go_wp2
  go_ret
  exact ⟨rfl, rfl⟩
theorem specName_first (s : ByteArray) (h : 1 ≤ s.size) (h12 : s.size ≤ 12) (ha : ((s[0]'(by omega)).toNat : Int) < 97 ∨ 122 < ((s[0]'(by omega)).toNat : Int)) (w : World) :
    Calls Tryd.prog 25 #[.string s] w fun e w' => e = .returned (.bool false) ∧ w = w' := by
  have h1 : ¬ s.size < 1 := by omega
  have h2 : ¬ 12 < s.size := by omega
  have hI : ∀ W, (Instr.index 9 (.string s) (.int .i64 0)).run Tryd.prog W = _ := index_at s 0 (by omega)
  generalize ((s[0]'(by omega)).toNat : Int) = a at *
  rcases ha with ha | ha
  · go_enter Tryd.func25, Tryd.ntmps25
    go_wp2
    go_ret
    exact ⟨rfl, rfl⟩
  · have h3 : ¬ a < 97 := by omega
    go_enter Tryd.func25, Tryd.ntmps25
    go_wp2
    go_ret
    exact ⟨rfl, rfl⟩
theorem specName_last (s : ByteArray) (h : 1 ≤ s.size) (h12 : s.size ≤ 12) (ha0 : 97 ≤ ((s[0]'(by omega)).toNat : Int)) (ha1 : ((s[0]'(by omega)).toNat : Int) ≤ 122) (hz : ((s[s.size - 1]'(by omega)).toNat : Int) = 45) (w : World) :
    Calls Tryd.prog 25 #[.string s] w fun e w' => e = .returned (.bool false) ∧ w = w' := by
  have h1 : ¬ s.size < 1 := by omega
  have h2 : ¬ 12 < s.size := by omega
  have hI : ∀ W, (Instr.index 9 (.string s) (.int .i64 0)).run Tryd.prog W = _ := index_at s 0 (by omega)
  have hL := index_back s (s.size - 1) (by omega) ((s.size : Int) - 1) (by omega)
  rw [hz] at hL
  generalize ((s[0]'(by omega)).toNat : Int) = a at *
  have h3 : ¬ a < 97 := by omega
  have h4 : ¬ 122 < a := by omega
  clear hz
  go_enter Tryd.func25, Tryd.ntmps25
  go_wp2
  go_ret
  exact ⟨rfl, rfl⟩

theorem specName_loop (s : ByteArray) (h : 1 ≤ s.size) (h12 : s.size ≤ 12) (ha0 : 97 ≤ ((s[0]'(by omega)).toNat : Int)) (ha1 : ((s[0]'(by omega)).toNat : Int) ≤ 122) (hz : ((s[s.size - 1]'(by omega)).toNat : Int) ≠ 45) (w : World) :
    Calls Tryd.prog 25 #[.string s] w fun e w' => e = .returned (.bool (nmL s.data.toList 0)) ∧ w = w' := by
  have h1 : ¬ s.size < 1 := by omega
  have h2 : ¬ 12 < s.size := by omega
  have hI : ∀ W, (Instr.index 9 (.string s) (.int .i64 0)).run Tryd.prog W = _ := index_at s 0 (by omega)
  have hL := index_back s (s.size - 1) (by omega) ((s.size : Int) - 1) (by omega)
  have HA := Lib.hid (And.intro ha0 ha1)
  obtain ⟨R, hR⟩ : ∃ R, nmL s.data.toList 0 = R := ⟨_, rfl⟩
  rw [hR]
  have HR0 : Hid (nmL (s.data.toList.drop 0) (prevB s 0) = R) := Lib.hid (by rw [List.drop_zero]; exact hR)
  clear hR
  obtain ⟨a, hae⟩ : ∃ a : Int, ((s[0]'(by omega)).toNat : Int) = a := ⟨_, rfl⟩
  obtain ⟨z, hze⟩ : ∃ z : Int, ((s[s.size - 1]'(by omega)).toNat : Int) = z := ⟨_, rfl⟩
  rw [hae] at hI ha0 ha1
  rw [hze] at hL hz
  have h3 : ¬ a < 97 := by omega
  have h4 : ¬ 122 < a := by omega
  have h5 : (z == 45) = false := beq_eq_false_iff_ne.mpr hz
  clear hae hze hz ha0 ha1
  go_enter Tryd.func25, Tryd.ntmps25
  go_wp2_with fail
  go_loopg [3] 12 (fun gf s3 wz => ∃ i : Nat, s3 = .int .i64 i ∧ wz = w ∧ i ≤ s.size ∧ s.size ≤ i + gf ∧ Hid (nmL (s.data.toList.drop i) (prevB s i) = R))
  case atStart => exact ⟨0, rfl, rfl, by omega, by omega, HR0⟩
  case round =>
    obtain ⟨i, rfl, rfl, his, hfu, hRi⟩ := hrel
    clear hI hL h3 h4 h5 HR0
    by_cases hlt : i < s.size
    · obtain ⟨g', rfl⟩ : ∃ g', gk = g' + 1 := ⟨gk - 1, by omega⟩
      have hst := (nmL_at s i hlt (prevB s i)).symm.trans hRi.out
      have hps := prevB_succ s i hlt
      have hIi := index_at s i hlt
      have hc0 := (s[i]'hlt).toNat_lt
      have hok := okb_iff (s[i]'hlt)
      have h45 := u8_eq_iff (s[i]'hlt) 45 (by omega)
      have hfirst : i = 0 → 97 ≤ ((s[i]'hlt).toNat : Int) ∧ ((s[i]'hlt).toNat : Int) ≤ 122 := by
        rintro rfl
        exact HA.out
      clear hRi
      generalize s[i]'hlt = cB at *
      obtain ⟨c, hce⟩ : ∃ c : Int, (cB.toNat : Int) = c := ⟨_, rfl⟩
      rw [hce] at hIi h45 hfirst
      by_cases hletter : 97 ≤ c ∧ c ≤ 122
      · obtain ⟨k0, k1⟩ := hletter
        have hokt : okb cB = true := hok.mpr (by omega)
        rw [if_neg (by rw [hokt]; decide), if_neg (by rintro ⟨e, _⟩; have := h45.mp e; omega)] at hst
        rw [← hps] at hst
        have HS := Lib.hid hst
        have m1 : ¬ c < 97 := by omega
        have m2 : ¬ 122 < c := by omega
        have m3 : (c == 45) = false := beq_eq_false_iff_ne.mpr (by omega)
        clear hps hst hok h45 hfirst hce hokt
        go_wp2_with fail
        go_roundg g'
        case measure => omega
        case rel => exact ⟨i + 1, by go_num, rfl, by omega, by omega, HS⟩
      · by_cases hdigit : 48 ≤ c ∧ c ≤ 57
        · obtain ⟨k0, k1⟩ := hdigit
          have hokt : okb cB = true := hok.mpr (by omega)
          rw [if_neg (by rw [hokt]; decide), if_neg (by rintro ⟨e, _⟩; have := h45.mp e; omega)] at hst
          rw [← hps] at hst
          have HS := Lib.hid hst
          have m1 : c < 97 := by omega
          have m2 : ¬ c < 48 := by omega
          have m4 : ¬ 57 < c := by omega
          have m3 : (c == 45) = false := beq_eq_false_iff_ne.mpr (by omega)
          clear hps hst hok h45 hfirst hce hokt hletter
          go_wp2_with fail
          go_roundg g'
          case measure => omega
          case rel => exact ⟨i + 1, by go_num, rfl, by omega, by omega, HS⟩
        · by_cases hdash : c = 45
          · have hokt : okb cB = true := hok.mpr (by omega)
            have hi0 : i ≠ 0 := fun e => hletter (hfirst e)
            have hpv := prevB_at s i hi0 (by omega)
            have hIp := index_back s (i - 1) (by omega) ((i : Int) - 1) (by omega)
            have hp45 := u8_eq_iff (s[i - 1]'(by omega)) 45 (by omega)
            rw [← hpv] at hIp hp45
            obtain ⟨q, hqe⟩ : ∃ q : Int, ((prevB s i).toNat : Int) = q := ⟨_, rfl⟩
            rw [hqe] at hIp hp45
            rw [if_neg (by rw [hokt]; decide)] at hst
            have hc45 : cB = 45 := h45.mpr hdash
            by_cases hq : q = 45
            · rw [if_pos ⟨hc45, hp45.mpr hq⟩] at hst
              subst hst
              subst hq
              subst hdash
              clear hps hok h45 hfirst hce hokt hletter hdigit hp45 hqe hpv hc45
              go_wp2_with fail
              go_ret
              exact ⟨rfl, rfl⟩
            · rw [if_neg (by rintro ⟨_, e⟩; exact hq (hp45.mp e))] at hst
              rw [← hps] at hst
              have HS := Lib.hid hst
              have mq : (q == 45) = false := beq_eq_false_iff_ne.mpr hq
              subst hdash
              clear hps hst hok h45 hfirst hce hokt hletter hdigit hp45 hqe hpv hc45 hq
              go_wp2_with fail
              go_roundg g'
              case measure => omega
              case rel => exact ⟨i + 1, by go_num, rfl, by omega, by omega, HS⟩
          · have hokf : okb cB = false := by
              rw [Bool.eq_false_iff]
              intro e
              have := hok.mp e
              omega
            rw [if_pos hokf] at hst
            subst hst
            have m3 : (c != 45) = true := by rw [bne_iff_ne]; exact hdash
            by_cases n1 : c < 48
            · have n2 : c < 97 := by omega
              clear hps hok h45 hfirst hce hokf hletter hdigit hdash
              go_wp2_with fail
              go_ret
              exact ⟨rfl, rfl⟩
            · have n3 : 57 < c := by omega
              by_cases n2 : c < 97
              · clear hps hok h45 hfirst hce hokf hletter hdigit hdash
                go_wp2_with fail
                go_ret
                exact ⟨rfl, rfl⟩
              · have n4 : 122 < c := by omega
                clear hps hok h45 hfirst hce hokf hletter hdigit hdash
                go_wp2_with fail
                go_ret
                exact ⟨rfl, rfl⟩
    · have hRt : R = true := by
        have := hRi.out
        rw [List.drop_eq_nil_of_le (by simp; omega)] at this
        exact this.symm
      clear hRi
      go_wp2_with fail
      go_ret
      exact ⟨by rw [hRt]; rfl, rfl⟩
end Go.Proofs.YtlmmbheamicdaaaDoor
