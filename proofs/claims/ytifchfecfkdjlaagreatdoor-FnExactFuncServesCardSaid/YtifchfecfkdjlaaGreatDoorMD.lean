/-
  NamePure, NameS, NameB, TyName: in one text.
-/
import Derived.Test.YtifchfecfkdjlaaGreatDoorBase
import Derived.Lib.SlTrimSet
import Derived.Lib.IndexLaws
import Derived.Lib.IndexMore
import Derived.Deep.LoopGhost
import Derived.IntWalk
import Derived.Ground.NamesProg
import Derived.Shelf.Lay
import Derived.Shelf.Strings.SlTrimAscii
import Derived.Shelf.Strings.Shaped
import Derived.Test.YtifchfecfkdjlaaGreatDoorMC
namespace Go.Proofs.YtifchfecfkdjlaaGreatDoor

/-- The bytes of names. -/
def nset : List UInt8 := [97, 98, 99, 100, 101, 102, 103, 104, 105, 106, 107, 108, 109, 110, 111, 112, 113, 114, 115, 116, 117, 118, 119, 120, 121, 122, 48, 49, 50, 51, 52, 53, 54, 55, 56, 57, 45]
def okb (c : UInt8) : Bool := nset.contains c
set_option maxRecDepth 100000 in
theorem okb_all : ∀ n : Fin 256, nset.contains (UInt8.ofNat n.val) = decide ((97 ≤ n.val ∧ n.val ≤ 122) ∨ (48 ≤ n.val ∧ n.val ≤ 57) ∨ n.val = 45) := by decide
theorem okb_iff (c : UInt8) : okb c = true ↔ ((97 ≤ c.toNat ∧ c.toNat ≤ 122) ∨ (48 ≤ c.toNat ∧ c.toNat ≤ 57) ∨ c.toNat = 45) := by
  have h := okb_all ⟨c.toNat, c.toNat_lt⟩
  have hc : UInt8.ofNat c.toNat = c := by simp
  simp only [hc] at h
  unfold okb
  rw [h]
  simp

/-- The bytes that are left, behind a byte: may they go on so? -/
def nmL : List UInt8 → UInt8 → Bool
  | [], _ => true
  | c :: t, p => if okb c = false then false else if c = 45 ∧ p = 45 then false else nmL t c

/-- Is a text a name? -/
def nameL (l : List UInt8) : Bool :=
  decide (1 ≤ l.length ∧ l.length ≤ 12) && decide (97 ≤ (l.headD 0).toNat ∧ (l.headD 0).toNat ≤ 122) && (l.getLastD 0 != 45) && nmL l 0

theorem dropWhile_nil (p : UInt8 → Bool) : ∀ l : List UInt8, l.dropWhile p = [] ↔ ∀ c ∈ l, p c = true
  | [] => by simp
  | a :: l => by
    rw [List.dropWhile_cons]
    by_cases h : p a = true
    · rw [if_pos h, dropWhile_nil p l]
      simp [h]
    · rw [if_neg h]
      simp [h]

/-- Trimmed away whole: just where each byte is one of the set. -/
theorem trim_nil (l cs : List UInt8) : Lib.trimS l cs = [] ↔ ∀ c ∈ l, cs.contains c = true := by
  unfold Lib.trimS Lib.trimLeftS Lib.trimRightS
  rw [dropWhile_nil]
  constructor
  · intro h
    by_cases hall : ∀ c ∈ l, cs.contains c = true
    · exact hall
    · exfalso
      have hne : ¬ (l.reverse.dropWhile (fun x => cs.contains x)) = [] := by
        rw [dropWhile_nil]
        intro h2
        exact hall (fun c hc => h2 c (by simpa using hc))
      match hd : l.reverse.dropWhile (fun x => cs.contains x), hne with
      | c :: t, _ =>
        have h1 := h c (by rw [hd]; simp)
        have h2 := List.head_dropWhile_not (fun x => cs.contains x) (l := l.reverse) (by rw [hd]; simp)
        simp only [hd, List.head_cons] at h2
        rw [h1] at h2
        cases h2
  · intro h c hc
    have h1 : c ∈ l.reverse.dropWhile (fun x => cs.contains x) := by simpa using hc
    have h2 := (List.dropWhile_sublist (fun x => cs.contains x) (l := l.reverse)).subset h1
    exact h c (by simpa using h2)

theorem nmL_iff : ∀ (l : List UInt8) (p : UInt8), nmL l p = true ↔ ((∀ c ∈ l, okb c = true) ∧ ¬ (p = 45 ∧ l.head? = some 45) ∧ Lib.index l [45, 45] = -1)
  | [], p => by simp [nmL, Lib.index]
  | c :: t, p => by
    rw [nmL]
    have ih := nmL_iff t c
    have hi : Lib.index (c :: t) [45, 45] = if c = 45 ∧ t.head? = some 45 then 0 else if Lib.index t [45, 45] == -1 then -1 else Lib.index t [45, 45] + 1 := by
      rw [Lib.index]
      congr 1
      cases t with
      | nil => simp
      | cons d u =>
        simp only [List.isPrefixOf, List.head?_cons, Option.some.injEq, Bool.and_true, Bool.and_eq_true, beq_iff_eq, eq_iff_iff]
        constructor
        · rintro ⟨h1, h2⟩
          exact ⟨h1.symm, h2.symm⟩
        · rintro ⟨h1, h2⟩
          exact ⟨h1.symm, h2.symm⟩
    have hg := Lib.index_ge t [45, 45]
    rw [hi]
    by_cases h1 : okb c = false
    · rw [if_pos h1]
      simp [h1]
    · rw [if_neg h1]
      have h1' : okb c = true := by simpa using h1
      by_cases h2 : c = 45 ∧ p = 45
      · rw [if_pos h2]
        simp [h2.1, h2.2]
      · rw [if_neg h2, ih]
        have h2' : ¬ (p = 45 ∧ (c :: t).head? = some 45) := by
          intro h3
          exact h2 ⟨by simpa using h3.2, h3.1⟩
        by_cases h4 : c = 45 ∧ t.head? = some 45
        · rw [if_pos h4]
          constructor
          · intro h5
            exact absurd h4 h5.2.1
          · intro h5
            exact absurd h5.2.2 (by decide)
        · rw [if_neg h4]
          constructor
          · rintro ⟨h5, _, h7⟩
            refine ⟨?_, h2', by rw [h7]; rfl⟩
            intro d hd
            rcases List.mem_cons.mp hd with rfl | hd
            · exact h1'
            · exact h5 d hd
          · rintro ⟨h5, _, h7⟩
            refine ⟨fun d hd => h5 d (List.mem_cons_of_mem _ hd), h4, ?_⟩
            split at h7
            · rename_i h8
              exact beq_iff_eq.mp h8
            · omega
end Go.Proofs.YtifchfecfkdjlaaGreatDoor

namespace Go.Proofs.YtifchfecfkdjlaaGreatDoor
open Go.ChangeShapes Go.WideShapes Go.ChangeAt Go.RowKit

theorem index_at (s : ByteArray) (j : Nat) (h : j < s.size) : ∀ W, (Instr.index 9 (.string s) (.int .i64 (j : Int))).run Tryz.prog W = .ok (.int .u8 ((s[j]'h).toNat : Int)) W := by
  intro W
  rw [run_index_string W _ _ _ _ Tryz.underlying9, dif_pos ⟨by omega, by omega⟩]
  rfl
theorem index_back (s : ByteArray) (j : Nat) (h : j < s.size) (i : Int) (hi : i = (j : Int)) : ∀ W, (Instr.index 9 (.string s) (.int .i64 i)).run Tryz.prog W = .ok (.int .u8 ((s[j]'h).toNat : Int)) W := by
  subst hi
  exact index_at s j h

/-- The byte ahead of a place. -/
def prevB (s : ByteArray) (i : Nat) : UInt8 := if i = 0 then 0 else s.data.toList.getD (i - 1) 0
theorem prevB_succ (s : ByteArray) (i : Nat) (h : i < s.size) : prevB s (i + 1) = s[i]'h := by
  have hl : i < s.data.toList.length := by simpa using h
  unfold prevB
  rw [if_neg (by omega), Nat.add_sub_cancel, List.getD_eq_getElem?_getD, List.getElem?_eq_getElem hl]
  rfl
theorem prevB_at (s : ByteArray) (i : Nat) (h0 : i ≠ 0) (h : i - 1 < s.size) : prevB s i = s[i - 1]'h := by
  obtain ⟨k, rfl⟩ : ∃ k, i = k + 1 := ⟨i - 1, by omega⟩
  exact prevB_succ s k h
theorem nmL_at (s : ByteArray) (i : Nat) (h : i < s.size) (p : UInt8) :
    nmL (s.data.toList.drop i) p = if okb (s[i]'h) = false then false else if (s[i]'h) = 45 ∧ p = 45 then false else nmL (s.data.toList.drop (i + 1)) (s[i]'h) := by
  have hl : i < s.data.toList.length := by simpa using h
  rw [List.drop_eq_getElem_cons hl]
  rfl

theorem head_of (s : ByteArray) (h : 0 < s.size) : s.data.toList.headD 0 = s[0]'h := by
  have hl : 0 < s.data.toList.length := by simpa using h
  match hs : s.data.toList, hl with
  | c :: t, _ =>
    have h1 : s.data.toList[0]'(by rw [hs]; simp) = c := by simp [hs]
    rw [List.headD_cons, ← h1]
    rfl
theorem last_of (s : ByteArray) (h : s.size - 1 < s.size) : s.data.toList.getLastD 0 = s[s.size - 1]'h := by
  have hl : s.size - 1 < s.data.toList.length := by simpa using h
  have hz : s.data.toList.length = s.size := rfl
  rw [List.getLastD_eq_getLast?, List.getLast?_eq_getElem?, hz, List.getElem?_eq_getElem hl]
  rfl
theorem u8_eq_iff (c : UInt8) (k : Nat) (hk : k < 256) : c = UInt8.ofNat k ↔ (c.toNat : Int) = k := by
  constructor
  · rintro rfl
    simp
    omega
  · intro h
    have h2 : c.toNat = k := by omega
    rw [← h2]
    simp

theorem specName_short (s : ByteArray) (h : s.size = 0) (w : World) :
    Calls Tryz.prog 79 #[.string s] w fun e w' => e = .returned (.bool false) ∧ w = w' := by
  go_enter Tryz.func79, Tryz.ntmps79
  go_wp2
  go_ret
  exact ⟨rfl, rfl⟩
theorem specName_long (s : ByteArray) (h : 12 < s.size) (hs : s.size ≤ 1048576) (w : World) :
    Calls Tryz.prog 79 #[.string s] w fun e w' => e = .returned (.bool false) ∧ w = w' := by
  have h1 : ¬ s.size < 1 := by omega
  go_enter Tryz.func79, Tryz.ntmps79
  go_wp2
  go_ret
  exact ⟨rfl, rfl⟩
theorem specName_first (s : ByteArray) (h : 1 ≤ s.size) (h12 : s.size ≤ 12) (ha : ((s[0]'(by omega)).toNat : Int) < 97 ∨ 122 < ((s[0]'(by omega)).toNat : Int)) (w : World) :
    Calls Tryz.prog 79 #[.string s] w fun e w' => e = .returned (.bool false) ∧ w = w' := by
  have h1 : ¬ s.size < 1 := by omega
  have h2 : ¬ 12 < s.size := by omega
  have hI : ∀ W, (Instr.index 9 (.string s) (.int .i64 0)).run Tryz.prog W = _ := index_at s 0 (by omega)
  generalize ((s[0]'(by omega)).toNat : Int) = a at *
  rcases ha with ha | ha
  · go_enter Tryz.func79, Tryz.ntmps79
    go_wp2
    go_ret
    exact ⟨rfl, rfl⟩
  · have h3 : ¬ a < 97 := by omega
    go_enter Tryz.func79, Tryz.ntmps79
    go_wp2
    go_ret
    exact ⟨rfl, rfl⟩
theorem specName_last (s : ByteArray) (h : 1 ≤ s.size) (h12 : s.size ≤ 12) (ha0 : 97 ≤ ((s[0]'(by omega)).toNat : Int)) (ha1 : ((s[0]'(by omega)).toNat : Int) ≤ 122) (hz : ((s[s.size - 1]'(by omega)).toNat : Int) = 45) (w : World) :
    Calls Tryz.prog 79 #[.string s] w fun e w' => e = .returned (.bool false) ∧ w = w' := by
  have h1 : ¬ s.size < 1 := by omega
  have h2 : ¬ 12 < s.size := by omega
  have hI : ∀ W, (Instr.index 9 (.string s) (.int .i64 0)).run Tryz.prog W = _ := index_at s 0 (by omega)
  have hL := index_back s (s.size - 1) (by omega) ((s.size : Int) - 1) (by omega)
  rw [hz] at hL
  generalize ((s[0]'(by omega)).toNat : Int) = a at *
  have h3 : ¬ a < 97 := by omega
  have h4 : ¬ 122 < a := by omega
  clear hz
  go_enter Tryz.func79, Tryz.ntmps79
  go_wp2
  go_ret
  exact ⟨rfl, rfl⟩

theorem specName_loop (s : ByteArray) (h : 1 ≤ s.size) (h12 : s.size ≤ 12) (ha0 : 97 ≤ ((s[0]'(by omega)).toNat : Int)) (ha1 : ((s[0]'(by omega)).toNat : Int) ≤ 122) (hz : ((s[s.size - 1]'(by omega)).toNat : Int) ≠ 45) (w : World) :
    Calls Tryz.prog 79 #[.string s] w fun e w' => e = .returned (.bool (nmL s.data.toList 0)) ∧ w = w' := by
  have h1 : ¬ s.size < 1 := by omega
  have h2 : ¬ 12 < s.size := by omega
  have hI : ∀ W, (Instr.index 9 (.string s) (.int .i64 0)).run Tryz.prog W = _ := index_at s 0 (by omega)
  have hL := index_back s (s.size - 1) (by omega) ((s.size : Int) - 1) (by omega)
  have HA := Lib.hid (And.intro ha0 ha1)
  obtain ⟨R, hR⟩ : ∃ R, nmL s.data.toList 0 = R := ⟨_, rfl⟩
  rw [hR]
  have HR0 : Hid (nmL (s.data.toList.drop 0) (prevB s 0) = R) := Lib.hid (by rw [List.drop_zero]; exact hR)
  clear hR
  obtain ⟨a, hae⟩ : ∃ a : Int, ((s[0]'(by omega)).toNat : Int) = a := ⟨_, rfl⟩
  obtain ⟨z, hze⟩ : ∃ z : Int, ((s[s.size - 1]'(by omega)).toNat : Int) = z := ⟨_, rfl⟩
  rw [hae] at hI ha0 ha1
  rw [hze] at hL hz
  have h3 : ¬ a < 97 := by omega
  have h4 : ¬ 122 < a := by omega
  have h5 : (z == 45) = false := beq_eq_false_iff_ne.mpr hz
  clear hae hze hz ha0 ha1
  go_enter Tryz.func79, Tryz.ntmps79
  go_wp2_with fail
  go_loopg [3] 12 (fun gf s3 wz => ∃ i : Nat, s3 = .int .i64 i ∧ wz = w ∧ i ≤ s.size ∧ s.size ≤ i + gf ∧ Hid (nmL (s.data.toList.drop i) (prevB s i) = R))
  case atStart => exact ⟨0, rfl, rfl, by omega, by omega, HR0⟩
  case round =>
    obtain ⟨i, rfl, rfl, his, hfu, hRi⟩ := hrel
    clear hI hL h3 h4 h5 HR0
    by_cases hlt : i < s.size
    · obtain ⟨g', rfl⟩ : ∃ g', gk = g' + 1 := ⟨gk - 1, by omega⟩
      have hst := (nmL_at s i hlt (prevB s i)).symm.trans hRi.out
      have hps := prevB_succ s i hlt
      have hIi := index_at s i hlt
      have hc0 := (s[i]'hlt).toNat_lt
      have hok := okb_iff (s[i]'hlt)
      have h45 := u8_eq_iff (s[i]'hlt) 45 (by omega)
      have hfirst : i = 0 → 97 ≤ ((s[i]'hlt).toNat : Int) ∧ ((s[i]'hlt).toNat : Int) ≤ 122 := by
        rintro rfl
        exact HA.out
      clear hRi
      generalize s[i]'hlt = cB at *
      obtain ⟨c, hce⟩ : ∃ c : Int, (cB.toNat : Int) = c := ⟨_, rfl⟩
      rw [hce] at hIi h45 hfirst
      by_cases hletter : 97 ≤ c ∧ c ≤ 122
      · obtain ⟨k0, k1⟩ := hletter
        have hokt : okb cB = true := hok.mpr (by omega)
        rw [if_neg (by rw [hokt]; decide), if_neg (by rintro ⟨e, _⟩; have := h45.mp e; omega)] at hst
        rw [← hps] at hst
        have HS := Lib.hid hst
        have m1 : ¬ c < 97 := by omega
        have m2 : ¬ 122 < c := by omega
        have m3 : (c == 45) = false := beq_eq_false_iff_ne.mpr (by omega)
        clear hps hst hok h45 hfirst hce hokt
        go_wp2_with fail
        go_roundg g'
        case measure => omega
        case rel => exact ⟨i + 1, by go_num, rfl, by omega, by omega, HS⟩
      · by_cases hdigit : 48 ≤ c ∧ c ≤ 57
        · obtain ⟨k0, k1⟩ := hdigit
          have hokt : okb cB = true := hok.mpr (by omega)
          rw [if_neg (by rw [hokt]; decide), if_neg (by rintro ⟨e, _⟩; have := h45.mp e; omega)] at hst
          rw [← hps] at hst
          have HS := Lib.hid hst
          have m1 : c < 97 := by omega
          have m2 : ¬ c < 48 := by omega
          have m4 : ¬ 57 < c := by omega
          have m3 : (c == 45) = false := beq_eq_false_iff_ne.mpr (by omega)
          clear hps hst hok h45 hfirst hce hokt hletter
          go_wp2_with fail
          go_roundg g'
          case measure => omega
          case rel => exact ⟨i + 1, by go_num, rfl, by omega, by omega, HS⟩
        · by_cases hdash : c = 45
          · have hokt : okb cB = true := hok.mpr (by omega)
            have hi0 : i ≠ 0 := fun e => hletter (hfirst e)
            have hpv := prevB_at s i hi0 (by omega)
            have hIp := index_back s (i - 1) (by omega) ((i : Int) - 1) (by omega)
            have hp45 := u8_eq_iff (s[i - 1]'(by omega)) 45 (by omega)
            rw [← hpv] at hIp hp45
            obtain ⟨q, hqe⟩ : ∃ q : Int, ((prevB s i).toNat : Int) = q := ⟨_, rfl⟩
            rw [hqe] at hIp hp45
            rw [if_neg (by rw [hokt]; decide)] at hst
            have hc45 : cB = 45 := h45.mpr hdash
            by_cases hq : q = 45
            · rw [if_pos ⟨hc45, hp45.mpr hq⟩] at hst
              subst hst
              subst hq
              subst hdash
              clear hps hok h45 hfirst hce hokt hletter hdigit hp45 hqe hpv hc45
              go_wp2_with fail
              go_ret
              exact ⟨rfl, rfl⟩
            · rw [if_neg (by rintro ⟨_, e⟩; exact hq (hp45.mp e))] at hst
              rw [← hps] at hst
              have HS := Lib.hid hst
              have mq : (q == 45) = false := beq_eq_false_iff_ne.mpr hq
              subst hdash
              clear hps hst hok h45 hfirst hce hokt hletter hdigit hp45 hqe hpv hc45 hq
              go_wp2_with fail
              go_roundg g'
              case measure => omega
              case rel => exact ⟨i + 1, by go_num, rfl, by omega, by omega, HS⟩
          · have hokf : okb cB = false := by
              rw [Bool.eq_false_iff]
              intro e
              have := hok.mp e
              omega
            rw [if_pos hokf] at hst
            subst hst
            have m3 : (c != 45) = true := by rw [bne_iff_ne]; exact hdash
            by_cases n1 : c < 48
            · have n2 : c < 97 := by omega
              clear hps hok h45 hfirst hce hokf hletter hdigit hdash
              go_wp2_with fail
              go_ret
              exact ⟨rfl, rfl⟩
            · have n3 : 57 < c := by omega
              by_cases n2 : c < 97
              · clear hps hok h45 hfirst hce hokf hletter hdigit hdash
                go_wp2_with fail
                go_ret
                exact ⟨rfl, rfl⟩
              · have n4 : 122 < c := by omega
                clear hps hok h45 hfirst hce hokf hletter hdigit hdash
                go_wp2_with fail
                go_ret
                exact ⟨rfl, rfl⟩
    · have hRt : R = true := by
        have := hRi.out
        rw [List.drop_eq_nil_of_le (by simp; omega)] at this
        exact this.symm
      clear hRi
      go_wp2_with fail
      go_ret
      exact ⟨by rw [hRt]; rfl, rfl⟩
end Go.Proofs.YtifchfecfkdjlaaGreatDoor

namespace Go.Proofs
open Go.Shelf
def Tryz.laysTR_ren : Go.Shelf.Ren := ⟨fun | 160 => 97 | 232 => 102 | 231 => 101 | 227 => 103 | 234 => 105 | 233 => 104 | 236 => 107 | 235 => 106 | 228 => 113 | 271 => 116 | 151 => 115 | 197 => 114 | 120 => 125 | 152 => 124 | 260 => 123 | 137 => 132 | 119 => 133 | 224 => 128 | 225 => 127 | 217 => 126 | 266 => 134 | n => n, fun | 9 => 9 | 4 => 4 | 3 => 3 | 5 => 5 | 117 => 127 | 116 => 126 | 0 => 0 | 124 => 130 | 21 => 21 | 105 => 139 | 46 => 148 | 119 => 153 | 139 => 156 | 138 => 155 | n => n, fun | 3 => 3 | 4 => 4 | n => n⟩
theorem Tryz.laysTR : Go.Proofs.LaysM.n160 Tryz.prog Tryz.laysTR_ren := {
  mixed := by kernel_rfl
  f119 := Tryz.func133.trans (congrArg some (by kernel_rfl))
  f120 := Tryz.func125.trans (congrArg some (by kernel_rfl))
  f137 := Tryz.func132.trans (congrArg some (by kernel_rfl))
  f151 := Tryz.func115.trans (congrArg some (by kernel_rfl))
  f152 := Tryz.func124.trans (congrArg some (by kernel_rfl))
  f160 := Tryz.func97.trans (congrArg some (by kernel_rfl))
  f197 := Tryz.func114.trans (congrArg some (by kernel_rfl))
  f217 := Tryz.func126.trans (congrArg some (by kernel_rfl))
  f224 := Tryz.func128.trans (congrArg some (by kernel_rfl))
  f225 := Tryz.func127.trans (congrArg some (by kernel_rfl))
  f227 := Tryz.func103.trans (congrArg some (by kernel_rfl))
  f228 := Tryz.func113.trans (congrArg some (by kernel_rfl))
  f231 := Tryz.func101.trans (congrArg some (by kernel_rfl))
  f232 := Tryz.func102.trans (congrArg some (by kernel_rfl))
  f233 := Tryz.func104.trans (congrArg some (by kernel_rfl))
  f234 := Tryz.func105.trans (congrArg some (by kernel_rfl))
  f235 := Tryz.func106.trans (congrArg some (by kernel_rfl))
  f236 := Tryz.func107.trans (congrArg some (by kernel_rfl))
  f260 := Tryz.func123.trans (congrArg some (by kernel_rfl))
  f266 := Tryz.func134.trans (congrArg some (by kernel_rfl))
  f271 := Tryz.func116.trans (congrArg some (by kernel_rfl))
  t0 := Tryz.underlying0
  a0 := Tryz.isAgg0
  z0 := Tryz.sizeOf0
  v0 := Tryz.zeroValue0
  t3 := Tryz.underlying3
  a3 := Tryz.isAgg3
  z3 := Tryz.sizeOf3
  v3 := Tryz.zeroValue3
  t4 := Tryz.underlying4
  a4 := Tryz.isAgg4
  z4 := Tryz.sizeOf4
  v4 := Tryz.zeroValue4
  t5 := Tryz.underlying5
  a5 := Tryz.isAgg5
  z5 := Tryz.sizeOf5
  v5 := Tryz.zeroValue5
  t9 := Tryz.underlying9
  a9 := Tryz.isAgg9
  z9 := Tryz.sizeOf9
  v9 := Tryz.zeroValue9
  t21 := Tryz.underlying21
  a21 := Tryz.isAgg21
  z21 := Tryz.sizeOf21
  v21 := Tryz.zeroValue21
  t46 := Tryz.underlying148
  a46 := Tryz.isAgg148
  z46 := Tryz.sizeOf148
  v46 := Tryz.zeroValue148
  t105 := Tryz.underlying139
  a105 := Tryz.isAgg139
  z105 := Tryz.sizeOf139
  v105 := Tryz.zeroValue139
  t116 := Tryz.underlying126
  a116 := Tryz.isAgg126
  z116 := Tryz.sizeOf126
  t117 := Tryz.underlying127
  a117 := Tryz.isAgg127
  z117 := Tryz.sizeOf127
  v117 := Tryz.zeroValue127
  t119 := Tryz.underlying153
  a119 := Tryz.isAgg153
  z119 := Tryz.sizeOf153
  t124 := Tryz.underlying130
  a124 := Tryz.isAgg130
  z124 := Tryz.sizeOf130
  v124 := Tryz.zeroValue130
  t138 := Tryz.underlying155
  a138 := Tryz.isAgg155
  z138 := Tryz.sizeOf155
  v138 := Tryz.zeroValue155
  t139 := Tryz.underlying156
  a139 := Tryz.isAgg156
  z139 := Tryz.sizeOf156
  v139 := Tryz.zeroValue156
  g3 := by kernel_rfl
  g4 := by kernel_rfl
  i0 := by kernel_rfl
  i3 := by kernel_rfl
  i4 := by kernel_rfl
  i5 := by kernel_rfl
  i9 := by kernel_rfl
  i21 := by kernel_rfl
  i46 := by kernel_rfl
  i105 := by kernel_rfl
  i117 := by kernel_rfl
  i124 := by kernel_rfl
  i138 := by kernel_rfl
  i139 := by kernel_rfl
  m3 := by kernel_rfl
  m4 := by kernel_rfl }
def Tryz.laysCT_ren : Go.Shelf.Ren := ⟨fun | 144 => 98 | 143 => 108 | 219 => 117 | 217 => 126 | 225 => 127 | 224 => 128 | 267 => 129 | 266 => 134 | 314 => 135 | n => n, fun | 9 => 9 | 4 => 4 | 3 => 3 | 5 => 5 | 46 => 148 | 146 => 158 | 51 => 145 | n => n, fun | 1 => 2 | n => n⟩
theorem Tryz.laysCT : Go.Proofs.LaysM.n144 Tryz.prog Tryz.laysCT_ren := {
  mixed := by kernel_rfl
  f143 := Tryz.func108.trans (congrArg some (by kernel_rfl))
  f144 := Tryz.func98.trans (congrArg some (by kernel_rfl))
  f217 := Tryz.func126.trans (congrArg some (by kernel_rfl))
  f219 := Tryz.func117.trans (congrArg some (by kernel_rfl))
  f224 := Tryz.func128.trans (congrArg some (by kernel_rfl))
  f225 := Tryz.func127.trans (congrArg some (by kernel_rfl))
  f266 := Tryz.func134.trans (congrArg some (by kernel_rfl))
  f267 := Tryz.func129.trans (congrArg some (by kernel_rfl))
  f314 := Tryz.func135.trans (congrArg some (by kernel_rfl))
  t3 := Tryz.underlying3
  a3 := Tryz.isAgg3
  z3 := Tryz.sizeOf3
  v3 := Tryz.zeroValue3
  t4 := Tryz.underlying4
  a4 := Tryz.isAgg4
  z4 := Tryz.sizeOf4
  v4 := Tryz.zeroValue4
  t5 := Tryz.underlying5
  a5 := Tryz.isAgg5
  z5 := Tryz.sizeOf5
  v5 := Tryz.zeroValue5
  t9 := Tryz.underlying9
  a9 := Tryz.isAgg9
  z9 := Tryz.sizeOf9
  v9 := Tryz.zeroValue9
  t46 := Tryz.underlying148
  a46 := Tryz.isAgg148
  z46 := Tryz.sizeOf148
  v46 := Tryz.zeroValue148
  t51 := Tryz.underlying145
  a51 := Tryz.isAgg145
  z51 := Tryz.sizeOf145
  v51 := Tryz.zeroValue145
  t146 := Tryz.underlying158
  a146 := Tryz.isAgg158
  z146 := Tryz.sizeOf158
  v146 := Tryz.zeroValue158
  g1 := by kernel_rfl
  i3 := by kernel_rfl
  i4 := by kernel_rfl
  i5 := by kernel_rfl
  i9 := by kernel_rfl
  i46 := by kernel_rfl
  i51 := by kernel_rfl
  i146 := by kernel_rfl
  m1 := by kernel_rfl
  s1_3 := fun w h => Go.Proofs.cell_of_shapedOpen_int (zero := #[.int .i64 0]) (t := 3) h (of_decide_eq_true (by kernel_rfl)) (by kernel_rfl) rfl (by kernel_rfl) (by kernel_rfl) Tryz.underlying3 }
end Go.Proofs
namespace Go.Proofs.YtifchfecfkdjlaaGreatDoor
open Go.ChangeShapes Go.WideShapes Go.ChangeAt Go.RowKit

/-- The cell of internal/bytealg.MaxLen holds some integer. -/
def MaxC (w : World) : Prop := ∃ m : Int, w.cell? ⟨2, 0, none⟩ = some (.int .i64 m)
theorem MaxC.keep {w w' : World} (h : MaxC w) (hb : Below w.heap.size w w') : MaxC w' := by
  obtain ⟨m, hm⟩ := h
  exact ⟨m, keepCell hb hm⟩
theorem maxC {W : World} (h : W.ShapedOpen Tryz.prog) : MaxC W := Tryz.laysCT.s1_3 W h

/-- The bytes of names, as Go's string. -/
def nsetB : ByteArray := ⟨#[97, 98, 99, 100, 101, 102, 103, 104, 105, 106, 107, 108, 109, 110, 111, 112, 113, 114, 115, 116, 117, 118, 119, 120, 121, 122, 48, 49, 50, 51, 52, 53, 54, 55, 56, 57, 45]⟩

theorem trim_any (s : ByteArray) (hs : s.size ≤ 1048576) (w : World) :
    Calls Tryz.prog 97 #[.string s, .string nsetB] w fun e w' => e = .returned (.string ⟨(Lib.trimS s.data.toList nset).toArray⟩) ∧ Below w.heap.size w w' :=
  Any.strings_Trim_laid { Tryz.laysTR with } (by kernel_rfl) s nsetB w (by omega) (by decide) (ascii_of_all (by decide))
theorem cont_any (s : ByteArray) (hs : s.size ≤ 1048576) (w : World) (hm : MaxC w) :
    Calls Tryz.prog 98 #[.string s, .string ⟨#[45, 45]⟩] w fun e w' => e = .returned (.bool (Lib.contains s.data.toList [45, 45])) ∧ w = w' := by
  obtain ⟨m, hm⟩ := hm
  refine (Any.strings_Contains { Tryz.laysCT with } s ⟨#[45, 45]⟩ m w (by omega) hm).mono ?_
  rintro e w' ⟨rfl, rfl⟩
  exact ⟨rfl, rfl⟩

theorem not_empty (s : ByteArray) (h : 0 < s.size) : s.toList.isEmpty = false := by
  cases h2 : s.toList with
  | nil =>
    have h3 : s.data.toList = [] := by rw [← ByteArray.toList_eq]; exact h2
    have h4 : s.size = 0 := by
      show s.data.toList.length = 0
      rw [h3]
      rfl
    omega
  | cons c cs => rfl

/-- Trimmed away whole. -/
theorem trim_yes (s : ByteArray) (hs : s.size ≤ 1048576) (h : ∀ c ∈ s.data.toList, okb c = true) : Hid (∀ w : World, Calls Tryz.prog 97 #[.string s, .string nsetB] w fun e w' => e = .returned (.string ⟨#[]⟩) ∧ Below w.heap.size w w') := by
  refine Lib.hid (fun w => ?_)
  have := trim_any s hs w
  rw [(trim_nil s.data.toList nset).mpr h] at this
  exact this
theorem trim_no (s : ByteArray) (hs : s.size ≤ 1048576) (h : ¬ ∀ c ∈ s.data.toList, okb c = true) : ∃ T : ByteArray, T.toList.isEmpty = false ∧ Hid (∀ w : World, Calls Tryz.prog 97 #[.string s, .string nsetB] w fun e w' => e = .returned (.string T) ∧ Below w.heap.size w w') := by
  refine ⟨⟨(Lib.trimS s.data.toList nset).toArray⟩, ?_, Lib.hid (fun w => trim_any s hs w)⟩
  have hne : Lib.trimS s.data.toList nset ≠ [] := fun e => h ((trim_nil s.data.toList nset).mp e)
  rw [ByteArray.toList_eq]
  match hL : Lib.trimS s.data.toList nset, hne with
  | c :: t, _ => rfl

theorem implName_empty (w : World) :
    Calls Tryz.prog 92 #[.string ⟨#[]⟩] w fun e w' => e = .returned (.bool false) ∧ Below w.heap.size w w' := by
  go_enter Tryz.func92, Tryz.ntmps92
  go_wp2
  go_ret
  exact ⟨rfl, Below.refl _ _⟩
theorem implName_long (s : ByteArray) (h : 12 < s.size) (hs : s.size ≤ 1048576) (w : World) :
    Calls Tryz.prog 92 #[.string s] w fun e w' => e = .returned (.bool false) ∧ Below w.heap.size w w' := by
  have he := not_empty s (by omega)
  go_enter Tryz.func92, Tryz.ntmps92
  go_wp2
  go_ret
  exact ⟨rfl, Below.refl _ _⟩
theorem implName_byte (s : ByteArray) (h : 1 ≤ s.size) (h12 : s.size ≤ 12) (hb : ¬ ∀ c ∈ s.data.toList, okb c = true) (w : World) :
    Calls Tryz.prog 92 #[.string s] w fun e w' => e = .returned (.bool false) ∧ Below w.heap.size w w' := by
  have he := not_empty s (by omega)
  obtain ⟨T, hT, C⟩ := trim_no s (by omega) hb
  unfold nsetB at C
  have h2 : ¬ 12 < s.size := by omega
  clear hb
  go_enter Tryz.func92, Tryz.ntmps92
  go_wp2_with (go_at_call 97; (with_reducible refine (C.out _).mono ?_); rintro e wx ⟨rfl, hbx⟩)
  go_ret
  exact ⟨rfl, hbx⟩
theorem implName_first (s : ByteArray) (h : 1 ≤ s.size) (h12 : s.size ≤ 12) (hb : ∀ c ∈ s.data.toList, okb c = true) (ha : ((s[0]'(by omega)).toNat : Int) < 97 ∨ 122 < ((s[0]'(by omega)).toNat : Int)) (w : World) :
    Calls Tryz.prog 92 #[.string s] w fun e w' => e = .returned (.bool false) ∧ Below w.heap.size w w' := by
  have he := not_empty s (by omega)
  have C := trim_yes s (by omega) hb
  unfold nsetB at C
  have h2 : ¬ 12 < s.size := by omega
  have hI : ∀ W, (Instr.index 9 (.string s) (.int .i64 0)).run Tryz.prog W = _ := index_at s 0 (by omega)
  generalize ((s[0]'(by omega)).toNat : Int) = a at *
  clear hb
  rcases ha with ha | ha
  · have h3 : decide (97 ≤ a) = false := decide_eq_false (by omega)
    go_enter Tryz.func92, Tryz.ntmps92
    go_wp2_with (go_at_call 97; (with_reducible refine (C.out _).mono ?_); rintro e wx ⟨rfl, hbx⟩)
    go_ret
    exact ⟨rfl, hbx⟩
  · have h3 : decide (97 ≤ a) = true := decide_eq_true (by omega)
    have h4 : decide (a ≤ 122) = false := decide_eq_false (by omega)
    go_enter Tryz.func92, Tryz.ntmps92
    go_wp2_with (go_at_call 97; (with_reducible refine (C.out _).mono ?_); rintro e wx ⟨rfl, hbx⟩)
    go_ret
    exact ⟨rfl, hbx⟩
theorem implName_last (s : ByteArray) (h : 1 ≤ s.size) (h12 : s.size ≤ 12) (hb : ∀ c ∈ s.data.toList, okb c = true) (ha0 : 97 ≤ ((s[0]'(by omega)).toNat : Int)) (ha1 : ((s[0]'(by omega)).toNat : Int) ≤ 122) (hz : ((s[s.size - 1]'(by omega)).toNat : Int) = 45) (w : World) :
    Calls Tryz.prog 92 #[.string s] w fun e w' => e = .returned (.bool false) ∧ Below w.heap.size w w' := by
  have he := not_empty s (by omega)
  have C := trim_yes s (by omega) hb
  unfold nsetB at C
  have h2 : ¬ 12 < s.size := by omega
  have hI : ∀ W, (Instr.index 9 (.string s) (.int .i64 0)).run Tryz.prog W = _ := index_at s 0 (by omega)
  have hL := index_back s (s.size - 1) (by omega) ((s.size : Int) - 1) (by omega)
  rw [hz] at hL
  generalize ((s[0]'(by omega)).toNat : Int) = a at *
  have h3 : decide (97 ≤ a) = true := decide_eq_true (by omega)
  have h4 : decide (a ≤ 122) = true := decide_eq_true (by omega)
  clear hb hz
  go_enter Tryz.func92, Tryz.ntmps92
  go_wp2_with (go_at_call 97; (with_reducible refine (C.out _).mono ?_); rintro e wx ⟨rfl, hbx⟩)
  go_ret
  exact ⟨rfl, hbx⟩
theorem implName_rest (s : ByteArray) (h : 1 ≤ s.size) (h12 : s.size ≤ 12) (hb : ∀ c ∈ s.data.toList, okb c = true) (ha0 : 97 ≤ ((s[0]'(by omega)).toNat : Int)) (ha1 : ((s[0]'(by omega)).toNat : Int) ≤ 122) (hz : ((s[s.size - 1]'(by omega)).toNat : Int) ≠ 45) (w : World) (hm : MaxC w) :
    Calls Tryz.prog 92 #[.string s] w fun e w' => e = .returned (.bool (!Lib.contains s.data.toList [45, 45])) ∧ Below w.heap.size w w' := by
  have he := not_empty s (by omega)
  have C := trim_yes s (by omega) hb
  unfold nsetB at C
  have CC : Hid (∀ W : World, MaxC W → Calls Tryz.prog 98 #[.string s, .string ⟨#[45, 45]⟩] W fun e w' => e = .returned (.bool (Lib.contains s.data.toList [45, 45])) ∧ W = w') := Lib.hid (fun W hW => cont_any s (by omega) W hW)
  generalize Lib.contains s.data.toList [45, 45] = K at *
  have h2 : ¬ 12 < s.size := by omega
  have hI : ∀ W, (Instr.index 9 (.string s) (.int .i64 0)).run Tryz.prog W = _ := index_at s 0 (by omega)
  have hL := index_back s (s.size - 1) (by omega) ((s.size : Int) - 1) (by omega)
  generalize ((s[0]'(by omega)).toNat : Int) = a at *
  generalize ((s[s.size - 1]'(by omega)).toNat : Int) = z at *
  have h3 : decide (97 ≤ a) = true := decide_eq_true (by omega)
  have h4 : decide (a ≤ 122) = true := decide_eq_true (by omega)
  have h5 : (z != 45) = true := by rw [bne_iff_ne]; exact hz
  have HM := Lib.hid hm
  clear hb hz hm
  go_enter Tryz.func92, Tryz.ntmps92
  go_wp2_with (first
    | (go_at_call 97; (with_reducible refine (C.out _).mono ?_); rintro e wx ⟨rfl, hbx⟩)
    | (go_at_call 98; (with_reducible refine (CC.out _ (HM.out.keep hbx)).mono ?_); rintro e wy ⟨rfl, rfl⟩))
  go_ret
  exact ⟨rfl, hbx⟩

theorem contains_index (l sub : List UInt8) : Lib.contains l sub = decide (Lib.index l sub ≠ -1) := by
  have h := Lib.index_ge l sub
  unfold Lib.contains
  rw [decide_eq_decide]
  omega

theorem name_both (s : ByteArray) (hs : s.size ≤ 1048576) : ∃ v : Bool, (∀ w : World, Calls Tryz.prog 79 #[.string s] w fun e w' => e = .returned (.bool v) ∧ w = w') ∧
    (∀ w : World, MaxC w → Calls Tryz.prog 92 #[.string s] w fun e w' => e = .returned (.bool v) ∧ Below w.heap.size w w') := by
  by_cases h0 : s.size = 0
  · have he : s = ⟨#[]⟩ := by
      apply ByteArray.ext
      exact Array.eq_empty_of_size_eq_zero h0
    subst he
    exact ⟨false, fun w => specName_short _ rfl w, fun w _ => implName_empty w⟩
  · by_cases h12 : 12 < s.size
    · exact ⟨false, fun w => specName_long s h12 hs w, fun w _ => implName_long s h12 hs w⟩
    · have h1 : 1 ≤ s.size := by omega
      have h12' : s.size ≤ 12 := by omega
      by_cases ha : ((s[0]'(by omega)).toNat : Int) < 97 ∨ 122 < ((s[0]'(by omega)).toNat : Int)
      · refine ⟨false, fun w => specName_first s h1 h12' ha w, fun w _ => ?_⟩
        by_cases hb : ∀ c ∈ s.data.toList, okb c = true
        · exact implName_first s h1 h12' hb ha w
        · exact implName_byte s h1 h12' hb w
      · have ha0 : 97 ≤ ((s[0]'(by omega)).toNat : Int) := by omega
        have ha1 : ((s[0]'(by omega)).toNat : Int) ≤ 122 := by omega
        by_cases hz : ((s[s.size - 1]'(by omega)).toNat : Int) = 45
        · refine ⟨false, fun w => specName_last s h1 h12' ha0 ha1 hz w, fun w _ => ?_⟩
          by_cases hb : ∀ c ∈ s.data.toList, okb c = true
          · exact implName_last s h1 h12' hb ha0 ha1 hz w
          · exact implName_byte s h1 h12' hb w
        · refine ⟨nmL s.data.toList 0, fun w => specName_loop s h1 h12' ha0 ha1 hz w, fun w hm => ?_⟩
          have hiff := nmL_iff s.data.toList 0
          by_cases hb : ∀ c ∈ s.data.toList, okb c = true
          · have hv : nmL s.data.toList 0 = !Lib.contains s.data.toList [45, 45] := by
              rw [Bool.eq_iff_iff, hiff, contains_index]
              simp only [Bool.not_eq_true', decide_eq_false_iff_not, Decidable.not_not]
              constructor
              · rintro ⟨_, _, h⟩
                exact h
              · intro h
                exact ⟨hb, by rintro ⟨e, _⟩; exact absurd e (by decide), h⟩
            rw [hv]
            exact implName_rest s h1 h12' hb ha0 ha1 hz w hm
          · have hv : nmL s.data.toList 0 = false := by
              rw [Bool.eq_false_iff]
              intro h
              exact hb (hiff.mp h).1
            rw [hv]
            exact implName_byte s h1 h12' hb w

end Go.Proofs.YtifchfecfkdjlaaGreatDoor

namespace Go.Proofs.YtifchfecfkdjlaaGreatDoor
open Go.ChangeShapes Go.WideShapes Go.ChangeAt Go.RowKit Go.Deep

/-- Whether a string is a name, as both programs say. -/
noncomputable def nmB (s : ByteArray) : Bool := if h : s.size ≤ 1048576 then (if s.size = 0 then false else Classical.choose (name_both s h)) else false
theorem nmB_empty (s : ByteArray) (h : s.size = 0) : nmB s = false := by
  unfold nmB
  rw [dif_pos (by omega), if_pos h]
theorem nmB_spec (s : ByteArray) (h : s.size ≤ 1048576) (w : World) : Calls Tryz.prog 79 #[.string s] w fun e w' => e = .returned (.bool (nmB s)) ∧ w = w' := by
  by_cases h0 : s.size = 0
  · rw [nmB_empty s h0]
    exact specName_short s h0 w
  · unfold nmB
    rw [dif_pos h, if_neg h0]
    exact (Classical.choose_spec (name_both s h)).1 w
theorem name_nil {s : ByteArray} (h : s.size = 0) : s = ⟨#[]⟩ := ByteArray.ext (Array.eq_empty_of_size_eq_zero h)
theorem nmB_impl (s : ByteArray) (h : s.size ≤ 1048576) (w : World) (hm : MaxC w) : Calls Tryz.prog 92 #[.string s] w fun e w' => e = .returned (.bool (nmB s)) ∧ Below w.heap.size w w' := by
  by_cases h0 : s.size = 0
  · rw [nmB_empty s h0, name_nil h0]
    exact implName_empty w
  · unfold nmB
    rw [dif_pos h, if_neg h0]
    exact (Classical.choose_spec (name_both s h)).2 w hm

theorem iffF {p : Prop} (h : ¬ p) : (false = true ↔ p) := ⟨(fun e => by cases e), fun e => absurd e h⟩
theorem iffT {p : Prop} (h : p) : (true = true ↔ p) := ⟨fun _ => h, fun _ => rfl⟩
theorem text_ne {a b : ByteArray} (h : a ≠ b) : (a.toList == b.toList) = false := by
  rw [beq_eq_false_iff_ne]
  intro e
  apply h
  apply ByteArray.ext
  apply Array.toList_inj.mp
  rw [← ByteArray.toList_eq, ← ByteArray.toList_eq]
  exact e

/-- Names, no two equal. -/
def NamesTo (ls : List ByteArray) (n : Nat) : Prop := ∀ (i : Nat) (s : ByteArray), i < n → ls[i]? = some s → nmB s = true ∧ ∀ (j : Nat) (t : ByteArray), j < i → ls[j]? = some t → t ≠ s
def Names (ls : List ByteArray) : Prop := NamesTo ls ls.length
def LabelsOk (ls : List ByteArray) : Prop := 1 ≤ ls.length ∧ ls.length ≤ 16 ∧ Names ls
/-- None of the first so many is s. -/
def NotAmong (ls : List ByteArray) (n : Nat) (s : ByteArray) : Prop := ∀ (j : Nat) (t : ByteArray), j < n → ls[j]? = some t → t ≠ s
theorem NotAmong.step {ls : List ByteArray} {k : Nat} {s t : ByteArray} (h : NotAmong ls k s) (ht : ls[k]? = some t) (hne : t ≠ s) : NotAmong ls (k + 1) s := fun j u hj hu => by
  by_cases e : j = k
  · subst e
    rw [ht] at hu
    cases hu
    exact hne
  · exact h j u (by omega) hu
theorem NamesTo.step {ls : List ByteArray} {k : Nat} {s : ByteArray} (h : NamesTo ls k) (hs : ls[k]? = some s) (hn : nmB s = true) (ha : NotAmong ls k s) : NamesTo ls (k + 1) := fun i u hi hu => by
  by_cases e : i = k
  · subst e
    rw [hs] at hu
    cases hu
    exact ⟨hn, ha⟩
  · exact h i u (by omega) hu

/-- A bool that says whether something holds; the world drawn on. -/
def SaysN (p : Prop) (w : World) (e : Ending) (w' : World) : Prop := ∃ v : Bool, e = .returned (.bool v) ∧ (v = true ↔ p) ∧ ∃ n, w' = w.drewN n
/-- A bool that says whether something holds; new memory alone has turned. -/
def SaysB (p : Prop) (w : World) (e : Ending) (w' : World) : Prop := ∃ v : Bool, e = .returned (.bool v) ∧ (v = true ↔ p) ∧ Below w.heap.size w w'

theorem SaysN.yes {p : Prop} (h : p) {w : World} {e : Ending} {w' : World} (k : SaysN p w e w') : e = .returned (.bool true) ∧ ∃ n, w' = w.drewN n := by
  obtain ⟨v, rfl, hv, hn⟩ := k
  rw [hv.mpr h]
  exact ⟨rfl, hn⟩
theorem SaysN.no {p : Prop} (h : ¬ p) {w : World} {e : Ending} {w' : World} (k : SaysN p w e w') : e = .returned (.bool false) ∧ ∃ n, w' = w.drewN n := by
  obtain ⟨v, rfl, hv, hn⟩ := k
  cases v with
  | false => exact ⟨rfl, hn⟩
  | true => exact absurd (hv.mp rfl) h
theorem SaysB.yes {p : Prop} (h : p) {w : World} {e : Ending} {w' : World} (k : SaysB p w e w') : e = .returned (.bool true) ∧ Below w.heap.size w w' := by
  obtain ⟨v, rfl, hv, hn⟩ := k
  rw [hv.mpr h]
  exact ⟨rfl, hn⟩
theorem SaysB.no {p : Prop} (h : ¬ p) {w : World} {e : Ending} {w' : World} (k : SaysB p w e w') : e = .returned (.bool false) ∧ Below w.heap.size w w' := by
  obtain ⟨v, rfl, hv, hn⟩ := k
  cases v with
  | false => exact ⟨rfl, hn⟩
  | true => exact absurd (hv.mp rfl) h

theorem l03Labels_any (ls : List ByteArray) (hls : ∀ s ∈ ls, s.size ≤ 1048576) (hl : ls.length ≤ 1048576) (A : Option Addr) (ca lo : Nat) (w : World) (h : Strs w lo ls A) :
    Calls Tryz.prog 93 #[.slice A ls.length ca] w (SaysN (LabelsOk ls) w) := by
  by_cases h1 : ls.length < 1 ∨ 16 < ls.length
  · have H := Lib.hid h1
    clear h
    by_cases h2 : ls.length < 1
    · clear h1
      go_enter Tryz.func93, Tryz.ntmps93
      go_wp2
      go_ret
      exact ⟨false, rfl, iffF (fun hh => by have := hh.1; omega), 0, rfl⟩
    · have h3 : (16 : Int) < (ls.length : Int) := by omega
      have h4 : ¬ (ls.length : Int) < 1 := by omega
      clear h1 h2
      go_enter Tryz.func93, Tryz.ntmps93
      go_wp2
      go_ret
      exact ⟨false, rfl, iffF (fun hh => by have := hh.2.1; omega), 0, rfl⟩
  · have g1 : 1 ≤ ls.length := by omega
    have g2 : ls.length ≤ 16 := by omega
    have h3 : ¬ (16 : Int) < (ls.length : Int) := by omega
    have h4 : ¬ (ls.length : Int) < 1 := by omega
    have H := Lib.hid h
    have HL := Lib.hid hls
    clear h h1 hls
    go_enter Tryz.func93, Tryz.ntmps93
    go_wp2
    go_loopw [3] (fun i wr => ∃ k : Nat, k ≤ ls.length ∧ i = .int .i64 k ∧ Hid (NamesTo ls k) ∧ ∃ n, wr = w.drewN n) (fun i _ => ls.length - (intOf i).toNat)
    case atStart => exact ⟨0, Nat.zero_le _, rfl, fun i u hi => by omega, 0, rfl⟩
    case round =>
      obtain ⟨k, hk, rfl, hno, n, rfl⟩ := hrel
      by_cases hlt : k < ls.length
      · obtain ⟨b, o, s, rfl, _, hsk, hc⟩ := H.out.at_ hlt
        have hsz := HL.out s (List.mem_of_getElem? hsk)
        have C := Lib.hid (fun W => nmB_spec s hsz W)
        have HS := Lib.hid hsk
        have hli : (k : Int) < (ls.length : Int) := by omega
        clear hsk
        cases hv : nmB s with
        | false =>
          rw [hv] at C
          have HV := Lib.hid hv
          clear hv
          go_wp2_with (go_at_call 79; (with_reducible refine (C.out _).mono ?_); rintro e w2 ⟨rfl, rfl⟩)
          go_ret
          exact ⟨false, rfl, iffF (fun hh => by have h9 := (hh.2.2 k s hlt HS.out).1; rw [HV.out] at h9; cases h9), _, rfl⟩
        | true =>
          rw [hv] at C
          have HV := Lib.hid hv
          clear hv
          go_wp2_with (go_at_call 79; (with_reducible refine (C.out _).mono ?_); rintro e w2 ⟨rfl, rfl⟩)
          go_loopw [4] (fun j wx => ∃ m : Nat, m ≤ k ∧ j = .int .i64 m ∧ Hid (NotAmong ls m s) ∧ ∃ n, wx = w.drewN n) (fun j _ => k - (intOf j).toNat)
          case atStart => exact ⟨0, Nat.zero_le _, rfl, fun i u hi => by omega, n, rfl⟩
          case round =>
            obtain ⟨m, hm, rfl, hna, n2, rfl⟩ := hrel
            by_cases hlt2 : m < k
            · obtain ⟨b2, o2, t, eA, _, htk, hc2⟩ := H.out.at_ (k := m) (by omega)
              obtain ⟨rfl, rfl⟩ : b = b2 ∧ o = o2 := by
                injection eA with e1
                injection e1 with e2 e3
                exact ⟨e2, e3⟩
              have HT := Lib.hid htk
              have hli2 : (m : Int) < (ls.length : Int) := by omega
              clear htk eA
              by_cases heq : t = s
              · have HE := Lib.hid heq
                have e2 : (t.toList == s.toList) = true := by rw [heq, beq_iff_eq]
                clear heq
                go_wp2_with fail
                go_quiet (fail)
                go_wp2_with fail
                go_ret
                exact ⟨false, rfl, iffF (fun hh => (hh.2.2 k s hlt HS.out).2 m t hlt2 HT.out HE.out), _, World.drewN_drewN _ _ _⟩
              · have HE := Lib.hid heq
                have e2 := text_ne heq
                clear heq
                go_wp2_with fail
                go_quiet (fail)
                go_wp2_with fail
                go_roundw
                case rel => exact ⟨m + 1, by omega, by go_num, hna.out.step HT.out HE.out, _, rfl⟩
                case measure => simp [intOf]; omega
            · have hm' : m = k := by omega
              go_wp2
              go_roundw
              case rel => exact ⟨k + 1, by omega, by go_num, NamesTo.step hno.out HS.out HV.out (by rw [← hm']; exact hna.out), _, rfl⟩
              case measure => simp [intOf]; omega
      · have hk' : k = ls.length := by omega
        go_wp2
        go_ret
        exact ⟨true, rfl, iffT ⟨g1, g2, by unfold Names; rw [← hk']; exact hno.out⟩, _, rfl⟩

/-- A kid is the unit type. -/
def UnitIn (ks : List Ty) (n : Nat) : Prop := ∃ (i : Nat) (t : Ty), i < n ∧ ks[i]? = some t ∧ t.kind = 1
theorem UnitIn.no_step {ks : List Ty} {k : Nat} {t : Ty} (h : ¬ UnitIn ks k) (ht : ks[k]? = some t) (hn : t.kind ≠ 1) : ¬ UnitIn ks (k + 1) := fun ⟨i, u, hi, hu, h1⟩ => by
  by_cases e : i = k
  · subst e
    rw [ht] at hu
    cases hu
    exact hn h1
  · exact h ⟨i, u, by omega, hu, h1⟩

theorem l03Units_any (T : Ty) (hl : T.kids.length ≤ 1048576) (A B : Option Addr) (ca cb lo : Nat) (w : World) (h : Ty.RowAt w lo T.kids B) :
    Calls Tryz.prog 94 #[.agg #[.int .i64 T.kind, .string T.name, .slice A T.labels.length ca, .slice B T.kids.length cb]] w (SaysB (UnitIn T.kids T.kids.length) w) := by
  have HR := Lib.hid h
  clear h
  go_enter Tryz.func94, Tryz.ntmps94
  go_wp2
  go_loopw [3] (fun i wr => ∃ k : Nat, k ≤ T.kids.length ∧ i = .int .i64 k ∧ Hid (¬ UnitIn T.kids k) ∧ wr.cell? ⟨w.heap.size, 3, none⟩ = some (.slice B T.kids.length cb) ∧ Below w.heap.size w wr) (fun i _ => T.kids.length - (intOf i).toNat)
  case atStart => exact ⟨0, Nat.zero_le _, rfl, (fun ⟨i, u, hi, _⟩ => by omega), by go_simp, below1 _ _⟩
  case round =>
    obtain ⟨k, hk, rfl, hno, hbox, hbel⟩ := hrel
    by_cases hlt : k < T.kids.length
    · obtain ⟨b, o, t, A', B', ca', cb', rfl, _, htk, hc⟩ := (HR.out.below hbel).at_ hlt
      obtain ⟨c0, _, _, _, _⟩ := hc
      have HT := Lib.hid htk
      have HB := Lib.hid hbel
      clear htk hbel
      by_cases h1 : t.kind = 1
      · have e1 : (t.kind == 1) = true := by rw [beq_iff_eq]; exact h1
        have H1 := Lib.hid h1
        clear h1
        go_wp2
        go_ret
        exact ⟨true, rfl, iffT ⟨k, t, hlt, HT.out, H1.out⟩, HB.out⟩
      · have e1 : (t.kind == 1) = false := by rw [beq_eq_false_iff_ne]; exact h1
        have H1 := Lib.hid h1
        clear h1
        go_wp2
        go_roundw
        case rel => exact ⟨k + 1, by omega, by go_num, UnitIn.no_step hno.out HT.out H1.out, hbox, HB.out⟩
        case measure => simp [intOf]; omega
    · have hk' : k = T.kids.length := by omega
      have HB := Lib.hid hbel
      clear hbel
      go_wp2
      go_ret
      exact ⟨false, rfl, iffF (by rw [← hk']; exact hno.out), HB.out⟩
end Go.Proofs.YtifchfecfkdjlaaGreatDoor

