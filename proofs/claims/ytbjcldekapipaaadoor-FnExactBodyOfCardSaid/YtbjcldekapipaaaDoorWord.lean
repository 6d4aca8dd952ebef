/-
  The walks of both WordOk.
-/
import Derived.Test.YtbjcldekapipaaaDoorStrIx
import Derived.Ground.NamesProg
import Derived.Shelf.Lay
import Derived.Shelf.Strings.SlTrimAscii
import Derived.Shelf.Strings.Shaped
namespace Go.Proofs
open Go.Shelf
def Tryd.laysTW_ren : Go.Shelf.Ren := ⟨fun | 160 => 84 | 232 => 87 | 231 => 86 | 227 => 88 | 234 => 90 | 233 => 89 | 236 => 92 | 235 => 91 | 228 => 93 | 271 => 96 | 151 => 95 | 197 => 94 | 120 => 99 | 152 => 98 | 260 => 97 | 137 => 100 | 119 => 101 | 224 => 102 | 225 => 103 | 217 => 104 | 266 => 105 | n => n, fun | 9 => 9 | 4 => 4 | 3 => 3 | 5 => 5 | 117 => 114 | 116 => 113 | 0 => 0 | 124 => 117 | 21 => 21 | 105 => 119 | 46 => 81 | 119 => 123 | 139 => 126 | 138 => 125 | n => n, fun | 3 => 2 | 4 => 3 | n => n⟩
theorem Tryd.laysTW : Go.Proofs.LaysM.n160 Tryd.prog Tryd.laysTW_ren := {
  mixed := by kernel_rfl
  f119 := Tryd.func101.trans (congrArg some (by kernel_rfl))
  f120 := Tryd.func99.trans (congrArg some (by kernel_rfl))
  f137 := Tryd.func100.trans (congrArg some (by kernel_rfl))
  f151 := Tryd.func95.trans (congrArg some (by kernel_rfl))
  f152 := Tryd.func98.trans (congrArg some (by kernel_rfl))
  f160 := Tryd.func84.trans (congrArg some (by kernel_rfl))
  f197 := Tryd.func94.trans (congrArg some (by kernel_rfl))
  f217 := Tryd.func104.trans (congrArg some (by kernel_rfl))
  f224 := Tryd.func102.trans (congrArg some (by kernel_rfl))
  f225 := Tryd.func103.trans (congrArg some (by kernel_rfl))
  f227 := Tryd.func88.trans (congrArg some (by kernel_rfl))
  f228 := Tryd.func93.trans (congrArg some (by kernel_rfl))
  f231 := Tryd.func86.trans (congrArg some (by kernel_rfl))
  f232 := Tryd.func87.trans (congrArg some (by kernel_rfl))
  f233 := Tryd.func89.trans (congrArg some (by kernel_rfl))
  f234 := Tryd.func90.trans (congrArg some (by kernel_rfl))
  f235 := Tryd.func91.trans (congrArg some (by kernel_rfl))
  f236 := Tryd.func92.trans (congrArg some (by kernel_rfl))
  f260 := Tryd.func97.trans (congrArg some (by kernel_rfl))
  f266 := Tryd.func105.trans (congrArg some (by kernel_rfl))
  f271 := Tryd.func96.trans (congrArg some (by kernel_rfl))
  t0 := Tryd.underlying0
  a0 := Tryd.isAgg0
  z0 := Tryd.sizeOf0
  v0 := Tryd.zeroValue0
  t3 := Tryd.underlying3
  a3 := Tryd.isAgg3
  z3 := Tryd.sizeOf3
  v3 := Tryd.zeroValue3
  t4 := Tryd.underlying4
  a4 := Tryd.isAgg4
  z4 := Tryd.sizeOf4
  v4 := Tryd.zeroValue4
  t5 := Tryd.underlying5
  a5 := Tryd.isAgg5
  z5 := Tryd.sizeOf5
  v5 := Tryd.zeroValue5
  t9 := Tryd.underlying9
  a9 := Tryd.isAgg9
  z9 := Tryd.sizeOf9
  v9 := Tryd.zeroValue9
  t21 := Tryd.underlying21
  a21 := Tryd.isAgg21
  z21 := Tryd.sizeOf21
  v21 := Tryd.zeroValue21
  t46 := Tryd.underlying81
  a46 := Tryd.isAgg81
  z46 := Tryd.sizeOf81
  v46 := Tryd.zeroValue81
  t105 := Tryd.underlying119
  a105 := Tryd.isAgg119
  z105 := Tryd.sizeOf119
  v105 := Tryd.zeroValue119
  t116 := Tryd.underlying113
  a116 := Tryd.isAgg113
  z116 := Tryd.sizeOf113
  t117 := Tryd.underlying114
  a117 := Tryd.isAgg114
  z117 := Tryd.sizeOf114
  v117 := Tryd.zeroValue114
  t119 := Tryd.underlying123
  a119 := Tryd.isAgg123
  z119 := Tryd.sizeOf123
  t124 := Tryd.underlying117
  a124 := Tryd.isAgg117
  z124 := Tryd.sizeOf117
  v124 := Tryd.zeroValue117
  t138 := Tryd.underlying125
  a138 := Tryd.isAgg125
  z138 := Tryd.sizeOf125
  v138 := Tryd.zeroValue125
  t139 := Tryd.underlying126
  a139 := Tryd.isAgg126
  z139 := Tryd.sizeOf126
  v139 := Tryd.zeroValue126
  g3 := by kernel_rfl
  g4 := by kernel_rfl
  i0 := by kernel_rfl
  i3 := by kernel_rfl
  i4 := by kernel_rfl
  i5 := by kernel_rfl
  i9 := by kernel_rfl
  i21 := by kernel_rfl
  i46 := by kernel_rfl
  i105 := by kernel_rfl
  i117 := by kernel_rfl
  i124 := by kernel_rfl
  i138 := by kernel_rfl
  i139 := by kernel_rfl
  m3 := by kernel_rfl
  m4 := by kernel_rfl }
end Go.Proofs
namespace Go.Proofs.YtbjcldekapipaaaDoor
open Go.ChangeShapes Go.WideShapes Go.ChangeAt Go.RowKit

/-- The bytes of words. -/
def wset : List UInt8 := [97, 98, 99, 100, 101, 102, 103, 104, 105, 106, 107, 108, 109, 110, 111, 112, 113, 114, 115, 116, 117, 118, 119, 120, 121, 122, 48, 49, 50, 51, 52, 53, 54, 55, 56, 57, 45, 46, 47]
def wsetB : ByteArray := ⟨#[97, 98, 99, 100, 101, 102, 103, 104, 105, 106, 107, 108, 109, 110, 111, 112, 113, 114, 115, 116, 117, 118, 119, 120, 121, 122, 48, 49, 50, 51, 52, 53, 54, 55, 56, 57, 45, 46, 47]⟩
def okw (c : UInt8) : Bool := wset.contains c
set_option maxRecDepth 100000 in
theorem okw_all : ∀ n : Fin 256, wset.contains (UInt8.ofNat n.val) = decide ((97 ≤ n.val ∧ n.val ≤ 122) ∨ (48 ≤ n.val ∧ n.val ≤ 57) ∨ n.val = 45 ∨ n.val = 46 ∨ n.val = 47) := by decide
theorem okw_iff (c : UInt8) : okw c = true ↔ ((97 ≤ c.toNat ∧ c.toNat ≤ 122) ∨ (48 ≤ c.toNat ∧ c.toNat ≤ 57) ∨ c.toNat = 45 ∨ c.toNat = 46 ∨ c.toNat = 47) := by
  have h := okw_all ⟨c.toNat, c.toNat_lt⟩
  have hc : UInt8.ofNat c.toNat = c := by simp
  simp only [hc] at h
  unfold okw
  rw [h]
  simp
/-- Are the first so many bytes bytes of words? -/
def OkTo (s : ByteArray) (k : Nat) : Prop := ∀ j (h : j < s.size), j < k → okw (s[j]'h) = true
def wordT (s : ByteArray) : Bool := s.data.toList.all okw
/-- Is a text a word? -/
def wordV (s : ByteArray) : Bool := decide (1 ≤ s.size ∧ s.size ≤ 40) && wordT s
theorem wordT_iff (s : ByteArray) : wordT s = true ↔ OkTo s s.size := by
  unfold wordT OkTo
  rw [List.all_eq_true]
  constructor
  · intro h j hj _
    exact h _ (List.getElem_mem (l := s.data.toList) (n := j) (by simpa using hj))
  · intro h c hc
    obtain ⟨j, hj, rfl⟩ := List.getElem_of_mem hc
    exact h j (by simpa using hj) (by simpa using hj)
theorem OkTo.step {s : ByteArray} {k : Nat} (h : OkTo s k) (hk : k < s.size) (ho : okw (s[k]'hk) = true) : OkTo s (k + 1) := by
  intro j hj hjk
  by_cases e : j = k
  · subst e
    exact ho
  · exact h j hj (by omega)
theorem wordT_no {s : ByteArray} {k : Nat} (hk : k < s.size) (ho : ¬ okw (s[k]'hk) = true) : wordT s = false := by
  rw [Bool.eq_false_iff]
  intro h
  exact ho ((wordT_iff s).mp h k hk hk)
theorem wordV_no {s : ByteArray} (h : wordT s = false) : wordV s = false := by
  unfold wordV
  rw [h, Bool.and_false]

set_option maxHeartbeats 2000000 in
/-- The model's. -/
theorem l15Word_any (s : ByteArray) (hs : s.size ≤ 1048576) (w : World) :
    Calls Tryd.prog 73 #[.string s] w fun e w' => e = .returned (.bool (wordV s)) ∧ w = w' := by
  go_enter Tryd.func73, Tryd.ntmps73
  go_wp2
  go_loopw [3] (fun i wr => ∃ k : Nat, k ≤ s.size ∧ i = .int .i64 k ∧ wr = w ∧ Hid (OkTo s k)) (fun i _ => s.size - (intOf i).toNat)
  case atStart => exact ⟨0, Nat.zero_le _, rfl, rfl, fun j _ hj => by omega⟩
  case round =>
    obtain ⟨k, hk, rfl, rfl, hno⟩ := hrel
    by_cases hlt : k < s.size
    · have hli : (k : Int) < (s.size : Int) := by omega
      have hI := index_atW s k hlt
      have hc0 := (s[k]'hlt).toNat_lt
      have hok := okw_iff (s[k]'hlt)
      have HY := Lib.hid (fun h => OkTo.step hno.out hlt h)
      have HN := Lib.hid (fun h => wordV_no (wordT_no hlt h))
      clear hno
      generalize s[k]'hlt = cB at *
      obtain ⟨c, hce⟩ : ∃ c : Int, (cB.toNat : Int) = c := ⟨_, rfl⟩
      rw [hce] at hI
      by_cases hletter : 97 ≤ c ∧ c ≤ 122
      · have HT := Lib.hid (HY.out (hok.mpr (by omega)))
        obtain ⟨k0, k1⟩ := hletter
        clear hok hce HY HN
        go_wp2_with fail
        go_roundw
        case rel => exact ⟨k + 1, by omega, by go_num, trivial, HT.out⟩
        case measure => simp [intOf]; omega
      · by_cases hdigit : 48 ≤ c ∧ c ≤ 57
        · have HT := Lib.hid (HY.out (hok.mpr (by omega)))
          obtain ⟨k0, k1⟩ := hdigit
          have m1 : ¬ 97 ≤ c := by omega
          clear hok hce HY HN hletter
          go_wp2_with fail
          go_roundw
          case rel => exact ⟨k + 1, by omega, by go_num, trivial, HT.out⟩
          case measure => simp [intOf]; omega
        · by_cases hsign : c = 45 ∨ c = 46 ∨ c = 47
          · have HT := Lib.hid (HY.out (hok.mpr (by omega)))
            have m1 : ¬ 97 ≤ c := by omega
            have m2 : ¬ 48 ≤ c := by omega
            clear hok hce HY HN hletter hdigit
            rcases hsign with rfl | rfl | rfl
            all_goals
              go_wp2_with fail
              go_roundw
              case rel => exact ⟨k + 1, by omega, by go_num, trivial, HT.out⟩
              case measure => simp [intOf]; omega
          · have HT := Lib.hid (HN.out (fun h => by have := hok.mp h; omega))
            have q1 : (c == 45) = false := beq_eq_false_iff_ne.mpr (by omega)
            have q2 : (c == 46) = false := beq_eq_false_iff_ne.mpr (by omega)
            have q3 : (c == 47) = false := beq_eq_false_iff_ne.mpr (by omega)
            by_cases g1 : 97 ≤ c
            · have m1 : ¬ c ≤ 122 := by omega
              have m2 : 48 ≤ c := by omega
              have m3 : ¬ c ≤ 57 := by omega
              clear hok hce HY HN hletter hdigit hsign
              go_wp2_with fail
              go_ret
              exact ⟨(by rw [HT.out]; first | done | rfl), rfl⟩
            · by_cases g2 : 48 ≤ c
              · have m3 : ¬ c ≤ 57 := by omega
                clear hok hce HY HN hletter hdigit hsign
                go_wp2_with fail
                go_ret
                exact ⟨(by rw [HT.out]; first | done | rfl), rfl⟩
              · clear hok hce HY HN hletter hdigit hsign
                go_wp2_with fail
                go_ret
                exact ⟨(by rw [HT.out]; first | done | rfl), rfl⟩
    · have hk' : k = s.size := by omega
      have hall : wordT s = true := (wordT_iff s).mpr (by rw [← hk']; exact hno.out)
      have hV : wordV s = decide (1 ≤ s.size ∧ s.size ≤ 40) := by unfold wordV; rw [hall, Bool.and_true]
      have HV := Lib.hid hV
      clear hno hall hV hk'
      have hli : ¬ (k : Int) < (s.size : Int) := by omega
      by_cases h1 : 1 ≤ s.size
      · by_cases h2 : s.size ≤ 40
        · have HE : Hid (wordV s = true) := Lib.hid (by rw [HV.out, decide_eq_true ⟨h1, h2⟩])
          go_wp2_with fail
          go_ret
          exact ⟨(by rw [HE.out]; first | done | rfl | (show Ending.returned (.bool (decide ((s.size : Int) ≤ 40))) = _; rw [decide_eq_true (by omega : (s.size : Int) ≤ 40)]) | (show Ending.returned (.bool (decide ((s.size : Int) ≤ 40))) = _; rw [decide_eq_false (by omega : ¬ (s.size : Int) ≤ 40)])), rfl⟩
        · have HE : Hid (wordV s = false) := Lib.hid (by rw [HV.out, decide_eq_false (fun h => h2 h.2)])
          go_wp2_with fail
          go_ret
          exact ⟨(by rw [HE.out]; first | done | rfl | (show Ending.returned (.bool (decide ((s.size : Int) ≤ 40))) = _; rw [decide_eq_true (by omega : (s.size : Int) ≤ 40)]) | (show Ending.returned (.bool (decide ((s.size : Int) ≤ 40))) = _; rw [decide_eq_false (by omega : ¬ (s.size : Int) ≤ 40)])), rfl⟩
      · have HE : Hid (wordV s = false) := Lib.hid (by rw [HV.out, decide_eq_false (fun h => h1 h.1)])
        go_wp2_with fail
        go_ret
        exact ⟨(by rw [HE.out]; first | done | rfl | (show Ending.returned (.bool (decide ((s.size : Int) ≤ 40))) = _; rw [decide_eq_true (by omega : (s.size : Int) ≤ 40)]) | (show Ending.returned (.bool (decide ((s.size : Int) ≤ 40))) = _; rw [decide_eq_false (by omega : ¬ (s.size : Int) ≤ 40)])), rfl⟩

/-- The program's. -/
theorem trimW_any (s : ByteArray) (hs : s.size ≤ 1048576) (w : World) :
    Calls Tryd.prog 84 #[.string s, .string wsetB] w fun e w' => e = .returned (.string ⟨(Lib.trimS s.data.toList wset).toArray⟩) ∧ Below w.heap.size w w' :=
  Any.strings_Trim_laid { Tryd.laysTW with } (by kernel_rfl) s wsetB w (by omega) (by decide) (ascii_of_all (by decide))
theorem notEmptyW (s : ByteArray) (h : 0 < s.size) : s.toList.isEmpty = false := by
  cases h2 : s.toList with
  | nil =>
    have h3 : s.data.toList = [] := by rw [← ByteArray.toList_eq]; exact h2
    have h4 : s.size = 0 := by
      show s.data.toList.length = 0
      rw [h3]
      rfl
    omega
  | cons c cs => rfl

theorem implWord_any (s : ByteArray) (hs : s.size ≤ 1048576) (w : World) :
    Calls Tryd.prog 75 #[.string s] w fun e w' => e = .returned (.bool (wordV s)) ∧ Below w.heap.size w w' := by
  by_cases h0 : s.size = 0
  · obtain rfl : s = ⟨#[]⟩ := by
      apply ByteArray.ext
      exact Array.eq_empty_of_size_eq_zero h0
    go_enter Tryd.func75, Tryd.ntmps75
    go_wp2
    go_ret
    exact ⟨rfl, Below.refl _ _⟩
  · have he := notEmptyW s (by omega)
    by_cases h40 : s.size ≤ 40
    · have hV : wordV s = wordT s := by unfold wordV; rw [decide_eq_true ⟨by omega, h40⟩, Bool.true_and]
      rw [hV]
      clear hV
      have C := Lib.hid (fun W => trimW_any s hs W)
      unfold wsetB at C
      cases ht : wordT s with
      | true =>
        have hn : Lib.trimS s.data.toList wset = [] := (trim_nil s.data.toList wset).mpr (fun c hc => by
          unfold wordT at ht
          exact List.all_eq_true.mp ht c hc)
        rw [hn] at C
        clear hn ht
        go_enter Tryd.func75, Tryd.ntmps75
        go_wp2_with (go_at_call 84; (with_reducible refine (C.out _).mono ?_); rintro e wx ⟨rfl, hbx⟩)
        go_ret
        exact ⟨rfl, hbx⟩
      | false =>
        obtain ⟨T, hT, hTe⟩ : ∃ T : ByteArray, (⟨(Lib.trimS s.data.toList wset).toArray⟩ : ByteArray) = T ∧ T.toList.isEmpty = false := by
          refine ⟨_, rfl, ?_⟩
          have hne : Lib.trimS s.data.toList wset ≠ [] := fun e => by
            have h1 := (trim_nil s.data.toList wset).mp e
            have h2 : wordT s = true := by unfold wordT; exact List.all_eq_true.mpr h1
            rw [ht] at h2
            cases h2
          rw [ByteArray.toList_eq]
          match hL : Lib.trimS s.data.toList wset, hne with
          | c :: t, _ => rfl
        rw [hT] at C
        clear ht hT
        go_enter Tryd.func75, Tryd.ntmps75
        go_wp2_with (go_at_call 84; (with_reducible refine (C.out _).mono ?_); rintro e wx ⟨rfl, hbx⟩)
        go_ret
        exact ⟨rfl, hbx⟩
    · have hV : wordV s = false := by unfold wordV; rw [decide_eq_false (fun h => h40 h.2), Bool.false_and]
      rw [hV]
      clear hV
      have hI : ¬ (s.size : Int) ≤ 40 := by omega
      go_enter Tryd.func75, Tryd.ntmps75
      go_wp2
      go_ret
      exact ⟨rfl, Below.refl _ _⟩
end Go.Proofs.YtbjcldekapipaaaDoor
