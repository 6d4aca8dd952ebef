/-
  Walks of both RangeText.
-/
import Derived.Test.YtfadodmkppeodabDoorVBelow
import Derived.Test.YtfadodmkppeodabDoorRangeD
import Derived.Lib.OthersKept
import Derived.Deep.RegionHeld3
import Derived.Deep.LoopGhost
namespace Go.Proofs.YtfadodmkppeodabDoor
open Go.ChangeShapes Go.WideShapes Go.ChangeAt Go.RowKit

/-- The signs in their order. -/
def signs : ByteArray := ⟨#[61, 126, 94, 62]⟩

/-- What a walk's region keeps: a range's end, a version's parts. -/
def SR (b n1 n2 n3 : Int) (r lb : Nat) (w0 w' : World) : Prop :=
  w'.cell? ⟨r, 1, none⟩ = some (.int .i64 b) ∧ w'.cell? ⟨lb, 0, none⟩ = some (.int .i64 n1) ∧ w'.cell? ⟨lb, 1, none⟩ = some (.int .i64 n2) ∧ w'.cell? ⟨lb, 2, none⟩ = some (.int .i64 n3) ∧ Below w0.heap.size w0 w'
theorem SR.drew {b n1 n2 n3 : Int} {r lb : Nat} {w0 w' : World} (h : SR b n1 n2 n3 r lb w0 w') : SR b n1 n2 n3 r lb w0 w'.drew :=
  ⟨h.1, h.2.1, h.2.2.1, h.2.2.2.1, h.2.2.2.2.drew⟩
theorem SR.keep {b n1 n2 n3 : Int} {r lb : Nat} {w0 w' w2 : World} (h : SR b n1 n2 n3 r lb w0 w') (hb : Below w'.heap.size w' w2) : SR b n1 n2 n3 r lb w0 w2 :=
  ⟨keepCell hb h.1, keepCell hb h.2.1, keepCell hb h.2.2.1, keepCell hb h.2.2.2.1, bchain h.2.2.2.2 hb h.2.2.2.2.size⟩

theorem cellIter {w : World} {k pos : Nat} {s : ByteArray} (hk : w.heap[k]? = some (.stringIter s pos)) (s2 : ByteArray) (p : Nat) {a : Addr} {v : Value} (h : w.cell? a = some v) : (w.iterAt k s2 p).cell? a = some v := by
  by_cases he : a.block = k
  · simp [World.cell?, he, hk] at h
  · rw [← h]
    simp only [World.cell?, Lib.iterAt_other w k a.block s2 p he]
theorem SR.iter {b n1 n2 n3 : Int} {r lb : Nat} {w0 w' : World} {k pos : Nat} {s : ByteArray} (h : SR b n1 n2 n3 r lb w0 w') (hk : w'.heap[k]? = some (.stringIter s pos)) (hl : w0.heap.size ≤ k) (s2 : ByteArray) (p : Nat) : SR b n1 n2 n3 r lb w0 (w'.iterAt k s2 p) :=
  ⟨cellIter hk s2 p h.1, cellIter hk s2 p h.2.1, cellIter hk s2 p h.2.2.1, cellIter hk s2 p h.2.2.2.1, Lib.below_iterAt h.2.2.2.2 hl s2 p⟩
theorem heapKeep {w w' : World} {k : Nat} {o : Obj} (hb : Below w.heap.size w w') (h : w.heap[k]? = some o) : w'.heap[k]? = some o := by
  rw [← h]
  exact hb.block k (Array.getElem?_eq_some_iff.1 h).1

theorem verB_size (a b c : Int) (ha0 : 0 ≤ a) (ha1 : a < 1000) (hb0 : 0 ≤ b) (hb1 : b < 1000) (hc0 : 0 ≤ c) (hc1 : c < 1000) : (verB a b c).size ≤ 11 := by
  have := decB_size a ha0 ha1
  have := decB_size b hb0 hb1
  have := decB_size c hc0 hc1
  have h1 : (⟨#[46]⟩ : ByteArray).size = 1 := rfl
  simp only [verB, ByteArray.size_append, h1]
  omega

theorem sign_at (pos : Nat) (h : pos < 4) : ∃ k : Int, Sign k ∧ (((signs[pos]'h).toNat : Nat) : Int) = k ∧ (signs[pos]'h).toNat < 128 ∧ (pos = 0 → k = 61) ∧ (pos = 1 → k = 126) ∧ (pos = 2 → k = 94) ∧ (pos = 3 → k = 62) := by
  have h4 : pos = 0 ∨ pos = 1 ∨ pos = 2 ∨ pos = 3 := by omega
  rcases h4 with rfl | rfl | rfl | rfl
  · exact ⟨61, .inl rfl, rfl,(show ((61 : UInt8).toNat < 128) by decide), fun _ => rfl, fun h => by omega, fun h => by omega, fun h => by omega⟩
  · exact ⟨126, .inr (.inl rfl), rfl,(show ((126 : UInt8).toNat < 128) by decide), fun h => by omega, fun _ => rfl, fun h => by omega, fun h => by omega⟩
  · exact ⟨94, .inr (.inr (.inl rfl)), rfl,(show ((94 : UInt8).toNat < 128) by decide), fun h => by omega, fun h => by omega, fun _ => rfl, fun h => by omega⟩
  · exact ⟨62, .inr (.inr (.inr rfl)), rfl,(show ((62 : UInt8).toNat < 128) by decide), fun h => by omega, fun h => by omega, fun h => by omega, fun _ => rfl⟩

/-- A rune of ASCII, as a string. -/
theorem convRune (k : Int) (hk : Sign k) (W : World) : (convert 21 9 (.int .i32 k)).run Tryd.prog W = .ok (.string ⟨#[lowB k]⟩) W := by
  rcases hk with rfl | rfl | rfl | rfl
  all_goals
    simp [convert, run_underlying Tryd.underlying21, run_underlying Tryd.underlying9]
    rfl

/-- The sign, the range's start. -/
def rtB (k a : Int) : ByteArray := ⟨#[lowB k]⟩ ++ verB (a / 1000000) (a % 1000000 / 1000) (a % 1000)
/-- The text of a valid range. -/
def rangeT (a b : Int) : ByteArray :=
  if belOf 61 a = b then rtB 61 a else if belOf 126 a = b then rtB 126 a else if belOf 94 a = b then rtB 94 a else if belOf 62 a = b then rtB 62 a else
    rtB 62 a ++ ⟨#[32, 60]⟩ ++ verB (b / 1000000) (b % 1000000 / 1000) (b % 1000)

theorem implRT_ok (a b : Int) (hok : rOk a b) (w : World) (htab : Pows w) :
    Calls Tryd.prog 27 #[.agg #[.int .i64 a, .int .i64 b]] w fun e w' => e = .returned (.string (rangeT a b)) ∧ Below w.heap.size w w' := by
  have hok2 := hok
  obtain ⟨h0, h1, h2⟩ := hok2
  go_enter Tryd.func27, Tryd.ntmps27
  go_wp2_with fail
  go_at_call 41
  refine (implRangeOk_yes _ _ _ hok).mono ?_
  rintro e wx ⟨rfl, hbx⟩
  obtain ⟨hcx, hfx⟩ := bcell hbx
  have htx := (htab.keep (below1 _ _)).keep hbx
  have hall := bchain (below1 _ _) hbx (by simp)
  have q0 : wx.cell? ⟨w.heap.size, 0, none⟩ = some (.int .i64 a) := by rw [hcx _ _ (by simp)]; simp
  have q1 : wx.cell? ⟨w.heap.size, 1, none⟩ = some (.int .i64 b) := by rw [hcx _ _ (by simp)]; simp
  clear hcx hfx hbx
  go_wp2_with fail
  go_at_call 43
  refine (versionAt_any _ (by omega) (by omega) _).mono ?_
  rintro e wy ⟨rfl, hby⟩
  have hty := htx.keep hby
  have hall2 := bchain hall hby hall.size
  have q2 := keepCell hby q0
  have q3 := keepCell hby q1
  clear hby q0 q1 htx hall
  generalize hn1 : a / 1000000 = n1 at *
  generalize hn2 : a % 1000000 / 1000 = n2 at *
  generalize hn3 : a % 1000 = n3 at *
  go_wp2_with fail
  have hSa : SR b n1 n2 n3 w.heap.size wy.heap.size w (wy.alloc (.cells #[.int .i64 n1, .int .i64 n2, .int .i64 n3] 43)) :=
    ⟨keepCell (below1 _ _) q3, by simp, by simp, by simp, hall2.alloc hall2.size _⟩
  have hsz : w.heap.size ≤ wy.heap.size := hall2.size
  clear q2 q3 hall2 hty
  have CB : Hid (∀ (k : Int), Sign k → ∀ W : World, Calls Tryd.prog 39 #[.agg #[.int .i64 n1, .int .i64 n2, .int .i64 n3], .int .i32 k] W fun e w' => e = .returned (.int .i64 (belOf k a)) ∧ Below W.heap.size W w') := fun k hk W => by
    rw [← hn1, ← hn2, ← hn3]; exact below_any k a (by omega) (by omega) hk W
  have CT : Hid (∀ W : World, Pows W → Calls Tryd.prog 44 #[.agg #[.int .i64 n1, .int .i64 n2, .int .i64 n3]] W fun e w' => e = .returned (.string (verB n1 n2 n3)) ∧ Below W.heap.size W w') := fun W hW => text_any n1 n2 n3 (by omega) (by omega) (by omega) (by omega) (by omega) (by omega) W hW
  have hvs : (verB n1 n2 n3).size ≤ 11 := verB_size n1 n2 n3 (by omega) (by omega) (by omega) (by omega) (by omega) (by omega)
  have HT := Lib.hid htab
  have HK : Hid (∀ k, rtB k a = ⟨#[lowB k]⟩ ++ verB n1 n2 n3) := fun k => by unfold rtB; rw [hn1, hn2, hn3]
  clear htab
  obtain ⟨W0, hW0⟩ : ∃ W0, wy.alloc (.cells #[.int .i64 n1, .int .i64 n2, .int .i64 n3] 43) = W0 := ⟨_, rfl⟩
  have hWs : W0.heap.size = wy.heap.size + 1 := by rw [← hW0]; simp
  rw [hW0] at hSa ⊢
  rw [← hWs]
  generalize wy.heap.size = L at *
  have hM : w.heap.size ≤ W0.heap.size := by omega
  clear hW0 hWs hn1 hn2 hn3
  go_loopg [5] 4 (fun gf _ wz => ∃ pos : Nat, wz.heap[W0.heap.size]? = some (.stringIter signs pos) ∧ SR b n1 n2 n3 w.heap.size L w wz ∧ pos ≤ 4 ∧ 4 ≤ pos + gf ∧
    (1 ≤ pos → belOf 61 a ≠ b) ∧ (2 ≤ pos → belOf 126 a ≠ b) ∧ (3 ≤ pos → belOf 94 a ≠ b) ∧ (4 ≤ pos → belOf 62 a ≠ b))
  case atStart =>
    exact ⟨0, World.iter_heap W0 signs 0, hSa.keep (below1 _ _), by omega, by omega, by omega, by omega, by omega, by omega⟩
  case round =>
    obtain ⟨pos, hit, hS, hp4, hfu, i1, i2, i3, i4⟩ := hrel
    by_cases hlt : pos < 4
    · obtain ⟨g', rfl⟩ : ∃ g', gk = g' + 1 := ⟨gk - 1, by omega⟩
      obtain ⟨k, hk, hkn, hka, k0, k1, k2, k3⟩ := sign_at pos hlt
      have hnx : ∀ ty, (Instr.next (.pointer (some ⟨W0.heap.size, 0, none⟩)) true ty).run Tryd.prog wr = _ := fun ty => Lib.run_next_ascii_at wr W0.heap.size signs pos ty hit hlt hka
      have hSW := hS.iter hit hM signs (pos + 1)
      have hitW := Lib.iterAt_heap wr W0.heap.size signs pos (pos + 1) hit
      obtain ⟨W, hWd⟩ : ∃ W, wr.iterAt W0.heap.size signs (pos + 1) = W := ⟨_, rfl⟩
      rw [hWd, hkn] at hnx
      rw [hWd] at hSW hitW
      clear hWd hS hit hkn hka
      have hS0 : SR b n1 n2 n3 w.heap.size L W W := ⟨hSW.1, hSW.2.1, hSW.2.2.1, hSW.2.2.2.1, Below.refl _ _⟩
      obtain ⟨p1, p2, p3, p4, hbW⟩ := hSW
      have hcv := convRune k hk
      have CB2 := Lib.hid (CB.out k hk)
      have hres : belOf k a = b → rangeT a b = rtB k a := by
        intro hb
        unfold rangeT
        have h5 : pos = 0 ∨ pos = 1 ∨ pos = 2 ∨ pos = 3 := by omega
        rcases h5 with h5 | h5 | h5 | h5
        · obtain rfl := k0 h5
          rw [if_pos hb]
        · obtain rfl := k1 h5
          rw [if_neg (i1 (by omega)), if_pos hb]
        · obtain rfl := k2 h5
          rw [if_neg (i1 (by omega)), if_neg (i2 (by omega)), if_pos hb]
        · obtain rfl := k3 h5
          rw [if_neg (i1 (by omega)), if_neg (i2 (by omega)), if_neg (i3 (by omega)), if_pos hb]
      by_cases hz : belOf k a = b
      · have HR := Lib.hid (hres hz)
        rw [hz] at CB2
        clear hres hz CB i1 i2 i3 i4 k0 k1 k2 k3
        go_wp2_with fail
        go_region_held3 (fun w' => w'.cell? ⟨w.heap.size, 1, none⟩ = some (.int .i64 b) ∧ w'.cell? ⟨L, 0, none⟩ = some (.int .i64 n1) ∧ w'.cell? ⟨L, 1, none⟩ = some (.int .i64 n2) ∧ w'.cell? ⟨L, 2, none⟩ = some (.int .i64 n3) ∧ Below W.heap.size W w')
          (first | (exact SR.drew hS0) | (exact hS0) | (exact hSv) | (exact SR.drew hSv) | (apply SR.keep; assumption; assumption) | (apply SR.drew; assumption))
          (first | (go_at_call 39; refine (CB2.out _).mono ?_; rintro e wv ⟨rfl, hbv⟩; have hSv := SR.keep (by first | exact hS0.drew | assumption) hbv))
        all_goals
          go_wp2_with fail
          go_at_call 44
          refine (CT.out _ (HT.out.keep (bchain hbW hSv.2.2.2.2 hbW.size))).mono ?_
          rintro e w9 ⟨rfl, hb9⟩
          go_wp2_with fail
          go_ret
          exact ⟨by rw [HR.out, HK.out]; rfl, bchain (bchain hbW hSv.2.2.2.2 hbW.size) hb9 (bchain hbW hSv.2.2.2.2 hbW.size).size⟩
      · have j1 : Hid (1 ≤ pos + 1 → belOf 61 a ≠ b) := fun _ => if h : pos = 0 then (k0 h ▸ hz) else i1 (by omega)
        have j2 : Hid (2 ≤ pos + 1 → belOf 126 a ≠ b) := fun _ => if h : pos = 1 then (k1 h ▸ hz) else i2 (by omega)
        have j3 : Hid (3 ≤ pos + 1 → belOf 94 a ≠ b) := fun _ => if h : pos = 2 then (k2 h ▸ hz) else i3 (by omega)
        have j4 : Hid (4 ≤ pos + 1 → belOf 62 a ≠ b) := fun _ => if h : pos = 3 then (k3 h ▸ hz) else i4 (by omega)
        obtain ⟨y, hy⟩ : ∃ y, belOf k a = y := ⟨_, rfl⟩
        rw [hy] at CB2 hz
        have hzb : (y == b) = false := by rw [beq_eq_false_iff_ne]; exact hz
        clear hy hres CB i1 i2 i3 i4 k0 k1 k2 k3
        go_wp2_with fail
        go_region_held3 (fun w' => w'.cell? ⟨w.heap.size, 1, none⟩ = some (.int .i64 b) ∧ w'.cell? ⟨L, 0, none⟩ = some (.int .i64 n1) ∧ w'.cell? ⟨L, 1, none⟩ = some (.int .i64 n2) ∧ w'.cell? ⟨L, 2, none⟩ = some (.int .i64 n3) ∧ Below W.heap.size W w')
          (first | (exact SR.drew hS0) | (exact hS0) | (exact hSv) | (exact SR.drew hSv) | (apply SR.keep; assumption; assumption) | (apply SR.drew; assumption))
          (first | (go_at_call 39; refine (CB2.out _).mono ?_; rintro e wv ⟨rfl, hbv⟩; have hSv := SR.keep (by first | exact hS0.drew | assumption) hbv))
        all_goals
          go_wp2_with fail
          go_roundg g'
          case measure => omega
          case rel => exact ⟨pos + 1, heapKeep hSv.2.2.2.2 hitW, ⟨hSv.1, hSv.2.1, hSv.2.2.1, hSv.2.2.2.1, bchain hbW hSv.2.2.2.2 hbW.size⟩, by omega, by omega, j1.out, j2.out, j3.out, j4.out⟩
    · have hnx : ∀ ty, (Instr.next (.pointer (some ⟨W0.heap.size, 0, none⟩)) true ty).run Tryd.prog wr = _ := fun ty => Lib.run_next_end_at wr W0.heap.size signs pos ty hit hlt
      have g1 := i1 (by omega)
      have g2 := i2 (by omega)
      have g3 := i3 (by omega)
      have g4 := i4 (by omega)
      have hb9 : b ≤ 999999999 := by
        have : b ≠ 1000000000 := fun h => g4 (by rw [h]; rfl)
        omega
      have HR : Hid (rangeT a b = rtB 62 a ++ ⟨#[32, 60]⟩ ++ verB (b / 1000000) (b % 1000000 / 1000) (b % 1000)) := by
        show rangeT a b = _
        unfold rangeT
        rw [if_neg g1, if_neg g2, if_neg g3, if_neg g4]
      have CV : Hid (∀ W : World, Calls Tryd.prog 43 #[.int .i64 b] W fun e w' => e = .returned (.agg #[.int .i64 (b / 1000000), .int .i64 (b % 1000000 / 1000), .int .i64 (b % 1000)]) ∧ Below W.heap.size W w') := fun W => versionAt_any b (by omega) hb9 W
      have CT2 : Hid (∀ W : World, Pows W → Calls Tryd.prog 44 #[.agg #[.int .i64 (b / 1000000), .int .i64 (b % 1000000 / 1000), .int .i64 (b % 1000)]] W fun e w' => e = .returned (.string (verB (b / 1000000) (b % 1000000 / 1000) (b % 1000))) ∧ Below W.heap.size W w') := fun W hW => text_any _ _ _ (by omega) (by omega) (by omega) (by omega) (by omega) (by omega) W hW
      have hvs2 : (verB (b / 1000000) (b % 1000000 / 1000) (b % 1000)).size ≤ 11 := verB_size _ _ _ (by omega) (by omega) (by omega) (by omega) (by omega) (by omega)
      generalize b / 1000000 = m1 at *
      generalize b % 1000000 / 1000 = m2 at *
      generalize b % 1000 = m3 at *
      have t1 : ¬ 9223372036854775807 < 1 + (verB n1 n2 n3).size := by omega
      have t2 : ¬ 9223372036854775807 < 1 + (verB n1 n2 n3).size + 2 := by omega
      have t3 : ¬ 9223372036854775807 < 1 + (verB n1 n2 n3).size + 2 + (verB m1 m2 m3).size := by omega
      clear i1 i2 i3 i4 g1 g2 g3 g4 hit hlt CB hfu hp4 hvs hvs2
      go_wp2_with fail
      go_region_held3 (fun w' => w'.cell? ⟨w.heap.size, 1, none⟩ = some (.int .i64 b) ∧ w'.cell? ⟨L, 0, none⟩ = some (.int .i64 n1) ∧ w'.cell? ⟨L, 1, none⟩ = some (.int .i64 n2) ∧ w'.cell? ⟨L, 2, none⟩ = some (.int .i64 n3) ∧ Below w.heap.size w w')
        (first | (exact SR.drew hS) | (exact hS) | (exact hSv) | (exact SR.drew hSv) | (apply SR.keep; assumption; assumption) | (apply SR.drew; assumption))
        (first
          | (go_at_call_of 44 (Value.agg #[.int .i64 n1, .int .i64 n2, .int .i64 n3]); refine (CT.out _ (HT.out.keep (by first | exact hS.2.2.2.2 | exact hS.drew.2.2.2.2 | exact (SR.drew hSv).2.2.2.2 | exact hSv.2.2.2.2))).mono ?_; rintro e wv ⟨rfl, hbv⟩; have hSv := SR.keep (by first | exact hS | exact hS.drew | exact SR.drew hSv | exact hSv) hbv)
          | (go_at_call 43; refine (CV.out _).mono ?_; rintro e wv ⟨rfl, hbv⟩; have hSv := SR.keep (by first | exact SR.drew hSv | exact hSv | exact hS | exact hS.drew) hbv)
          | (go_at_call_of 44 (Value.agg #[.int .i64 m1, .int .i64 m2, .int .i64 m3]); refine (CT2.out _ (HT.out.keep (by first | exact (SR.drew hSv).2.2.2.2 | exact hSv.2.2.2.2))).mono ?_; rintro e wv ⟨rfl, hbv⟩; have hSv := SR.keep (by first | exact SR.drew hSv | exact hSv) hbv))
      all_goals
        go_wp2_with fail
        go_ret
        exact ⟨by rw [HR.out, HK.out]; rfl, hSv.2.2.2.2⟩
end Go.Proofs.YtfadodmkppeodabDoor
