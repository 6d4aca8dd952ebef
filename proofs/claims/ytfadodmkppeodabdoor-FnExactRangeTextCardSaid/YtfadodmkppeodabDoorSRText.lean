/-
  Walks of the model's RangeText.
-/
import Derived.Test.YtfadodmkppeodabDoorRText
import Derived.Deep.RegionHeld3
namespace Go.Proofs.YtfadodmkppeodabDoor
open Go.ChangeShapes Go.WideShapes Go.ChangeAt Go.RowKit

/-- What a walk's region keeps: a range's two numbers. -/
def S2 (a b : Int) (r : Nat) (w0 w' : World) : Prop := w'.cell? ⟨r, 0, none⟩ = some (.int .i64 a) ∧ w'.cell? ⟨r, 1, none⟩ = some (.int .i64 b) ∧ Below w0.heap.size w0 w'
theorem S2.drew {a b : Int} {r : Nat} {w0 w' : World} (h : S2 a b r w0 w') : S2 a b r w0 w'.drew := ⟨h.1, h.2.1, h.2.2.drew⟩
theorem S2.keep {a b : Int} {r : Nat} {w0 w' w2 : World} (h : S2 a b r w0 w') (hb : Below w'.heap.size w' w2) : S2 a b r w0 w2 := ⟨keepCell hb h.1, keepCell hb h.2.1, bchain h.2.2 hb h.2.2.size⟩

theorem signIndex (pos : Nat) (h : pos < 4) (k : Int) (hk : (((signs[pos]'h).toNat : Nat) : Int) = k) (W : World) :
    (Instr.index 9 (.string ⟨#[61, 126, 94, 62]⟩) (.int .i64 pos)).run Tryd.prog W = .ok (.int .u8 k) W := by
  have h4 : pos = 0 ∨ pos = 1 ∨ pos = 2 ∨ pos = 3 := by omega
  rw [run_index_string W _ _ _ _ Tryd.underlying9, dif_pos ⟨by omega, by show (pos : Int) < ((4 : Nat) : Int); omega⟩]
  subst hk
  rcases h4 with rfl | rfl | rfl | rfl <;> rfl

theorem signSlice (pos : Nat) (h : pos < 4) (k : Int) (hk : (((signs[pos]'h).toNat : Nat) : Int) = k) : (⟨#[61, 126, 94, 62]⟩ : ByteArray).extract pos (pos + 1) = ⟨#[lowB k]⟩ := by
  have h4 : pos = 0 ∨ pos = 1 ∨ pos = 2 ∨ pos = 3 := by omega
  subst hk
  rcases h4 with rfl | rfl | rfl | rfl <;> rfl

theorem specRT_ok (a b : Int) (hok : rOk a b) (w : World) :
    Calls Tryd.prog 26 #[.agg #[.int .i64 a, .int .i64 b]] w fun e w' => e = .returned (.string (rangeT a b)) ∧ Below w.heap.size w w' := by
  have hok2 := hok
  obtain ⟨h0, h1, h2⟩ := hok2
  go_enter Tryd.func26, Tryd.ntmps26
  go_wp2_with fail
  go_at_call 40
  refine (specRangeOk_yes _ _ _ hok).mono ?_
  rintro e wx ⟨rfl, hbx⟩
  obtain ⟨hcx, hfx⟩ := bcell hbx
  have hall := bchain (below1 _ _) hbx (by simp)
  have q0 : wx.cell? ⟨w.heap.size, 0, none⟩ = some (.int .i64 a) := by rw [hcx _ _ (by simp)]; simp
  have q1 : wx.cell? ⟨w.heap.size, 1, none⟩ = some (.int .i64 b) := by rw [hcx _ _ (by simp)]; simp
  clear hcx hfx hbx
  go_wp2_with fail
  have CB : Hid (∀ (k : Int), Sign k → ∀ W : World, Calls Tryd.prog 37 #[.int .u8 k, .int .i64 a] W fun e w' => e = .returned (.int .i64 (belOf k a)) ∧ W = w') := fun k hk W => sbelow_any k a h0 (by omega) hk W
  have CT : Hid (∀ W : World, Calls Tryd.prog 42 #[.int .i64 a] W fun e w' => e = .returned (.string (verB (a / 1000000) (a % 1000000 / 1000) (a % 1000))) ∧ Below W.heap.size W w') := fun W => l02Text_any a _ _ _ h0 (by omega) rfl (by omega) rfl W
  have HK : Hid (∀ k, rtB k a = ⟨#[lowB k]⟩ ++ verB (a / 1000000) (a % 1000000 / 1000) (a % 1000)) := fun k => rfl
  have hvs : (verB (a / 1000000) (a % 1000000 / 1000) (a % 1000)).size ≤ 11 := verB_size _ _ _ (by omega) (by omega) (by omega) (by omega) (by omega) (by omega)
  generalize verB (a / 1000000) (a % 1000000 / 1000) (a % 1000) = V at *
  have t1 : ¬ 9223372036854775807 < 1 + V.size := by omega
  have hS0 : S2 a b w.heap.size w wx := ⟨q0, q1, hall⟩
  clear q0 q1 hall
  go_loopg [4] 4 (fun gf s4 wz => ∃ pos : Nat, s4 = .int .i64 pos ∧ S2 a b w.heap.size w wz ∧ pos ≤ 4 ∧ 4 ≤ pos + gf ∧
    (1 ≤ pos → belOf 61 a ≠ b) ∧ (2 ≤ pos → belOf 126 a ≠ b) ∧ (3 ≤ pos → belOf 94 a ≠ b) ∧ (4 ≤ pos → belOf 62 a ≠ b))
  case atStart =>
    exact ⟨0, rfl, hS0, by omega, by omega, by omega, by omega, by omega, by omega⟩
  case round =>
    obtain ⟨pos, rfl, hS, hp4, hfu, i1, i2, i3, i4⟩ := hrel
    clear hS0
    by_cases hlt : pos < 4
    · obtain ⟨g', rfl⟩ : ∃ g', gk = g' + 1 := ⟨gk - 1, by omega⟩
      obtain ⟨k, hk, hkn, hka, k0, k1, k2, k3⟩ := sign_at pos hlt
      have hix := signIndex pos hlt k hkn
      have hsl := signSlice pos hlt k hkn
      clear hkn hka
      have hpi : (pos : Int) < 4 := by omega
      have hp0 : (0 : Int) ≤ (pos : Int) := by omega
      have hn0 : (pos : Int).toNat = pos := by omega
      have hn1 : ((pos : Int) + 1).toNat = pos + 1 := by omega
      have hpi2 : (pos : Int) + 1 ≤ 4 := by omega
      have hpi3 : (pos : Int) ≤ (pos : Int) + 1 := by omega
      have hpi4 : (0 : Int) ≤ (pos : Int) + 1 := by omega
      have hpw : IntKind.i64.wrap ((pos : Int) + 1) = (pos : Int) + 1 := by rw [IntKind.wrap_i64]; omega
      obtain ⟨p1, p2, hbW⟩ := id hS
      have CB2 := Lib.hid (CB.out k hk)
      have hres : belOf k a = b → rangeT a b = rtB k a := by
        intro hb
        unfold rangeT
        have h5 : pos = 0 ∨ pos = 1 ∨ pos = 2 ∨ pos = 3 := by omega
        rcases h5 with h5 | h5 | h5 | h5
        · obtain rfl := k0 h5
          rw [if_pos hb]
        · obtain rfl := k1 h5
          rw [if_neg (i1 (by omega)), if_pos hb]
        · obtain rfl := k2 h5
          rw [if_neg (i1 (by omega)), if_neg (i2 (by omega)), if_pos hb]
        · obtain rfl := k3 h5
          rw [if_neg (i1 (by omega)), if_neg (i2 (by omega)), if_neg (i3 (by omega)), if_pos hb]
      by_cases hz : belOf k a = b
      · have HR := Lib.hid (hres hz)
        rw [hz] at CB2
        clear hres hz CB i1 i2 i3 i4 k0 k1 k2 k3
        go_wp2_with fail
        go_region_held3 (fun w' => w'.cell? ⟨w.heap.size, 0, none⟩ = some (.int .i64 a) ∧ w'.cell? ⟨w.heap.size, 1, none⟩ = some (.int .i64 b) ∧ Below w.heap.size w w')
          (first | (exact S2.drew hS) | (exact hS) | (exact hSv) | (exact S2.drew hSv) | (apply S2.drew; assumption) | assumption)
          (first | (go_at_call 37; refine (CB2.out _).mono ?_; rintro e wv ⟨rfl, rfl⟩))
        all_goals
          clear hS p1 p2 hbW
          have hS : S2 a b w.heap.size w wr.drew := by assumption
          obtain ⟨p1, p2, hbW⟩ := id hS
          go_wp2_with fail
          go_region_held3 (fun w' => w'.cell? ⟨w.heap.size, 0, none⟩ = some (.int .i64 a) ∧ w'.cell? ⟨w.heap.size, 1, none⟩ = some (.int .i64 b) ∧ Below w.heap.size w w')
            (first | (exact S2.drew hS) | (exact hS) | (exact hSv) | (exact S2.drew hSv) | (apply S2.drew; assumption) | assumption)
            (first | (go_at_call 42; refine (CT.out _).mono ?_; rintro e wv ⟨rfl, hbv⟩; have hSv := S2.keep (by first | exact hS | exact hS.drew) hbv))
        all_goals
          go_wp2_with fail
          go_ret
          exact ⟨by rw [HR.out, HK.out]; rfl, hSv.2.2⟩
      · have j1 : Hid (1 ≤ pos + 1 → belOf 61 a ≠ b) := fun _ => if h : pos = 0 then (k0 h ▸ hz) else i1 (by omega)
        have j2 : Hid (2 ≤ pos + 1 → belOf 126 a ≠ b) := fun _ => if h : pos = 1 then (k1 h ▸ hz) else i2 (by omega)
        have j3 : Hid (3 ≤ pos + 1 → belOf 94 a ≠ b) := fun _ => if h : pos = 2 then (k2 h ▸ hz) else i3 (by omega)
        have j4 : Hid (4 ≤ pos + 1 → belOf 62 a ≠ b) := fun _ => if h : pos = 3 then (k3 h ▸ hz) else i4 (by omega)
        obtain ⟨y, hy⟩ : ∃ y, belOf k a = y := ⟨_, rfl⟩
        rw [hy] at CB2 hz
        have hzb : (y == b) = false := by rw [beq_eq_false_iff_ne]; exact hz
        clear hy hres CB i1 i2 i3 i4 k0 k1 k2 k3
        go_wp2_with fail
        go_region_held3 (fun w' => w'.cell? ⟨w.heap.size, 0, none⟩ = some (.int .i64 a) ∧ w'.cell? ⟨w.heap.size, 1, none⟩ = some (.int .i64 b) ∧ Below w.heap.size w w')
          (first | (exact S2.drew hS) | (exact hS) | (exact hSv) | (exact S2.drew hSv) | (apply S2.drew; assumption) | assumption)
          (first | (go_at_call 37; refine (CB2.out _).mono ?_; rintro e wv ⟨rfl, rfl⟩))
        all_goals
          go_wp2_with fail
          go_roundg g'
          case measure => omega
          case rel => exact ⟨pos + 1, by first | rfl | go_num, by first | exact hS.drew | assumption, by omega, by omega, j1.out, j2.out, j3.out, j4.out⟩
    · obtain rfl : pos = 4 := by omega
      have g1 := i1 (by omega)
      have g2 := i2 (by omega)
      have g3 := i3 (by omega)
      have g4 := i4 (by omega)
      have hb9 : b ≤ 999999999 := by
        have : b ≠ 1000000000 := fun h => g4 (by rw [h]; rfl)
        omega
      have HR : Hid (rangeT a b = rtB 62 a ++ ⟨#[32, 60]⟩ ++ verB (b / 1000000) (b % 1000000 / 1000) (b % 1000)) := by
        show rangeT a b = _
        unfold rangeT
        rw [if_neg g1, if_neg g2, if_neg g3, if_neg g4]
      have CT2 : Hid (∀ W : World, Calls Tryd.prog 42 #[.int .i64 b] W fun e w' => e = .returned (.string (verB (b / 1000000) (b % 1000000 / 1000) (b % 1000))) ∧ Below W.heap.size W w') := fun W => l02Text_any b _ _ _ (by omega) hb9 rfl (by omega) rfl W
      have hvs2 : (verB (b / 1000000) (b % 1000000 / 1000) (b % 1000)).size ≤ 11 := verB_size _ _ _ (by omega) (by omega) (by omega) (by omega) (by omega) (by omega)
      generalize verB (b / 1000000) (b % 1000000 / 1000) (b % 1000) = U at *
      have t2 : ¬ 9223372036854775807 < 1 + V.size + 2 := by omega
      have t3 : ¬ 9223372036854775807 < 1 + V.size + 2 + U.size := by omega
      obtain ⟨p1, p2, hbW⟩ := id hS
      clear i1 i2 i3 i4 g1 g2 g3 g4 hlt CB hfu hp4 hvs hvs2
      go_wp2_with fail
      go_region_held3 (fun w' => w'.cell? ⟨w.heap.size, 0, none⟩ = some (.int .i64 a) ∧ w'.cell? ⟨w.heap.size, 1, none⟩ = some (.int .i64 b) ∧ Below w.heap.size w w')
        (first | (exact S2.drew hS) | (exact hS) | (exact hSv) | (exact S2.drew hSv) | (apply S2.drew; assumption) | assumption)
        (first
          | (go_at_call_of 42 (Value.int .i64 a); refine (CT.out _).mono ?_; rintro e wv ⟨rfl, hbv⟩; have hSv := S2.keep (by first | exact hS | exact hS.drew) hbv)
          | (go_at_call_of 42 (Value.int .i64 b); refine (CT2.out _).mono ?_; rintro e wv ⟨rfl, hbv⟩; have hSv := S2.keep (by first | exact S2.drew hSv | exact hSv) hbv))
      all_goals
        go_wp2_with fail
        go_ret
        exact ⟨by rw [HR.out, HK.out]; rfl, hSv.2.2⟩
end Go.Proofs.YtfadodmkppeodabDoor
