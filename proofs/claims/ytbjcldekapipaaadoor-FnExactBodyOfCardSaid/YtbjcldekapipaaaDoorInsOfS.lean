/-
  The walk of the model's InsOf.
-/
import Derived.Test.YtbjcldekapipaaaDoorInsOf
namespace Go.Proofs.YtbjcldekapipaaaDoor
open Go.ChangeShapes Go.WideShapes Go.ChangeAt Go.RowKit

theorem index_atP (s : ByteArray) (j : Nat) (h : j < s.size) : ∀ W, (Instr.index 9 (.string s) (.int .i64 (j : Int))).run Tryd.prog W = .ok (.int .u8 ((s[j]'h).toNat : Int)) W := by
  intro W
  rw [run_index_string W _ _ _ _ Tryd.underlying9, dif_pos ⟨by omega, by omega⟩]
  rfl
theorem text_neP {a b : ByteArray} (h : a ≠ b) : (a.toList == b.toList) = false := by
  rw [beq_eq_false_iff_ne]
  intro e
  apply h
  apply ByteArray.ext
  apply Array.toList_inj.mp
  rw [← ByteArray.toList_eq, ← ByteArray.toList_eq]
  exact e
theorem Y2.new1 (w : World) (o : Obj) (u v : Value) (t : TypeId) : Y2 ((w.alloc o).alloc (.cells #[u, v] t)) (w.heap.size + 1) u v := by
  have h := Y2.new (w.alloc o) u v t
  simpa using h
theorem Y2.set {W : World} {B : Nat} {u v : Value} (h : Y2 W B u v) {p : Addr} (hp : p.block ≠ B) (x : Value) : Y2 (W.setCell p x) B u v := by
  refine ⟨?_, ?_, fun o => ?_, by simpa [World.setCell] using h.2.2.2⟩
  · rw [World.cell?_setCell_other _ _ _ _ (by intro e; exact hp (by rw [e]))]; exact h.1
  · rw [World.cell?_setCell_other _ _ _ _ (by intro e; exact hp (by rw [e]))]; exact h.2.1
  · have := h.2.2.1 o
    simpa using this
theorem Y2.set1 {W : World} {B : Nat} {u v : Value} (h : Y2 W B u v) (x : Value) : Y2 (W.setCell ⟨B, 1, none⟩ x) B u x := by
  refine ⟨?_, World.cell?_setCell_same _ _ _ h.2.1, fun o => ?_, by simpa [World.setCell] using h.2.2.2⟩
  · rw [World.cell?_setCell_other _ _ _ _ (by simp)]; exact h.1
  · have := h.2.2.1 o
    simpa using this

set_option maxHeartbeats 4000000 in
set_option maxRecDepth 100000 in
theorem specInsOf_none (s T : ByteArray) (b x : Int) (m K : Nat) (hs : s.size ≤ 1048576) (h0 : 0 < s.size) (hbd : 0 ≤ b ∧ b < 256) (hI : ∀ W, (Instr.index 9 (.string s) (.int .i64 0)).run Tryd.prog W = .ok (.int .u8 b) W) (hh : (insR b).2.2 = false) (hx : x = 0) (hm0 : m = 0) (hK : K = 1 + m) (hKz : K ≤ s.size)
    (hT : ∀ W, Calls Tryd.prog 11 #[.agg #[.int .i64 b, .int .i64 x]] W fun e w' => e = .returned (.string T) ∧ Below W.heap.size W w') (w : World) :
    (0 < T.size ∧ T = s.extract 0 K → Calls Tryd.prog 14 #[.string s] w (InsOfA b x K true w)) ∧ (¬ (0 < T.size ∧ T = s.extract 0 K) → Calls Tryd.prog 14 #[.string s] w (InsOfA 0 0 0 false w)) := by
  have CH := Lib.hid (fun W => l15Has_any b W)
  rw [hh] at CH
  have CT := Lib.hid hT
  have hse := empty_no h0
  have hs1 : ¬ ((s.size : Int) < 1) := by omega
  have hKI : 1 + (m : Int) = (K : Int) := by omega
  have hKz' : (K : Int) ≤ (s.size : Int) := by omega
  have hbw : IntKind.i64.wrap b = b := IntWalk.i64_in _ (by omega)
  clear hT hh hbd
  generalize insR b = R at *
  subst hx hm0
  obtain rfl : K = 1 := by omega
  clear hKI hK
  refine ⟨fun hy => ?_, fun hn => ?_⟩
  · have e1 : (T.toList == (s.extract 0 1).toList) = true := by rw [← hy.2, beq_iff_eq]
    have e2 : (T.toList != (s.extract 0 1).toList) = false := by rw [← hy.2, bne_eq_false_iff_eq]
    have hw := empty_no hy.1
    clear hy
    go_enter Tryd.func14, Tryd.ntmps14
    go_wp2_with (first
      | (go_at_call 38; refine (CH.out _).mono ?_; rintro e w1 ⟨rfl, rfl⟩)
      | (go_at_call 11; refine (CT.out _).mono ?_; rintro e w3 ⟨rfl, hb3⟩; have HB3 := Lib.hid (bnext (below2 w _ _) hb3); have ⟨d0, d1, g0, _⟩ := ((Y2.new w _ _ _).alloc _).keep hb3; have ⟨k0, k1, _, _⟩ := (Y2.new1 w _ _ _ _).keep hb3; clear hb3))
    refine bodyPost_ret (v := .tuple #[.agg #[.int .i64 b, .int .i64 0], .int .i64 1, .bool true]) ?hres rfl ⟨rfl, ?hbel⟩
    case hres => simp [results, Tryd.results14, go_sem, *]
    case hbel => exact (HB3.out.setCell (by first | (simp; done) | (simp; omega)) _).setCell (by first | (simp; done) | (simp; omega)) _
  · by_cases h1 : 0 < T.size
    · have hne : T ≠ s.extract 0 1 := fun e => hn ⟨h1, e⟩
      have e1 := text_neP hne
      have e2 : (T.toList != (s.extract 0 1).toList) = true := by rw [bne_iff_ne]; exact beq_eq_false_iff_ne.mp e1
      have hw := empty_no h1
      clear hn hne h1
      go_enter Tryd.func14, Tryd.ntmps14
      go_wp2_with (first
        | (go_at_call 38; refine (CH.out _).mono ?_; rintro e w1 ⟨rfl, rfl⟩)
        | (go_at_call 11; refine (CT.out _).mono ?_; rintro e w3 ⟨rfl, hb3⟩; have HB3 := Lib.hid (bnext (below2 w _ _) hb3); have ⟨d0, d1, g0, _⟩ := ((Y2.new w _ _ _).alloc _).keep hb3; have ⟨k0, k1, _, _⟩ := (Y2.new1 w _ _ _ _).keep hb3; clear hb3))
      refine bodyPost_ret (v := .tuple #[.agg #[.int .i64 0, .int .i64 0], .int .i64 0, .bool false]) ?hres rfl ⟨rfl, ?hbel⟩
      case hres => simp [results, Tryd.results14, go_sem, *]
      case hbel => exact (HB3.out.setCell (by first | (simp; done) | (simp; omega)) _).setCell (by first | (simp; done) | (simp; omega)) _
    · have hw : T.toList.isEmpty = true := by
        obtain rfl : T = ⟨#[]⟩ := ByteArray.ext (Array.toList_inj.mp (by
          have h2 : T.data.toList.length = T.size := by simp
          rw [List.eq_nil_of_length_eq_zero (by omega : T.data.toList.length = 0)]))
        exact empty_yes
      clear hn h1
      go_enter Tryd.func14, Tryd.ntmps14
      go_wp2_with (first
        | (go_at_call 38; refine (CH.out _).mono ?_; rintro e w1 ⟨rfl, rfl⟩)
        | (go_at_call 11; refine (CT.out _).mono ?_; rintro e w3 ⟨rfl, hb3⟩; have HB3 := Lib.hid (bnext (below2 w _ _) hb3); have ⟨d0, d1, g0, _⟩ := ((Y2.new w _ _ _).alloc _).keep hb3; have ⟨k0, k1, _, _⟩ := (Y2.new1 w _ _ _ _).keep hb3; clear hb3))
      refine bodyPost_ret (v := .tuple #[.agg #[.int .i64 0, .int .i64 0], .int .i64 0, .bool false]) ?hres rfl ⟨rfl, ?hbel⟩
      case hres => simp [results, Tryd.results14, go_sem, *]
      case hbel => exact (HB3.out.setCell (by first | (simp; done) | (simp; omega)) _).setCell (by first | (simp; done) | (simp; omega)) _

set_option maxHeartbeats 4000000 in
set_option maxRecDepth 100000 in
theorem specInsOf_const (s T : ByteArray) (b x : Int) (m K : Nat) (ok : Bool) (hs : s.size ≤ 1048576) (h0 : 0 < s.size) (_hbd : 0 ≤ b ∧ b < 256) (hI : ∀ W, (Instr.index 9 (.string s) (.int .i64 0)).run Tryd.prog W = .ok (.int .u8 b) W) (hh : (insR b).2.2 = true) (h1 : b = 1) (hK : K = 1 + m) (hKz : K ≤ s.size)
    (hC : ∀ W, Calls Tryd.prog 46 #[.string (s.extract 1 s.size)] W fun e w' => e = .returned (.tuple #[.int .i64 x, .int .i64 m, .bool ok]) ∧ Below W.heap.size W w')
    (hT : ∀ W, Calls Tryd.prog 11 #[.agg #[.int .i64 b, .int .i64 x]] W fun e w' => e = .returned (.string T) ∧ Below W.heap.size W w') (w : World) :
    (0 < T.size ∧ T = s.extract 0 K → Calls Tryd.prog 14 #[.string s] w (InsOfA b x K true w)) ∧ (¬ (0 < T.size ∧ T = s.extract 0 K) → Calls Tryd.prog 14 #[.string s] w (InsOfA 0 0 0 false w)) := by
  have CH := Lib.hid (fun W => l15Has_any b W)
  rw [hh] at CH
  have CT := Lib.hid hT
  have hse := empty_no h0
  have hs1 : ¬ ((s.size : Int) < 1) := by omega
  have hKI : 1 + (m : Int) = (K : Int) := by omega
  have hKz' : (K : Int) ≤ (s.size : Int) := by omega
  have hbw : IntKind.i64.wrap b = b := IntWalk.i64_in _ (by omega)
  clear hT hh _hbd
  generalize insR b = R at *
  clear hK
  have q1 : (b == 1) = true := by rw [h1]; rfl
  clear h1
  have CG := Lib.hid hC
  clear hC
  refine ⟨fun hy => ?_, fun hn => ?_⟩
  · have e1 : (T.toList == (s.extract 0 K).toList) = true := by rw [← hy.2, beq_iff_eq]
    have e2 : (T.toList != (s.extract 0 K).toList) = false := by rw [← hy.2, bne_eq_false_iff_eq]
    have hw := empty_no hy.1
    clear hy
    go_enter Tryd.func14, Tryd.ntmps14
    go_wp2_with (first
      | (go_at_call 38; refine (CH.out _).mono ?_; rintro e w1 ⟨rfl, rfl⟩)
      | (go_at_call 46; refine (CG.out _).mono ?_; rintro e w2 ⟨rfl, hb2⟩; have HB2 := Lib.hid (bnext (below2 w _ _) hb2); have Z2 := Lib.hid (((Y2.new w _ _ _).alloc _).keep hb2); have V2 := Lib.hid ((Y2.new1 w _ _ _ _).keep hb2); have ⟨i0, i1, j0, jl⟩ := V2.out; clear hb2)
      | (go_at_call 11; refine (CT.out _).mono ?_; rintro e w3 ⟨rfl, hb3⟩; have HB3 := Lib.hid (bnext (HB2.out.setCell (by first | (simp; done) | (simp; omega)) _) hb3); have ⟨d0, d1, g0, _⟩ := (Z2.out.set (by first | (simp; done) | (simp; omega)) _).keep hb3; have ⟨k0, k1, _, _⟩ := (V2.out.set1 _).keep hb3; clear hb3))
    refine bodyPost_ret (v := .tuple #[.agg #[.int .i64 b, .int .i64 x], .int .i64 K, .bool true]) ?hres rfl ⟨rfl, ?hbel⟩
    case hres => simp [results, Tryd.results14, go_sem, *]
    case hbel => exact (HB3.out.setCell (by first | (simp; done) | (simp; omega)) _).setCell (by first | (simp; done) | (simp; omega)) _
  · by_cases h1 : 0 < T.size
    · have hne : T ≠ s.extract 0 K := fun e => hn ⟨h1, e⟩
      have e1 := text_neP hne
      have e2 : (T.toList != (s.extract 0 K).toList) = true := by rw [bne_iff_ne]; exact beq_eq_false_iff_ne.mp e1
      have hw := empty_no h1
      clear hn hne h1
      go_enter Tryd.func14, Tryd.ntmps14
      go_wp2_with (first
        | (go_at_call 38; refine (CH.out _).mono ?_; rintro e w1 ⟨rfl, rfl⟩)
        | (go_at_call 46; refine (CG.out _).mono ?_; rintro e w2 ⟨rfl, hb2⟩; have HB2 := Lib.hid (bnext (below2 w _ _) hb2); have Z2 := Lib.hid (((Y2.new w _ _ _).alloc _).keep hb2); have V2 := Lib.hid ((Y2.new1 w _ _ _ _).keep hb2); have ⟨i0, i1, j0, jl⟩ := V2.out; clear hb2)
        | (go_at_call 11; refine (CT.out _).mono ?_; rintro e w3 ⟨rfl, hb3⟩; have HB3 := Lib.hid (bnext (HB2.out.setCell (by first | (simp; done) | (simp; omega)) _) hb3); have ⟨d0, d1, g0, _⟩ := (Z2.out.set (by first | (simp; done) | (simp; omega)) _).keep hb3; have ⟨k0, k1, _, _⟩ := (V2.out.set1 _).keep hb3; clear hb3))
      refine bodyPost_ret (v := .tuple #[.agg #[.int .i64 0, .int .i64 0], .int .i64 0, .bool false]) ?hres rfl ⟨rfl, ?hbel⟩
      case hres => simp [results, Tryd.results14, go_sem, *]
      case hbel => exact (HB3.out.setCell (by first | (simp; done) | (simp; omega)) _).setCell (by first | (simp; done) | (simp; omega)) _
    · have hw : T.toList.isEmpty = true := by
        obtain rfl : T = ⟨#[]⟩ := ByteArray.ext (Array.toList_inj.mp (by
          have h2 : T.data.toList.length = T.size := by simp
          rw [List.eq_nil_of_length_eq_zero (by omega : T.data.toList.length = 0)]))
        exact empty_yes
      clear hn h1
      go_enter Tryd.func14, Tryd.ntmps14
      go_wp2_with (first
        | (go_at_call 38; refine (CH.out _).mono ?_; rintro e w1 ⟨rfl, rfl⟩)
        | (go_at_call 46; refine (CG.out _).mono ?_; rintro e w2 ⟨rfl, hb2⟩; have HB2 := Lib.hid (bnext (below2 w _ _) hb2); have Z2 := Lib.hid (((Y2.new w _ _ _).alloc _).keep hb2); have V2 := Lib.hid ((Y2.new1 w _ _ _ _).keep hb2); have ⟨i0, i1, j0, jl⟩ := V2.out; clear hb2)
        | (go_at_call 11; refine (CT.out _).mono ?_; rintro e w3 ⟨rfl, hb3⟩; have HB3 := Lib.hid (bnext (HB2.out.setCell (by first | (simp; done) | (simp; omega)) _) hb3); have ⟨d0, d1, g0, _⟩ := (Z2.out.set (by first | (simp; done) | (simp; omega)) _).keep hb3; have ⟨k0, k1, _, _⟩ := (V2.out.set1 _).keep hb3; clear hb3))
      refine bodyPost_ret (v := .tuple #[.agg #[.int .i64 0, .int .i64 0], .int .i64 0, .bool false]) ?hres rfl ⟨rfl, ?hbel⟩
      case hres => simp [results, Tryd.results14, go_sem, *]
      case hbel => exact (HB3.out.setCell (by first | (simp; done) | (simp; omega)) _).setCell (by first | (simp; done) | (simp; omega)) _

set_option maxHeartbeats 4000000 in
set_option maxRecDepth 100000 in
theorem specInsOf_num (s T : ByteArray) (b x : Int) (m K : Nat) (ok : Bool) (hs : s.size ≤ 1048576) (h0 : 0 < s.size) (hbd : 0 ≤ b ∧ b < 256) (hI : ∀ W, (Instr.index 9 (.string s) (.int .i64 0)).run Tryd.prog W = .ok (.int .u8 b) W) (hh : (insR b).2.2 = true) (h1 : b ≠ 1) (hK : K = 1 + m) (hKz : K ≤ s.size)
    (hC : ∀ W, Calls Tryd.prog 47 #[.string (s.extract 1 s.size)] W fun e w' => e = .returned (.tuple #[.int .i64 x, .int .i64 m, .bool ok]) ∧ Below W.heap.size W w')
    (hT : ∀ W, Calls Tryd.prog 11 #[.agg #[.int .i64 b, .int .i64 x]] W fun e w' => e = .returned (.string T) ∧ Below W.heap.size W w') (w : World) :
    (0 < T.size ∧ T = s.extract 0 K → Calls Tryd.prog 14 #[.string s] w (InsOfA b x K true w)) ∧ (¬ (0 < T.size ∧ T = s.extract 0 K) → Calls Tryd.prog 14 #[.string s] w (InsOfA 0 0 0 false w)) := by
  have CH := Lib.hid (fun W => l15Has_any b W)
  rw [hh] at CH
  have CT := Lib.hid hT
  have hse := empty_no h0
  have hs1 : ¬ ((s.size : Int) < 1) := by omega
  have hKI : 1 + (m : Int) = (K : Int) := by omega
  have hKz' : (K : Int) ≤ (s.size : Int) := by omega
  have hbw : IntKind.i64.wrap b = b := IntWalk.i64_in _ (by omega)
  clear hT hh hbd
  generalize insR b = R at *
  clear hK
  have q1 : (b == 1) = false := beq_eq_false_iff_ne.mpr h1
  clear h1
  have CG := Lib.hid hC
  clear hC
  refine ⟨fun hy => ?_, fun hn => ?_⟩
  · have e1 : (T.toList == (s.extract 0 K).toList) = true := by rw [← hy.2, beq_iff_eq]
    have e2 : (T.toList != (s.extract 0 K).toList) = false := by rw [← hy.2, bne_eq_false_iff_eq]
    have hw := empty_no hy.1
    clear hy
    go_enter Tryd.func14, Tryd.ntmps14
    go_wp2_with (first
      | (go_at_call 38; refine (CH.out _).mono ?_; rintro e w1 ⟨rfl, rfl⟩)
      | (go_at_call 47; refine (CG.out _).mono ?_; rintro e w2 ⟨rfl, hb2⟩; have HB2 := Lib.hid (bnext (below2 w _ _) hb2); have Z2 := Lib.hid (((Y2.new w _ _ _).alloc _).keep hb2); have V2 := Lib.hid ((Y2.new1 w _ _ _ _).keep hb2); have ⟨i0, i1, j0, jl⟩ := V2.out; clear hb2)
      | (go_at_call 11; refine (CT.out _).mono ?_; rintro e w3 ⟨rfl, hb3⟩; have HB3 := Lib.hid (bnext (HB2.out.setCell (by first | (simp; done) | (simp; omega)) _) hb3); have ⟨d0, d1, g0, _⟩ := (Z2.out.set (by first | (simp; done) | (simp; omega)) _).keep hb3; have ⟨k0, k1, _, _⟩ := (V2.out.set1 _).keep hb3; clear hb3))
    refine bodyPost_ret (v := .tuple #[.agg #[.int .i64 b, .int .i64 x], .int .i64 K, .bool true]) ?hres rfl ⟨rfl, ?hbel⟩
    case hres => simp [results, Tryd.results14, go_sem, *]
    case hbel => exact (HB3.out.setCell (by first | (simp; done) | (simp; omega)) _).setCell (by first | (simp; done) | (simp; omega)) _
  · by_cases h1 : 0 < T.size
    · have hne : T ≠ s.extract 0 K := fun e => hn ⟨h1, e⟩
      have e1 := text_neP hne
      have e2 : (T.toList != (s.extract 0 K).toList) = true := by rw [bne_iff_ne]; exact beq_eq_false_iff_ne.mp e1
      have hw := empty_no h1
      clear hn hne h1
      go_enter Tryd.func14, Tryd.ntmps14
      go_wp2_with (first
        | (go_at_call 38; refine (CH.out _).mono ?_; rintro e w1 ⟨rfl, rfl⟩)
        | (go_at_call 47; refine (CG.out _).mono ?_; rintro e w2 ⟨rfl, hb2⟩; have HB2 := Lib.hid (bnext (below2 w _ _) hb2); have Z2 := Lib.hid (((Y2.new w _ _ _).alloc _).keep hb2); have V2 := Lib.hid ((Y2.new1 w _ _ _ _).keep hb2); have ⟨i0, i1, j0, jl⟩ := V2.out; clear hb2)
        | (go_at_call 11; refine (CT.out _).mono ?_; rintro e w3 ⟨rfl, hb3⟩; have HB3 := Lib.hid (bnext (HB2.out.setCell (by first | (simp; done) | (simp; omega)) _) hb3); have ⟨d0, d1, g0, _⟩ := (Z2.out.set (by first | (simp; done) | (simp; omega)) _).keep hb3; have ⟨k0, k1, _, _⟩ := (V2.out.set1 _).keep hb3; clear hb3))
      refine bodyPost_ret (v := .tuple #[.agg #[.int .i64 0, .int .i64 0], .int .i64 0, .bool false]) ?hres rfl ⟨rfl, ?hbel⟩
      case hres => simp [results, Tryd.results14, go_sem, *]
      case hbel => exact (HB3.out.setCell (by first | (simp; done) | (simp; omega)) _).setCell (by first | (simp; done) | (simp; omega)) _
    · have hw : T.toList.isEmpty = true := by
        obtain rfl : T = ⟨#[]⟩ := ByteArray.ext (Array.toList_inj.mp (by
          have h2 : T.data.toList.length = T.size := by simp
          rw [List.eq_nil_of_length_eq_zero (by omega : T.data.toList.length = 0)]))
        exact empty_yes
      clear hn h1
      go_enter Tryd.func14, Tryd.ntmps14
      go_wp2_with (first
        | (go_at_call 38; refine (CH.out _).mono ?_; rintro e w1 ⟨rfl, rfl⟩)
        | (go_at_call 47; refine (CG.out _).mono ?_; rintro e w2 ⟨rfl, hb2⟩; have HB2 := Lib.hid (bnext (below2 w _ _) hb2); have Z2 := Lib.hid (((Y2.new w _ _ _).alloc _).keep hb2); have V2 := Lib.hid ((Y2.new1 w _ _ _ _).keep hb2); have ⟨i0, i1, j0, jl⟩ := V2.out; clear hb2)
        | (go_at_call 11; refine (CT.out _).mono ?_; rintro e w3 ⟨rfl, hb3⟩; have HB3 := Lib.hid (bnext (HB2.out.setCell (by first | (simp; done) | (simp; omega)) _) hb3); have ⟨d0, d1, g0, _⟩ := (Z2.out.set (by first | (simp; done) | (simp; omega)) _).keep hb3; have ⟨k0, k1, _, _⟩ := (V2.out.set1 _).keep hb3; clear hb3))
      refine bodyPost_ret (v := .tuple #[.agg #[.int .i64 0, .int .i64 0], .int .i64 0, .bool false]) ?hres rfl ⟨rfl, ?hbel⟩
      case hres => simp [results, Tryd.results14, go_sem, *]
      case hbel => exact (HB3.out.setCell (by first | (simp; done) | (simp; omega)) _).setCell (by first | (simp; done) | (simp; omega)) _

theorem specInsOf_nil (w : World) : Calls Tryd.prog 14 #[.string ⟨#[]⟩] w (InsOfA 0 0 0 false w) := by
  have hw := empty_yes
  go_enter Tryd.func14, Tryd.ntmps14
  go_wp2
  refine bodyPost_ret (v := .tuple #[.agg #[.int .i64 0, .int .i64 0], .int .i64 0, .bool false]) ?hres rfl ⟨rfl, ?hbel⟩
  case hres => simp [results, Tryd.results14, go_sem, *]
  case hbel => first | exact below1 _ _ | exact ((below1 _ _).setCell (by first | (simp; done) | (simp; omega)) _).setCell (by first | (simp; done) | (simp; omega)) _

theorem specInsOf_any (s : ByteArray) (hs : s.size ≤ 1048576) (w : World) :
    (∀ op a r, IsIns s op a r → Calls Tryd.prog 14 #[.string s] w (InsOfA op a ((insBy op a).size : Int) true w)) ∧ ((∀ op a r, ¬ IsIns s op a r) → Calls Tryd.prog 14 #[.string s] w (InsOfA 0 0 0 false w)) := by
  by_cases h0 : 0 < s.size
  · have hbd := byte0_bd s
    have hI : ∀ W, (Instr.index 9 (.string s) (.int .i64 0)).run Tryd.prog W = .ok (.int .u8 (byte0 s)) W := fun W => by
      have := index_atP s 0 h0 W
      unfold byte0
      rw [dif_pos h0]
      exact this
    have huz : (s.extract 1 s.size).size ≤ 1048576 := by rw [ext_size _ _ _ (Nat.le_refl _)]; omega
    have hus : (s.extract 1 s.size).size + 1 = s.size := by rw [ext_size _ _ _ (Nat.le_refl _)]; omega
    have fin : ∀ (b x : Int) (K : Nat), (0 ≤ b ∧ b < 256) → -9223372036854775808 ≤ x → x ≤ 9223372036854775807 → K ≤ s.size → (∀ op a r, IsIns s op a r → b = op ∧ x = a ∧ K = (insBy op a).size) →
        (∀ T : ByteArray, (∀ W, Calls Tryd.prog 11 #[.agg #[.int .i64 b, .int .i64 x]] W fun e w' => e = .returned (.string T) ∧ Below W.heap.size W w') →
          (0 < T.size ∧ T = s.extract 0 K → Calls Tryd.prog 14 #[.string s] w (InsOfA b x K true w)) ∧ (¬ (0 < T.size ∧ T = s.extract 0 K) → Calls Tryd.prog 14 #[.string s] w (InsOfA 0 0 0 false w))) →
        (∀ op a r, IsIns s op a r → Calls Tryd.prog 14 #[.string s] w (InsOfA op a ((insBy op a).size : Int) true w)) ∧ ((∀ op a r, ¬ IsIns s op a r) → Calls Tryd.prog 14 #[.string s] w (InsOfA 0 0 0 false w)) := by
      intro b x K hb x0 x1 hK hf hg
      obtain ⟨g1, g2⟩ := hg _ (fun W => specInsBytes_any b x x0 x1 W)
      refine ⟨fun op a r h => ?_, fun h => g2 (fun hh => ?_)⟩
      · obtain ⟨rfl, rfl, rfl⟩ := hf op a r h
        refine g1 ⟨?_, ?_⟩
        · rw [h.1, if_pos rfl]; exact insBy_pos _ _
        · rw [h.1, if_pos rfl]
          conv => rhs; rw [h.2]
          exact (app_left _ _).symm
      · obtain ⟨h1, h2⟩ := hh
        cases hv : insV b x with
        | false =>
          rw [hv, if_neg (by simp)] at h1
          exact absurd h1 (by decide)
        | true =>
          rw [hv, if_pos rfl] at h2
          exact h b x (s.extract K s.size) ⟨hv, by rw [h2]; exact ext_split s K⟩
    cases hb : (insR (byte0 s)).2.2 with
    | false =>
      refine fin (byte0 s) 0 1 hbd (by omega) (by omega) (by omega) (fun op a r h => ?_) (fun T hT => specInsOf_none s T (byte0 s) 0 0 1 hs h0 hbd hI hb rfl rfl rfl (by omega) hT w)
      obtain ⟨k1, k2, k3, _⟩ := h.cut
      rw [k1] at hb
      refine ⟨k1, (k3 hb).1.symm, ?_⟩
      unfold insBy
      rw [hb, if_neg (by simp), fix1_size]
    | true =>
      by_cases h1 : byte0 s = 1
      · obtain ⟨x, m, ok, ⟨x0, x1, hm⟩, hf, _, hi⟩ := sleb_at (s.extract 1 s.size) huz
        refine fin (byte0 s) x (1 + m) hbd x0 x1 (by omega) (fun op a r h => ?_) (fun T hT => specInsOf_const s T (byte0 s) x m (1 + m) ok hs h0 hbd hI hb h1 rfl (by omega) hi hT w)
        have hvb := insV_bd h.1
        obtain ⟨k1, k2, _, k4⟩ := h.cut
        rw [k1] at hb h1
        have k5 := k4 hb
        rw [if_pos h1] at k5
        obtain ⟨f1, f2, _⟩ := hf a r hvb.1 hvb.2 k5
        refine ⟨k1, f1, ?_⟩
        unfold insBy
        rw [hb, if_pos rfl, if_pos h1, ByteArray.size_append, fix1_size, f2]
      · obtain ⟨x, m, ok, ⟨x0, x1, hm⟩, hf, _, hi⟩ := leb_at (s.extract 1 s.size) huz
        refine fin (byte0 s) x (1 + m) hbd (by omega) x1 (by omega) (fun op a r h => ?_) (fun T hT => specInsOf_num s T (byte0 s) x m (1 + m) ok hs h0 hbd hI hb h1 rfl (by omega) hi hT w)
        have hvb := insV_bd h.1
        have hvo := insV_op h.1
        obtain ⟨k1, k2, _, k4⟩ := h.cut
        rw [k1] at hb h1
        have k5 := k4 hb
        have hl := insR_low op h1
        rw [if_neg h1] at k5
        obtain ⟨f1, f2, _⟩ := hf a.toNat r (by omega) k5
        refine ⟨k1, by omega, ?_⟩
        unfold insBy
        rw [hb, if_pos rfl, if_neg h1, ByteArray.size_append, fix1_size, f2]
  · obtain rfl : s = ⟨#[]⟩ := ByteArray.ext (Array.toList_inj.mp (by
      have h2 : s.data.toList.length = s.size := by simp
      rw [List.eq_nil_of_length_eq_zero (by omega : s.data.toList.length = 0)]))
    refine ⟨fun op a r h => ?_, fun _ => specInsOf_nil w⟩
    have := h.cut.2.1
    exact absurd this (by decide)
end Go.Proofs.YtbjcldekapipaaaDoor
