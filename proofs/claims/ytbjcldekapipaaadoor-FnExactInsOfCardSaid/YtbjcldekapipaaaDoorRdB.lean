/-
  The program's reader of bytes: pass, readByte, readLeb.
-/
import Derived.Test.YtbjcldekapipaaaDoorInsP
import Derived.Test.YtbjcldekapipaaaDoorGetFix
import Derived.Deep.RegionHeld3
namespace Go.Proofs.YtbjcldekapipaaaDoor
open Go.ChangeShapes Go.WideShapes Go.ChangeAt Go.RowKit

/-- A reader in block B: what it has not read yet. -/
def Rd (W : World) (B : Nat) (t : ByteArray) : Prop := W.cell? ⟨B, 0, none⟩ = some (.string t) ∧ W.frozen? ⟨B, 0, none⟩ = false
/-- All but block B stays. -/
def KeepR (B : Nat) (W W' : World) : Prop := Below B W W' ∧ W.heap.size ≤ W'.heap.size ∧ ∀ k, k ≠ B → k < W.heap.size → W'.heap[k]? = W.heap[k]?
theorem KeepR.refl (B : Nat) (W : World) : KeepR B W W := ⟨Below.refl _ _, Nat.le_refl _, fun _ _ _ => rfl⟩
theorem KeepR.trans {B : Nat} {a b c : World} (h : KeepR B a b) (k : KeepR B b c) : KeepR B a c :=
  ⟨h.1.trans k.1, Nat.le_trans h.2.1 k.2.1, fun i hi hl => (k.2.2 i hi (by have := h.2.1; omega)).trans (h.2.2 i hi hl)⟩
theorem KeepR.drewN {B : Nat} {a b : World} (h : KeepR B a b) (n : Nat) : KeepR B a (b.drewN n) := ⟨⟨h.1.os, h.1.tape, h.1.output, h.1.size, h.1.block⟩, h.2.1, h.2.2⟩
theorem KeepR.drew {B : Nat} {a b : World} (h : KeepR B a b) : KeepR B a b.drew := h.drewN 1
theorem KeepR.below {B : Nat} {a b c : World} (h : KeepR B a b) (hb : Below b.heap.size b c) (hB : B ≤ b.heap.size) : KeepR B a c :=
  ⟨h.1.trans (hb.mono hB), Nat.le_trans h.2.1 hb.size, fun i hi hl => (hb.block i (by have := h.2.1; omega)).trans (h.2.2 i hi hl)⟩
theorem KeepR.setCell {B : Nat} {a b : World} (h : KeepR B a b) (o : Nat) (v : Value) : KeepR B a (b.setCell ⟨B, o, none⟩ v) :=
  ⟨h.1.setCell (Nat.le_refl _) v, by simpa [World.setCell] using h.2.1, fun k hk hl => by rw [Below.heap_setCell _ _ _ _ (fun e => hk e)]; exact h.2.2 k hk hl⟩
theorem KeepR.below0 {W W1 W2 : World} {B : Nat} (h1 : Below W.heap.size W W1) (h2 : KeepR B W1 W2) (hB : W.heap.size ≤ B) : Below W.heap.size W W2 := h1.trans (h2.1.mono hB)
theorem KeepR.cell {B : Nat} {a b : World} (h : KeepR B a b) {x : Addr} {v : Value} (hx : x.block ≠ B) (hv : a.cell? x = some v) : b.cell? x = some v := by
  have hl : x.block < a.heap.size := World.block_lt_of_cell? a _ hv
  have e := h.2.2 x.block hx hl
  simp only [World.cell?, e]
  exact hv
theorem Rd.lt {W : World} {B : Nat} {t : ByteArray} (h : Rd W B t) : B < W.heap.size := World.block_lt_of_cell? W _ h.1
theorem Rd.drewN {W : World} {B : Nat} {t : ByteArray} (h : Rd W B t) (n : Nat) : Rd (W.drewN n) B t := h
theorem Rd.below {W W' : World} {B : Nat} {t : ByteArray} (h : Rd W B t) (hb : Below W.heap.size W W') : Rd W' B t :=
  ⟨keepCell hb h.1, by rw [hb.frozen (p := ⟨B, 0, none⟩) h.lt]; exact h.2⟩
theorem Rd.set {W : World} {B : Nat} {t : ByteArray} (h : Rd W B t) (u : ByteArray) : Rd (W.setCell ⟨B, 0, none⟩ (.string u)) B u :=
  ⟨World.cell?_setCell_same _ _ _ h.1, by simpa using h.2⟩

theorem take_strK (s : ByteArray) (m : Nat) : strOfNums ((nums s).take m) = s.extract 0 m := by
  refine ByteArray.ext ?_
  refine Array.toList_inj.mp ?_
  rw [strOfNums_data, extract_data']
  simp only [List.drop_zero, Nat.sub_zero]
  rw [nums, ← List.map_take, List.map_map]
  conv => rhs; rw [← List.map_id' (s.data.toList.take m)]
  apply List.map_congr_left
  intro b _
  simp
theorem pass_any (B : Nat) (t : ByteArray) (m : Nat) (hm : m ≤ t.size) (W : World) (h : Rd W B t) :
    Calls Tryd.prog 69 #[.pointer (some ⟨B, 0, none⟩), .int .i64 m] W fun e w' => e = .returned (.string (t.extract 0 m)) ∧ Rd w' B (t.extract m t.size) ∧ KeepR B W w' := by
  have h0 := h.1
  have h1 := h.2
  have HH := Lib.hid h
  have hmi : (m : Int) ≤ (t.size : Int) := by omega
  clear h
  go_enter Tryd.func69, Tryd.ntmps69
  go_wp2_with fail
  go_ret
  exact ⟨rfl, HH.out.set _, (KeepR.refl _ _).setCell 0 _⟩

/-- The first byte, or nought. -/
def byte0 (t : ByteArray) : Int := if h : 0 < t.size then ((t[0]'h).toNat : Int) else 0
theorem byte0_bd (t : ByteArray) : 0 ≤ byte0 t ∧ byte0 t < 256 := by
  unfold byte0
  split
  · rename_i h
    have := (t[0]'h).toNat_lt
    omega
  · omega
theorem fix_byte0 (t : ByteArray) : wrap64 (fixv (nums (t.extract 0 (min 1 t.size)))) = byte0 t := by
  by_cases h : 0 < t.size
  · have e : min 1 t.size = 1 := by omega
    rw [e, ← take_strK t 1]
    have e2 : (nums t).take 1 = [((t[0]'h).toNat : Int)] := by
      have := nums_take_snoc t 0 h
      rw [List.take_zero] at this
      exact this
    have hb := (t[0]'h).toNat_lt
    rw [e2, nums_of7K _ (by intro n hn; simp at hn; omega)]
    unfold byte0
    rw [dif_pos h]
    simp only [fixv]
    unfold wrap64
    omega
  · have e : t.extract 0 (min 1 t.size) = ⟨#[]⟩ := by
      apply ByteArray.ext
      apply Array.toList_inj.mp
      rw [extract_data', List.take_of_length_le]
      · have e2 : min 1 t.size - 0 = 0 := by omega
        have : t.data.toList = [] := by
          apply List.eq_nil_of_length_eq_zero
          have e3 : t.data.toList.length = t.size := by simp
          omega
        rw [this]
        rfl
      · rw [List.length_drop]
        have e3 : t.data.toList.length = t.size := by simp
        omega
    rw [e]
    unfold byte0
    rw [dif_neg h]
    have hn : nums (⟨#[]⟩ : ByteArray) = [] := rfl
    rw [hn]
    simp [fixv, wrap64]

theorem readByte_any (B : Nat) (t : ByteArray) (W : World) (h : Rd W B t) :
    Calls Tryd.prog 67 #[.pointer (some ⟨B, 0, none⟩)] W fun e w' => e = .returned (.int .i64 (byte0 t)) ∧ Rd w' B (t.extract (min 1 t.size) t.size) ∧ KeepR B W w' := by
  have CP := Lib.hid (fun W hr => pass_any B t (min 1 t.size) (by omega) W hr)
  have CG := Lib.hid (fun W => implGetFix_any (t.extract 0 (min 1 t.size)) W (by rw [ext_size _ _ _ (by omega)]; omega))
  rw [fix_byte0] at CG
  have h0 := h.1
  have HH := Lib.hid h
  clear h
  generalize byte0 t = b at *
  by_cases h1 : 0 < t.size
  · have e : min 1 t.size = 1 := by omega
    have hc : ¬ ((t.size : Int) < 1) := by omega
    rw [e] at CP CG ⊢
    clear e h1
    go_enter Tryd.func67, Tryd.ntmps67
    go_wp2_with (first
      | (go_at_call 69; refine (CP.out _ HH.out).mono ?_; rintro e w1 ⟨rfl, hr1, hk1⟩; have HR1 := Lib.hid hr1; have HK1 := Lib.hid hk1; clear hr1 hk1)
      | (go_at_call 79; refine (CG.out _).mono ?_; rintro e w2 ⟨rfl, hb2⟩; have HR2 := Lib.hid (HR1.out.below hb2); have HK2 := Lib.hid (HK1.out.below hb2 (Nat.le_of_lt HR1.out.lt)); clear hb2))
    go_ret
    exact ⟨rfl, HR2.out, HK2.out⟩
  · have e : min 1 t.size = t.size := by omega
    have hc : ((t.size : Int) < 1) := by omega
    rw [e] at CP CG ⊢
    clear e h1
    obtain ⟨m, hm⟩ : ∃ m, t.size = m := ⟨_, rfl⟩
    rw [hm] at CP CG hc ⊢
    go_enter Tryd.func67, Tryd.ntmps67
    go_wp2_with (first
      | (go_at_call 69; refine (CP.out _ HH.out).mono ?_; rintro e w1 ⟨rfl, hr1, hk1⟩; have HR1 := Lib.hid hr1; have HK1 := Lib.hid hk1; clear hr1 hk1)
      | (go_at_call 79; refine (CG.out _).mono ?_; rintro e w2 ⟨rfl, hb2⟩; have HR2 := Lib.hid (HR1.out.below hb2); have HK2 := Lib.hid (HK1.out.below hb2 (Nat.le_of_lt HR1.out.lt)); clear hb2))
    go_ret
    exact ⟨rfl, HR2.out, HK2.out⟩

theorem readLeb_any (B : Nat) (t : ByteArray) (x : Int) (m : Nat) (ok : Bool) (hm : m ≤ t.size) (hC : ∀ W, Calls Tryd.prog 83 #[.string t] W fun e w' => e = .returned (.tuple #[.int .i64 x, .int .i64 m, .bool ok]) ∧ Below W.heap.size W w') (W : World) (h : Rd W B t) :
    Calls Tryd.prog 70 #[.pointer (some ⟨B, 0, none⟩)] W fun e w' => e = .returned (.int .i64 x) ∧ Rd w' B (t.extract m t.size) ∧ KeepR B W w' := by
  have CP := Lib.hid (fun W hr => pass_any B t m hm W hr)
  have CG := Lib.hid hC
  have h0 := h.1
  have HH := Lib.hid h
  have hlt := h.lt
  clear h hC hm
  go_enter Tryd.func70, Tryd.ntmps70
  go_wp2_with (first
    | (go_at_call 83; refine (CG.out _).mono ?_; rintro e w1 ⟨rfl, hb1⟩; have HR1 := Lib.hid (HH.out.below hb1); have HK1 := Lib.hid ((KeepR.refl B W).below hb1 (Nat.le_of_lt hlt)); clear hb1)
    | (go_at_call 69; refine (CP.out _ HR1.out).mono ?_; rintro e w2 ⟨rfl, hr2, hk2⟩; have HR2 := Lib.hid hr2; have HK2 := Lib.hid (HK1.out.trans hk2); clear hr2 hk2))
  go_ret
  exact ⟨rfl, HR2.out, HK2.out⟩
end Go.Proofs.YtbjcldekapipaaaDoor
