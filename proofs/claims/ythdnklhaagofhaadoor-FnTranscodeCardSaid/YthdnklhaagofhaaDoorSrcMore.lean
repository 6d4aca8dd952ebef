/-
  Walks of the drawing source's making and among; and what is kept while a drawing function also makes memory.
-/
import Derived.Test.YthdnklhaagofhaaDoorSrcPick
namespace Go.Proofs.YthdnklhaagofhaaDoor
open Go.ChangeShapes Go.WideShapes Go.ChangeAt Go.RowKit

/-- Block B may be another one; what lay in the other blocks lies there still. -/
def KeepB (B : Nat) (W W' : World) : Prop := Below B W W' ∧ W.heap.size ≤ W'.heap.size ∧ ∀ k, k ≠ B → k < W.heap.size → W'.heap[k]? = W.heap[k]?
theorem OnlyB.keep {B : Nat} {W W' : World} (h : OnlyB B W W') : KeepB B W W' := ⟨h.1, Nat.le_of_eq h.2.1.symm, fun k hk _ => h.2.2 k hk⟩
theorem KeepB.refl (B : Nat) (W : World) : KeepB B W W := (OnlyB.refl B W).keep
theorem KeepB.trans {B : Nat} {a b c : World} (h : KeepB B a b) (k : KeepB B b c) : KeepB B a c :=
  ⟨h.1.trans k.1, Nat.le_trans h.2.1 k.2.1, fun i hi hl => (k.2.2 i hi (Nat.lt_of_lt_of_le hl h.2.1)).trans (h.2.2 i hi hl)⟩
theorem KeepB.drewN {B : Nat} {a b : World} (h : KeepB B a b) (n : Nat) : KeepB B a (b.drewN n) := ⟨⟨h.1.os, h.1.tape, h.1.output, h.1.size, h.1.block⟩, h.2.1, h.2.2⟩
theorem KeepB.drew {B : Nat} {a b : World} (h : KeepB B a b) : KeepB B a b.drew := h.drewN 1
theorem KeepB.below {B : Nat} {a b c : World} (h : KeepB B a b) (hb : Below b.heap.size b c) (hB : B ≤ b.heap.size) : KeepB B a c :=
  ⟨h.1.trans (hb.mono hB), Nat.le_trans h.2.1 hb.size, fun k hk hl => (hb.block k (Nat.lt_of_lt_of_le hl h.2.1)).trans (h.2.2 k hk hl)⟩
theorem KeepB.cell {B : Nat} {a b : World} (h : KeepB B a b) {x : Addr} {v : Value} (hx : x.block ≠ B) (hc : a.cell? x = some v) : b.cell? x = some v := by
  have hlt : x.block < a.heap.size := by
    by_cases hl : x.block < a.heap.size
    · exact hl
    · have hn : a.heap[x.block]? = none := Array.getElem?_eq_none (by omega)
      simp [World.cell?, hn] at hc
  rw [← hc]
  simp only [World.cell?, h.2.2 x.block hx hlt]

/-- A source is one still, behind whatever lays only new memory. -/
theorem SrcAt.below {W W' : World} {B n : Nat} {sv : Value} (h : SrcAt W B n sv) (hb : Below W.heap.size W W') : SrcAt W' B n sv := by
  obtain ⟨z, h2, z0, z1⟩ := h.seed
  have hlt : B < W.heap.size := by
    by_cases hl : B < W.heap.size
    · exact hl
    · have hn : W.heap[B]? = none := Array.getElem?_eq_none (by omega)
      have := h.code
      simp [World.cell?, hn] at this
  refine ⟨keepCell hb h.code, keepCell hb h.at_, ⟨z, keepCell hb h2, z0, z1⟩, ((bcell hb).2 _ _ hlt).trans h.f1, ((bcell hb).2 _ _ hlt).trans h.f2, ?_⟩
  rcases h.bytes with e | ⟨b, o, m, c, e1, e2, e3, e4⟩
  · exact Or.inl e
  · refine Or.inr ⟨b, o, m, c, e1, e2, e3, fun i hi => ?_⟩
    obtain ⟨x, x0, x1, x2⟩ := e4 i hi
    exact ⟨x, x0, x1, keepCell hb x2⟩
theorem SrcAt.lt {W : World} {B n : Nat} {sv : Value} (h : SrcAt W B n sv) : B < W.heap.size := by
  by_cases hl : B < W.heap.size
  · exact hl
  · have hn : W.heap[B]? = none := Array.getElem?_eq_none (by omega)
    have := h.code
    simp [World.cell?, hn] at this

/-- The bytes that a source reads. -/
def CodeOk (W : World) (sv : Value) : Prop := (∃ (R : Option Addr) (c : Nat), sv = .slice R 0 c) ∨ ∃ (b o m c : Nat), sv = .slice (some ⟨b, o, none⟩) m c ∧ (0 < m → b < W.heap.size) ∧ m ≤ 9223372036854775807 ∧ ∀ i, i < m → ∃ x : Int, 0 ≤ x ∧ x < 256 ∧ W.cell? ⟨b, o + i, none⟩ = some (.int .u8 x)

/-- A new source. -/
theorem from_any (sv : Value) (W : World) (h : CodeOk W sv) :
    Calls Tryd.prog 53 #[sv] W fun e W' => e = .returned (.pointer (some ⟨W.heap.size, 0, none⟩)) ∧ SrcAt W' W.heap.size 0 sv ∧ Below W.heap.size W W' := by
  rcases h with ⟨R, c, rfl⟩ | ⟨b, o, m, c, rfl, hb, hm, hx⟩
  · go_enter Tryd.func53, Tryd.ntmps53
    go_wp2
    go_ret
    exact ⟨rfl, ⟨by simp, by simp, ⟨0, by simp, by omega, by omega⟩, by simp, by simp, Or.inl ⟨R, c, rfl⟩⟩, below1 _ _⟩
  · have HX := Lib.hid hx
    clear hx
    go_enter Tryd.func53, Tryd.ntmps53
    go_wp2
    go_ret
    refine ⟨rfl, ⟨by simp, by simp, ⟨0, by simp, by omega, by omega⟩, by simp, by simp, Or.inr ⟨b, o, m, c, rfl, fun h0 => by have := hb h0; omega, hm, fun i hi => ?_⟩⟩, below1 _ _⟩
    obtain ⟨x, x0, x1, x2⟩ := HX.out i hi
    exact ⟨x, x0, x1, keepCell (below1 _ _) x2⟩

/-- What among leaves: one of the numbers. -/
def AmongPost (B n m : Nat) (f : Nat → Int) (sv : Value) (W : World) (e : Ending) (W' : World) : Prop := ∃ (i n' : Nat), e = .returned (.int .i64 (f i)) ∧ i < m ∧ n' ≤ n + 2 ∧ SrcAt W' B n' sv ∧ OnlyB B W W'
theorem among_of (B n : Nat) (hn : n ≤ 900000) (sv : Value) (b m c : Nat) (hm : 1 ≤ m) (hm2 : m ≤ 1000) (f : Nat → Int) (hbB : b ≠ B) (W : World) (hf : ∀ i, i < m → W.cell? ⟨b, i, none⟩ = some (.int .i64 (f i))) (h : SrcAt W B n sv) :
    Calls Tryd.prog 93 #[.pointer (some ⟨B, 0, none⟩), .slice (some ⟨b, 0, none⟩) m c] W (AmongPost B n m f sv W) := by
  have C := Lib.hid (pick_any B n hn sv (m : Int) (by omega) W h)
  have HF := Lib.hid hf
  clear h hf
  go_enter Tryd.func93, Tryd.ntmps93
  go_wp2_with fail
  go_at_call 92
  refine C.out.mono ?_
  rintro e W1 ⟨r, n', rfl, r0, r1, hn', hs1, ho1⟩
  obtain ⟨i, rfl⟩ := Int.eq_ofNat_of_zero_le r0
  have him : i < m := by omega
  have hii : (i : Int) < (m : Int) := by omega
  have hc := (ho1.cell (x := ⟨b, i, none⟩) hbB).trans (HF.out i him)
  go_wp2_with fail
  go_ret
  exact ⟨i, n', rfl, him, hn', hs1, ho1⟩
end Go.Proofs.YthdnklhaagofhaaDoor
