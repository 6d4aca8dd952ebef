/-
  Src, SrcPick, SrcMore, Long: in one text.
-/
import Derived.Test.YtoeofhhmkkpjbaaBase
import Derived.IntWalk
import Derived.Laws.BitsLemmas
namespace Go.Proofs.Ytoeofhhmkkpjbaa
open Go.ChangeShapes Go.WideShapes Go.ChangeAt Go.RowKit

/-- Only block B is another one. -/
def OnlyB (B : Nat) (W W' : World) : Prop := Below B W W' ∧ W'.heap.size = W.heap.size ∧ ∀ k, k ≠ B → W'.heap[k]? = W.heap[k]?
theorem OnlyB.refl (B : Nat) (W : World) : OnlyB B W W := ⟨Below.refl _ _, rfl, fun _ _ => rfl⟩
theorem OnlyB.trans {B : Nat} {a b c : World} (h : OnlyB B a b) (k : OnlyB B b c) : OnlyB B a c := ⟨h.1.trans k.1, k.2.1.trans h.2.1, fun i hi => (k.2.2 i hi).trans (h.2.2 i hi)⟩
theorem OnlyB.drewN {B : Nat} {a b : World} (h : OnlyB B a b) (n : Nat) : OnlyB B a (b.drewN n) := ⟨⟨h.1.os, h.1.tape, h.1.output, h.1.size, h.1.block⟩, h.2.1, h.2.2⟩
theorem OnlyB.cell {B : Nat} {a b : World} (h : OnlyB B a b) {x : Addr} (hx : x.block ≠ B) : b.cell? x = a.cell? x := by
  simp only [World.cell?, h.2.2 x.block hx]
theorem OnlyB.setCell {B : Nat} {a b : World} (h : OnlyB B a b) (o : Nat) (v : Value) : OnlyB B a (b.setCell ⟨B, o, none⟩ v) :=
  ⟨h.1.setCell (Nat.le_refl _) v, by rw [← h.2.1]; simp [World.setCell], fun k hk => by rw [Below.heap_setCell _ _ _ _ (fun e => hk e)]; exact h.2.2 k hk⟩

/-- A drawing source in block B, so many bytes read. -/
structure SrcAt (W : World) (B n : Nat) (sv : Value) : Prop where
  code : W.cell? ⟨B, 0, none⟩ = some sv
  at_ : W.cell? ⟨B, 1, none⟩ = some (.int .i64 n)
  seed : ∃ z : Int, W.cell? ⟨B, 2, none⟩ = some (.int .u64 z) ∧ 0 ≤ z ∧ z < 18446744073709551616
  f1 : W.frozen? ⟨B, 1, none⟩ = false
  f2 : W.frozen? ⟨B, 2, none⟩ = false
  bytes : (∃ (R : Option Addr) (c : Nat), sv = .slice R 0 c) ∨ ∃ (b o m c : Nat), sv = .slice (some ⟨b, o, none⟩) m c ∧ (0 < m → b ≠ B) ∧ m ≤ 9223372036854775807 ∧ ∀ i, i < m → ∃ x : Int, 0 ≤ x ∧ x < 256 ∧ W.cell? ⟨b, o + i, none⟩ = some (.int .u8 x)

/-- What next leaves. -/
def NextPost (B n : Nat) (sv : Value) (W : World) (e : Ending) (W' : World) : Prop := ∃ r : Int, e = .returned (.int .i64 r) ∧ 0 ≤ r ∧ r ≤ 255 ∧ SrcAt W' B (n + 1) sv ∧ OnlyB B W W'

theorem wrapU (x : Int) : 0 ≤ IntKind.u64.wrap x ∧ IntKind.u64.wrap x < 18446744073709551616 := by
  rw [IntKind.wrap_u64]
  omega
theorem u64_and255 (x : Int) (h0 : 0 ≤ x) (h1 : x < 18446744073709551616) : bits .and .u64 x 255 = x % 256 := bits_mask .u64 64 (by decide) (fun n a b => by have e : (2 : Int) ^ 64 = 18446744073709551616 := (by decide); rw [IntKind.wrap_u64]; omega) 8 (by decide) x h0 (by have e : (2 : Int) ^ 64 = 18446744073709551616 := (by decide); omega)

theorem SrcAt.step {W W' : World} {B n : Nat} {sv : Value} (h : SrcAt W B n sv) (S : Int) (hS0 : 0 ≤ S) (hS1 : S < 18446744073709551616) (q q' : Nat) (hW : W' = (((W.drewN q).setCell ⟨B, 1, none⟩ (.int .i64 ((n : Int) + 1))).setCell ⟨B, 2, none⟩ (.int .u64 S)).drewN q') :
    SrcAt W' B (n + 1) sv ∧ OnlyB B W W' := by
  subst hW
  obtain ⟨z, h2, _, _⟩ := h.seed
  have hO : OnlyB B W ((((W.drewN q).setCell ⟨B, 1, none⟩ (.int .i64 ((n : Int) + 1))).setCell ⟨B, 2, none⟩ (.int .u64 S)).drewN q') := ((((OnlyB.refl B W).drewN q).setCell 1 _).setCell 2 _).drewN q'
  have c1 : (W.drewN q).cell? ⟨B, 1, none⟩ = some (.int .i64 (n : Int)) := h.at_
  have c2 : (W.drewN q).cell? ⟨B, 2, none⟩ = some (.int .u64 z) := h2
  have c0 : (W.drewN q).cell? ⟨B, 0, none⟩ = some sv := h.code
  refine ⟨⟨?_, ?_, ⟨S, ?_, hS0, hS1⟩, ?_, ?_, ?_⟩, hO⟩
  · show (((W.drewN q).setCell ⟨B, 1, none⟩ (.int .i64 ((n : Int) + 1))).setCell ⟨B, 2, none⟩ (.int .u64 S)).cell? ⟨B, 0, none⟩ = _
    rw [World.cell?_setCell_other _ _ _ _ (by simp), World.cell?_setCell_other _ _ _ _ (by simp)]
    exact c0
  · show (((W.drewN q).setCell ⟨B, 1, none⟩ (.int .i64 ((n : Int) + 1))).setCell ⟨B, 2, none⟩ (.int .u64 S)).cell? ⟨B, 1, none⟩ = _
    rw [World.cell?_setCell_other _ _ _ _ (by simp), World.cell?_setCell_same _ _ _ c1]
    rfl
  · show (((W.drewN q).setCell ⟨B, 1, none⟩ (.int .i64 ((n : Int) + 1))).setCell ⟨B, 2, none⟩ (.int .u64 S)).cell? ⟨B, 2, none⟩ = _
    rw [World.cell?_setCell_same _ _ _ (by rw [World.cell?_setCell_other _ _ _ _ (by simp)]; exact c2)]
  · have := h.f1
    simpa using this
  · have := h.f2
    simpa using this
  · rcases h.bytes with hb | ⟨b, o, m, c, e1, e2, e3, e4⟩
    · exact Or.inl hb
    · refine Or.inr ⟨b, o, m, c, e1, e2, e3, fun i hi => ?_⟩
      obtain ⟨x, x0, x1, x2⟩ := e4 i hi
      exact ⟨x, x0, x1, (hO.cell (e2 (by omega))).trans x2⟩

end Go.Proofs.Ytoeofhhmkkpjbaa

namespace Go.Proofs.Ytoeofhhmkkpjbaa
open Go.ChangeShapes Go.WideShapes Go.ChangeAt Go.RowKit

/-- What pick leaves. -/
def PickPost (B n : Nat) (sv : Value) (k : Int) (W : World) (e : Ending) (W' : World) : Prop := ∃ (r : Int) (n' : Nat), e = .returned (.int .i64 r) ∧ 0 ≤ r ∧ (r < k ∨ (r = 0 ∧ k ≤ 1)) ∧ n' ≤ n + 2 ∧ SrcAt W' B n' sv ∧ OnlyB B W W'

/-- What one leaves. -/
def OnePost (B n : Nat) (sv : Value) (W : World) (e : Ending) (W' : World) : Prop := ∃ (r : Bool) (n' : Nat), e = .returned (.bool r) ∧ n' ≤ n + 2 ∧ SrcAt W' B n' sv ∧ OnlyB B W W'
/-- What text leaves: one of the texts. -/
def TextPost (B n m : Nat) (f : Nat → ByteArray) (sv : Value) (W : World) (e : Ending) (W' : World) : Prop := ∃ (i n' : Nat), e = .returned (.string (f i)) ∧ i < m ∧ n' ≤ n + 2 ∧ SrcAt W' B n' sv ∧ OnlyB B W W'
end Go.Proofs.Ytoeofhhmkkpjbaa

namespace Go.Proofs.Ytoeofhhmkkpjbaa
open Go.ChangeShapes Go.WideShapes Go.ChangeAt Go.RowKit

/-- Block B may be another one; what lay in the other blocks lies there still. -/
def KeepB (B : Nat) (W W' : World) : Prop := Below B W W' ∧ W.heap.size ≤ W'.heap.size ∧ ∀ k, k ≠ B → k < W.heap.size → W'.heap[k]? = W.heap[k]?
theorem OnlyB.keep {B : Nat} {W W' : World} (h : OnlyB B W W') : KeepB B W W' := ⟨h.1, Nat.le_of_eq h.2.1.symm, fun k hk _ => h.2.2 k hk⟩
theorem KeepB.refl (B : Nat) (W : World) : KeepB B W W := (OnlyB.refl B W).keep
theorem KeepB.trans {B : Nat} {a b c : World} (h : KeepB B a b) (k : KeepB B b c) : KeepB B a c :=
  ⟨h.1.trans k.1, Nat.le_trans h.2.1 k.2.1, fun i hi hl => (k.2.2 i hi (Nat.lt_of_lt_of_le hl h.2.1)).trans (h.2.2 i hi hl)⟩
theorem KeepB.drewN {B : Nat} {a b : World} (h : KeepB B a b) (n : Nat) : KeepB B a (b.drewN n) := ⟨⟨h.1.os, h.1.tape, h.1.output, h.1.size, h.1.block⟩, h.2.1, h.2.2⟩
theorem KeepB.drew {B : Nat} {a b : World} (h : KeepB B a b) : KeepB B a b.drew := h.drewN 1
theorem KeepB.below {B : Nat} {a b c : World} (h : KeepB B a b) (hb : Below b.heap.size b c) (hB : B ≤ b.heap.size) : KeepB B a c :=
  ⟨h.1.trans (hb.mono hB), Nat.le_trans h.2.1 hb.size, fun k hk hl => (hb.block k (Nat.lt_of_lt_of_le hl h.2.1)).trans (h.2.2 k hk hl)⟩
theorem KeepB.cell {B : Nat} {a b : World} (h : KeepB B a b) {x : Addr} {v : Value} (hx : x.block ≠ B) (hc : a.cell? x = some v) : b.cell? x = some v := by
  have hlt : x.block < a.heap.size := by
    by_cases hl : x.block < a.heap.size
    · exact hl
    · have hn : a.heap[x.block]? = none := Array.getElem?_eq_none (by omega)
      simp [World.cell?, hn] at hc
  rw [← hc]
  simp only [World.cell?, h.2.2 x.block hx hlt]

/-- A source is one still, behind whatever lays only new memory. -/
theorem SrcAt.below {W W' : World} {B n : Nat} {sv : Value} (h : SrcAt W B n sv) (hb : Below W.heap.size W W') : SrcAt W' B n sv := by
  obtain ⟨z, h2, z0, z1⟩ := h.seed
  have hlt : B < W.heap.size := by
    by_cases hl : B < W.heap.size
    · exact hl
    · have hn : W.heap[B]? = none := Array.getElem?_eq_none (by omega)
      have := h.code
      simp [World.cell?, hn] at this
  refine ⟨keepCell hb h.code, keepCell hb h.at_, ⟨z, keepCell hb h2, z0, z1⟩, ((bcell hb).2 _ _ hlt).trans h.f1, ((bcell hb).2 _ _ hlt).trans h.f2, ?_⟩
  rcases h.bytes with e | ⟨b, o, m, c, e1, e2, e3, e4⟩
  · exact Or.inl e
  · refine Or.inr ⟨b, o, m, c, e1, e2, e3, fun i hi => ?_⟩
    obtain ⟨x, x0, x1, x2⟩ := e4 i hi
    exact ⟨x, x0, x1, keepCell hb x2⟩
theorem SrcAt.lt {W : World} {B n : Nat} {sv : Value} (h : SrcAt W B n sv) : B < W.heap.size := by
  by_cases hl : B < W.heap.size
  · exact hl
  · have hn : W.heap[B]? = none := Array.getElem?_eq_none (by omega)
    have := h.code
    simp [World.cell?, hn] at this

/-- The bytes that a source reads. -/
def CodeOk (W : World) (sv : Value) : Prop := (∃ (R : Option Addr) (c : Nat), sv = .slice R 0 c) ∨ ∃ (b o m c : Nat), sv = .slice (some ⟨b, o, none⟩) m c ∧ (0 < m → b < W.heap.size) ∧ m ≤ 9223372036854775807 ∧ ∀ i, i < m → ∃ x : Int, 0 ≤ x ∧ x < 256 ∧ W.cell? ⟨b, o + i, none⟩ = some (.int .u8 x)

/-- What among leaves: one of the numbers. -/
def AmongPost (B n m : Nat) (f : Nat → Int) (sv : Value) (W : World) (e : Ending) (W' : World) : Prop := ∃ (i n' : Nat), e = .returned (.int .i64 (f i)) ∧ i < m ∧ n' ≤ n + 2 ∧ SrcAt W' B n' sv ∧ OnlyB B W W'
end Go.Proofs.Ytoeofhhmkkpjbaa

namespace Go.Proofs.Ytoeofhhmkkpjbaa
open Go.ChangeShapes Go.WideShapes Go.ChangeAt Go.RowKit

theorem long_any (R0 : Option Addr) (m0 c0 : Nat) (R1 : Option Addr) (m1 c1 : Nat) : ∃ v : Bool, Hid (∀ W : World, Calls Try.prog 11 #[.slice R0 m0 c0, .slice R1 m1 c1] W fun e w' => e = .returned (.bool v) ∧ W = w') := by
  by_cases h0 : (1048576 : Int) < (m0 : Int)
  · refine ⟨true, Lib.hid fun W => ?_⟩
    go_enter Try.func11, Try.ntmps11
    go_wp2
    go_ret
    exact ⟨rfl, rfl⟩
  · by_cases h1 : (1048576 : Int) < (m1 : Int)
    · refine ⟨true, Lib.hid fun W => ?_⟩
      go_enter Try.func11, Try.ntmps11
      go_wp2
      go_ret
      exact ⟨rfl, rfl⟩
    · refine ⟨false, Lib.hid fun W => ?_⟩
      go_enter Try.func11, Try.ntmps11
      go_wp2
      go_ret
      exact ⟨rfl, rfl⟩
theorem CodeOk.keep {W W' : World} {sv : Value} (h : CodeOk W sv) (hb : Below W.heap.size W W') : CodeOk W' sv := by
  rcases h with h | ⟨b, o, m, c, e1, e2, e3, e4⟩
  · exact Or.inl h
  · have hsz := hb.size
    exact Or.inr ⟨b, o, m, c, e1, fun k => by have := e2 k; omega, e3, fun i hi => by
      obtain ⟨x, x0, x1, x2⟩ := e4 i hi
      exact ⟨x, x0, x1, keepCell hb x2⟩⟩
/-- A source made anew and used: only new memory is other. -/
theorem KeepB.below0 {W W1 W2 : World} {B : Nat} (h1 : Below W.heap.size W W1) (h2 : KeepB B W1 W2) (hB : W.heap.size ≤ B) : Below W.heap.size W W2 := h1.trans (h2.1.mono hB)
end Go.Proofs.Ytoeofhhmkkpjbaa

