/-
  The walk of the drawing source's next: a number of a byte's range; only the source's own block changes.
-/
import Derived.Test.YthdnklhaagofhaaDoorBase
import Derived.IntWalk
import Derived.Laws.BitsLemmas
namespace Go.Proofs.YthdnklhaagofhaaDoor
open Go.ChangeShapes Go.WideShapes Go.ChangeAt Go.RowKit

/-- Only block B is another one. -/
def OnlyB (B : Nat) (W W' : World) : Prop := Below B W W' ∧ W'.heap.size = W.heap.size ∧ ∀ k, k ≠ B → W'.heap[k]? = W.heap[k]?
theorem OnlyB.refl (B : Nat) (W : World) : OnlyB B W W := ⟨Below.refl _ _, rfl, fun _ _ => rfl⟩
theorem OnlyB.trans {B : Nat} {a b c : World} (h : OnlyB B a b) (k : OnlyB B b c) : OnlyB B a c := ⟨h.1.trans k.1, k.2.1.trans h.2.1, fun i hi => (k.2.2 i hi).trans (h.2.2 i hi)⟩
theorem OnlyB.drewN {B : Nat} {a b : World} (h : OnlyB B a b) (n : Nat) : OnlyB B a (b.drewN n) := ⟨⟨h.1.os, h.1.tape, h.1.output, h.1.size, h.1.block⟩, h.2.1, h.2.2⟩
theorem OnlyB.cell {B : Nat} {a b : World} (h : OnlyB B a b) {x : Addr} (hx : x.block ≠ B) : b.cell? x = a.cell? x := by
  simp only [World.cell?, h.2.2 x.block hx]
theorem OnlyB.setCell {B : Nat} {a b : World} (h : OnlyB B a b) (o : Nat) (v : Value) : OnlyB B a (b.setCell ⟨B, o, none⟩ v) :=
  ⟨h.1.setCell (Nat.le_refl _) v, by rw [← h.2.1]; simp [World.setCell], fun k hk => by rw [Below.heap_setCell _ _ _ _ (fun e => hk e)]; exact h.2.2 k hk⟩

/-- A drawing source in block B, so many bytes read. -/
structure SrcAt (W : World) (B n : Nat) (sv : Value) : Prop where
  code : W.cell? ⟨B, 0, none⟩ = some sv
  at_ : W.cell? ⟨B, 1, none⟩ = some (.int .i64 n)
  seed : ∃ z : Int, W.cell? ⟨B, 2, none⟩ = some (.int .u64 z) ∧ 0 ≤ z ∧ z < 18446744073709551616
  f1 : W.frozen? ⟨B, 1, none⟩ = false
  f2 : W.frozen? ⟨B, 2, none⟩ = false
  bytes : (∃ (R : Option Addr) (c : Nat), sv = .slice R 0 c) ∨ ∃ (b o m c : Nat), sv = .slice (some ⟨b, o, none⟩) m c ∧ (0 < m → b ≠ B) ∧ m ≤ 9223372036854775807 ∧ ∀ i, i < m → ∃ x : Int, 0 ≤ x ∧ x < 256 ∧ W.cell? ⟨b, o + i, none⟩ = some (.int .u8 x)

/-- What next leaves. -/
def NextPost (B n : Nat) (sv : Value) (W : World) (e : Ending) (W' : World) : Prop := ∃ r : Int, e = .returned (.int .i64 r) ∧ 0 ≤ r ∧ r ≤ 255 ∧ SrcAt W' B (n + 1) sv ∧ OnlyB B W W'

theorem wrapU (x : Int) : 0 ≤ IntKind.u64.wrap x ∧ IntKind.u64.wrap x < 18446744073709551616 := by
  rw [IntKind.wrap_u64]
  omega
theorem u64_and255 (x : Int) (h0 : 0 ≤ x) (h1 : x < 18446744073709551616) : bits .and .u64 x 255 = x % 256 := bits_mask .u64 64 (by decide) (fun n a b => by have e : (2 : Int) ^ 64 = 18446744073709551616 := (by decide); rw [IntKind.wrap_u64]; omega) 8 (by decide) x h0 (by have e : (2 : Int) ^ 64 = 18446744073709551616 := (by decide); omega)

theorem SrcAt.step {W W' : World} {B n : Nat} {sv : Value} (h : SrcAt W B n sv) (S : Int) (hS0 : 0 ≤ S) (hS1 : S < 18446744073709551616) (q q' : Nat) (hW : W' = (((W.drewN q).setCell ⟨B, 1, none⟩ (.int .i64 ((n : Int) + 1))).setCell ⟨B, 2, none⟩ (.int .u64 S)).drewN q') :
    SrcAt W' B (n + 1) sv ∧ OnlyB B W W' := by
  subst hW
  obtain ⟨z, h2, _, _⟩ := h.seed
  have hO : OnlyB B W ((((W.drewN q).setCell ⟨B, 1, none⟩ (.int .i64 ((n : Int) + 1))).setCell ⟨B, 2, none⟩ (.int .u64 S)).drewN q') := ((((OnlyB.refl B W).drewN q).setCell 1 _).setCell 2 _).drewN q'
  have c1 : (W.drewN q).cell? ⟨B, 1, none⟩ = some (.int .i64 (n : Int)) := h.at_
  have c2 : (W.drewN q).cell? ⟨B, 2, none⟩ = some (.int .u64 z) := h2
  have c0 : (W.drewN q).cell? ⟨B, 0, none⟩ = some sv := h.code
  refine ⟨⟨?_, ?_, ⟨S, ?_, hS0, hS1⟩, ?_, ?_, ?_⟩, hO⟩
  · show (((W.drewN q).setCell ⟨B, 1, none⟩ (.int .i64 ((n : Int) + 1))).setCell ⟨B, 2, none⟩ (.int .u64 S)).cell? ⟨B, 0, none⟩ = _
    rw [World.cell?_setCell_other _ _ _ _ (by simp), World.cell?_setCell_other _ _ _ _ (by simp)]
    exact c0
  · show (((W.drewN q).setCell ⟨B, 1, none⟩ (.int .i64 ((n : Int) + 1))).setCell ⟨B, 2, none⟩ (.int .u64 S)).cell? ⟨B, 1, none⟩ = _
    rw [World.cell?_setCell_other _ _ _ _ (by simp), World.cell?_setCell_same _ _ _ c1]
    rfl
  · show (((W.drewN q).setCell ⟨B, 1, none⟩ (.int .i64 ((n : Int) + 1))).setCell ⟨B, 2, none⟩ (.int .u64 S)).cell? ⟨B, 2, none⟩ = _
    rw [World.cell?_setCell_same _ _ _ (by rw [World.cell?_setCell_other _ _ _ _ (by simp)]; exact c2)]
  · have := h.f1
    simpa using this
  · have := h.f2
    simpa using this
  · rcases h.bytes with hb | ⟨b, o, m, c, e1, e2, e3, e4⟩
    · exact Or.inl hb
    · refine Or.inr ⟨b, o, m, c, e1, e2, e3, fun i hi => ?_⟩
      obtain ⟨x, x0, x1, x2⟩ := e4 i hi
      exact ⟨x, x0, x1, (hO.cell (e2 (by omega))).trans x2⟩

theorem next_nil (B n : Nat) (hn : n ≤ 1000000) (R : Option Addr) (c : Nat) (W : World) (h : SrcAt W B n (.slice R 0 c)) :
    Calls Tryd.prog 135 #[.pointer (some ⟨B, 0, none⟩)] W (NextPost B n (.slice R 0 c) W) := by
  have h0 := h.code
  have h1 := h.at_
  obtain ⟨z, h2, z0, z1⟩ := h.seed
  have f1 := h.f1
  have f2 := h.f2
  have HH := Lib.hid h
  clear h
  obtain ⟨S, hS⟩ : ∃ S, IntKind.u64.wrap (IntKind.u64.wrap (IntKind.u64.wrap (z * 6364136223846793005)) + 1442695040888963407) = S := ⟨_, rfl⟩
  have hSb := wrapU (IntKind.u64.wrap (IntKind.u64.wrap (z * 6364136223846793005)) + 1442695040888963407)
  rw [hS] at hSb
  have ha := u64_and255 (S / 1099511627776) (by omega) (by omega)
  go_enter Tryd.func135, Tryd.ntmps135
  go_wp2_with fail
  go_quiet (fail)
  go_wp2_with fail
  go_quiet (fail)
  go_wp2_with fail
  go_ret
  obtain ⟨k1, k2⟩ := HH.out.step S hSb.1 hSb.2 _ _ rfl
  exact ⟨_, rfl, by omega, by omega, k1, k2⟩

theorem next_past (B n : Nat) (hn : n ≤ 1000000) (b o m c : Nat) (hnm : m ≤ n) (W : World) (h : SrcAt W B n (.slice (some ⟨b, o, none⟩) m c)) :
    Calls Tryd.prog 135 #[.pointer (some ⟨B, 0, none⟩)] W (NextPost B n (.slice (some ⟨b, o, none⟩) m c) W) := by
  have h0 := h.code
  have h1 := h.at_
  obtain ⟨z, h2, z0, z1⟩ := h.seed
  have f1 := h.f1
  have f2 := h.f2
  have HH := Lib.hid h
  clear h
  have n1 : ¬ n < m := by omega
  have n2 : ¬ (n : Int) < (m : Int) := by omega
  have n3 : ¬ (n : Int) + 1 ≤ (m : Int) := by omega
  have n4 : decide ((n : Int) + 1 ≤ (m : Int)) = false := decide_eq_false n3
  obtain ⟨S, hS⟩ : ∃ S, IntKind.u64.wrap (IntKind.u64.wrap (IntKind.u64.wrap (z * 6364136223846793005)) + 1442695040888963407) = S := ⟨_, rfl⟩
  have hSb := wrapU (IntKind.u64.wrap (IntKind.u64.wrap (z * 6364136223846793005)) + 1442695040888963407)
  rw [hS] at hSb
  have ha := u64_and255 (S / 1099511627776) (by omega) (by omega)
  go_enter Tryd.func135, Tryd.ntmps135
  go_wp2_with fail
  go_quiet (fail)
  go_wp2_with fail
  go_quiet (fail)
  go_wp2_with fail
  go_ret
  obtain ⟨k1, k2⟩ := HH.out.step S hSb.1 hSb.2 _ _ rfl
  exact ⟨_, rfl, by omega, by omega, k1, k2⟩

theorem next_in (B n : Nat) (hn : n ≤ 1000000) (b o m c : Nat) (hnm : n < m) (_hm : m ≤ 9223372036854775807) (x : Int) (x0 : 0 ≤ x) (x1 : x < 256) (W : World) (hx : W.cell? ⟨b, o + n, none⟩ = some (.int .u8 x)) (_hbB : b ≠ B) (h : SrcAt W B n (.slice (some ⟨b, o, none⟩) m c)) :
    Calls Tryd.prog 135 #[.pointer (some ⟨B, 0, none⟩)] W (NextPost B n (.slice (some ⟨b, o, none⟩) m c) W) := by
  have h0 := h.code
  have h1 := h.at_
  obtain ⟨z, h2, z0, z1⟩ := h.seed
  have f1 := h.f1
  have f2 := h.f2
  have HH := Lib.hid h
  clear h
  have n2 : (n : Int) < (m : Int) := by omega
  have n3 : (n : Int) + 1 ≤ (m : Int) := by omega
  have n4 : decide ((n : Int) + 1 ≤ (m : Int)) = true := decide_eq_true n3
  obtain ⟨S, hS⟩ : ∃ S, IntKind.u64.wrap (IntKind.u64.wrap (IntKind.u64.wrap (z * 6364136223846793005) + x) + 1442695040888963407) = S := ⟨_, rfl⟩
  have hSb := wrapU (IntKind.u64.wrap (IntKind.u64.wrap (z * 6364136223846793005) + x) + 1442695040888963407)
  rw [hS] at hSb
  go_enter Tryd.func135, Tryd.ntmps135
  go_wp2_with fail
  go_quiet (fail)
  go_wp2_with fail
  go_quiet (fail)
  go_wp2_with fail
  go_quiet (fail)
  go_wp2_with fail
  go_ret
  obtain ⟨k1, k2⟩ := HH.out.step S hSb.1 hSb.2 _ _ rfl
  exact ⟨_, rfl, by omega, by omega, k1, k2⟩

theorem next_any (B n : Nat) (hn : n ≤ 1000000) (sv : Value) (W : World) (h : SrcAt W B n sv) :
    Calls Tryd.prog 135 #[.pointer (some ⟨B, 0, none⟩)] W (NextPost B n sv W) := by
  rcases h.bytes with ⟨R, c, rfl⟩ | ⟨b, o, m, c, rfl, e2, e3, e4⟩
  · exact next_nil B n hn R c W h
  · by_cases hnm : n < m
    · obtain ⟨x, x0, x1, x2⟩ := e4 n hnm
      exact next_in B n hn b o m c hnm e3 x x0 x1 W x2 (e2 (by omega)) h
    · exact next_past B n hn b o m c (by omega) W h
end Go.Proofs.YthdnklhaagofhaaDoor
