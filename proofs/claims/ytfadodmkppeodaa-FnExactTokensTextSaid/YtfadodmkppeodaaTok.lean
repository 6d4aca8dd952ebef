/-
  Lists of tokens: what it means that one lies in memory, and how an argument that is one is opened. No condition.
-/
import Derived.Test.YtfadodmkppeodaaListChoose
import Derived.Test.YtfadodmkppeodaaStrsP
namespace Go.Proofs.Ytfadodmkppeodaa
open Go.ChangeShapes Go.WideShapes Go.ChangeAt Go.RowKit Go.Deep

structure Tok where
  kind : Int
  text : ByteArray
  line : Int

/-- A slice's tokens lie in memory, three cells each, no block below lo. -/
def Toks (w : World) (lo : Nat) (ts : List Tok) (A : Option Addr) : Prop :=
  0 < ts.length → ∃ b o : Nat, A = some ⟨b, o, none⟩ ∧ lo ≤ b ∧ ∀ (i : Nat) (t : Tok), ts[i]? = some t → w.cell? ⟨b, o + i * 3, none⟩ = some (.int .i64 t.kind) ∧ w.cell? ⟨b, o + i * 3 + 1, none⟩ = some (.string t.text) ∧ w.cell? ⟨b, o + i * 3 + 2, none⟩ = some (.int .i64 t.line)

theorem Toks.keep {w w' : World} {lo : Nat} {ts : List Tok} {A : Option Addr} (h : Toks w lo ts A) (hk : KeptFrom lo w w') : Toks w' lo ts A := fun hp => by
  obtain ⟨b, o, ha, hlo, hc⟩ := h hp
  exact ⟨b, o, ha, hlo, fun i t ht => ⟨hk _ _ hlo (hc i t ht).1, hk _ _ hlo (hc i t ht).2.1, hk _ _ hlo (hc i t ht).2.2⟩⟩
theorem Toks.low {w : World} {lo lo' : Nat} {ts : List Tok} {A : Option Addr} (h : Toks w lo ts A) (hl : lo' ≤ lo) : Toks w lo' ts A := fun hp => by
  obtain ⟨b, o, ha, hlo, hc⟩ := h hp
  exact ⟨b, o, ha, by omega, hc⟩
theorem Toks.below {w w' : World} {lo : Nat} {ts : List Tok} {A : Option Addr} (h : Toks w lo ts A) (hb : Below w.heap.size w w') : Toks w' lo ts A := h.keep (KeptFrom.below hb lo)

/-- What a machine holds. -/
def TokFin (t : Tok) : Prop := t.text.size ≤ maxLen

section
variable {H : Type} {enc : TypeId × Value → H} {w : World} {base : Nat} {spare : Nat → Bool} {held : Bool}
theorem list3 {α : Type} {l : List α} (h : l.length = 3) : ∃ a b c, l = [a, b, c] := by
  match l, h with
  | [a, b, c], _ => exact ⟨a, b, c, rfl⟩
theorem open_toks {fuel : Nat} {cs : List Value} {x : DataW H × List MemPlace} (h : DataW.trod enc Try.prog w base spare held fuel 60 cs = some x) :
    ∃ (ts : List Tok) (A : Option Addr) (cap : Nat), cs = [.slice A ts.length cap] ∧ Toks w 0 ts A ∧ ts.length ≤ maxLen ∧ ∀ t ∈ ts, TokFin t := by
  rcases open_slice Try.underlying60 h with ⟨rfl, _⟩ | ⟨a, len, cap, m, n, D, Pl, rfl, hb, hl, hm, hmm, _, hx⟩
  · exact ⟨[], none, 0, rfl, fun h => absurd h (by simp), by simp, by simp⟩
  have hlm : len ≤ m := by rw [hmm]; split <;> omega
  have hC : Try.prog.cellsOf 100 = 3 := by kernel_rfl
  have k0 : Try.prog.cellsOf 2 = 1 := by kernel_rfl
  have k1 : Try.prog.cellsOf 9 = 1 := by kernel_rfl
  have each : ∀ i, i < len → ∃ t : Tok, (w.cell? (a.add (i * 3)) = some (.int .i64 t.kind) ∧ w.cell? (a.add (i * 3 + 1)) = some (.string t.text) ∧ w.cell? (a.add (i * 3 + 2)) = some (.int .i64 t.line)) ∧ TokFin t := by
    intro i hi
    obtain ⟨cs', hc, ht⟩ := hx i (by omega)
    rw [hC] at hc
    obtain ⟨y0, y1, y2, n', _, hl3, f0, f1, f2⟩ := trod_struct3 Try.underlying100 ht
    obtain ⟨_, hcl, hat⟩ := World.cells?_some hc
    obtain ⟨c0, c1, c2, rfl⟩ := list3 hcl
    clear hcl hl3
    obtain ⟨v0, e0, _, _⟩ := DataW.trod_int Try.underlying2 f0
    obtain ⟨v1, e1, _, w1⟩ := DataW.trod_string Try.underlying9 f1
    obtain ⟨v2, e2, _, _⟩ := DataW.trod_int Try.underlying2 f2
    have a0 := hat 0 (by omega)
    have a1 := hat 1 (by omega)
    have a2 := hat 2 (by omega)
    simp [k0, k1] at e0 e1 e2
    subst e0 e1 e2
    simp only [Go.Deep.add_add] at a0 a1 a2
    exact ⟨⟨v0, v1, v2⟩, ⟨a0, a1, a2⟩, w1⟩
  obtain ⟨ts, hts, hp⟩ := list_choose len each
  refine ⟨ts, some a, cap, by rw [hts], fun hpos => ?_, by omega, fun t ht => ?_⟩
  · have h0 := (hp 0 _ (List.getElem?_eq_getElem hpos)).1.1
    rw [Nat.zero_mul] at h0
    have ha : a.add 0 = a := by unfold Addr.add; simp
    rw [ha] at h0
    have hpl := plain_cell h0
    refine ⟨a.block, a.off, by rw [← hpl], Nat.zero_le _, fun i t ht => ?_⟩
    have h1 := (hp i t ht).1
    rw [hpl, add_plain0, add_plain0, add_plain0] at h1
    exact h1
  · obtain ⟨i, hi⟩ := List.getElem?_of_mem ht
    exact (hp i t hi).2
end

end Go.Proofs.Ytfadodmkppeodaa
