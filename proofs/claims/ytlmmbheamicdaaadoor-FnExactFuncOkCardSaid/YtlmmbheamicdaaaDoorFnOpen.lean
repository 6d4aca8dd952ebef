/-
  An argument that is a function type, opened. No condition.
-/
import Derived.Test.YtlmmbheamicdaaaDoorTyOpen
import Derived.Test.YtlmmbheamicdaaaDoorStFn
namespace Go.Proofs.YtlmmbheamicdaaaDoor
open Go.ChangeShapes Go.WideShapes Go.ChangeAt Go.RowKit Go.Deep

section
variable {H : Type} {enc : TypeId × Value → H} {w : World} {base : Nat} {spare : Nat → Bool} {held : Bool}
theorem list2 {α : Type} {l : List α} (h : l.length = 2) : ∃ a b, l = [a, b] := by
  match l, h with
  | [a, b], _ => exact ⟨a, b, rfl⟩
theorem list3' {α : Type} {l : List α} (h : l.length = 3) : ∃ a b c, l = [a, b, c] := by
  match l, h with
  | [a, b, c], _ => exact ⟨a, b, c, rfl⟩
theorem list5 {α : Type} {l : List α} (h : l.length = 5) : ∃ a b c d e, l = [a, b, c, d, e] := by
  match l, h with
  | [a, b, c, d, e], _ => exact ⟨a, b, c, d, e, rfl⟩
theorem list6 {α : Type} {l : List α} (h : l.length = 6) : ∃ a b c d e f, l = [a, b, c, d, e, f] := by
  match l, h with
  | [a, b, c, d, e, f], _ => exact ⟨a, b, c, d, e, f, rfl⟩
theorem cellsTy : Tryd.prog.cellsOf 26 = 4 := by kernel_rfl
theorem cellsStr : Tryd.prog.cellsOf 9 = 1 := by kernel_rfl
theorem cellsPm : Tryd.prog.cellsOf 52 = 5 := by kernel_rfl
theorem cellsPms : Tryd.prog.cellsOf 22 = 1 := by kernel_rfl
theorem cellsFn : Tryd.prog.cellsOf 28 = 6 := by kernel_rfl
theorem cellsBool : Tryd.prog.cellsOf 4 = 1 := by kernel_rfl
theorem open_pm {fuel : Nat} {cs : List Value} {x : DataW H × List MemPlace} (h : DataW.trod enc Tryd.prog w base spare held fuel 52 cs = some x) :
    ∃ (p : Pm) (A B : Option Addr) (ca cb : Nat), cs = [.string p.name, .int .i64 p.ty.kind, .string p.ty.name, .slice A p.ty.labels.length ca, .slice B p.ty.kids.length cb] ∧ Pm.At w 0 p A B ∧ p.Fin := by
  obtain ⟨xs, n, rfl, _, hl, hlen, hf⟩ := DataW.trod_struct Tryd.underlying52 h
  rw [cellsPm] at hl
  have hlen' : xs.length = 2 := hlen
  obtain ⟨c0, c1, c2, c3, c4, rfl⟩ := list5 hl
  obtain ⟨y0, y1, rfl⟩ := list2 hlen'
  clear hl hlen hlen'
  have f0 := hf 0 _ rfl
  have f1 := hf 1 _ rfl
  simp [cellsTy, cellsStr] at f0 f1
  obtain ⟨v0, e0, _, w0⟩ := DataW.trod_string Tryd.underlying9 f0
  obtain ⟨T, A, B, ca, cb, e1, hat, hfin⟩ := open_ty n f1
  simp at e0 e1
  obtain ⟨rfl, rfl, rfl, rfl⟩ := e1
  subst e0
  exact ⟨⟨v0, T⟩, A, B, ca, cb, rfl, hat, w0, hfin⟩
theorem open_pms {fuel : Nat} {cs : List Value} {x : DataW H × List MemPlace} (h : DataW.trod enc Tryd.prog w base spare held fuel 22 cs = some x) :
    ∃ (ps : List Pm) (R : Option Addr) (cap : Nat), cs = [.slice R ps.length cap] ∧ Pms w 0 ps R ∧ ps.length ≤ maxLen ∧ ∀ p ∈ ps, p.Fin := by
  rcases DataW.trod_slice Tryd.underlying22 h with ⟨e, _⟩ | ⟨a, len, cap, elems, rest, m, hnm, e, _, _, hle, hcap, hel, hi, _, _⟩
  · exact ⟨[], none, 0, by rw [e]; rfl, fun h => absurd h (by simp), by simp, by simp⟩
  have each : ∀ i, i < len → ∃ p : Pm, (∃ A B ca cb, w.cell? (a.add (i * 5)) = some (.string p.name) ∧ w.cell? (a.add (i * 5 + 1)) = some (.int .i64 p.ty.kind) ∧ w.cell? (a.add (i * 5 + 2)) = some (.string p.ty.name) ∧ w.cell? (a.add (i * 5 + 3)) = some (.slice A p.ty.labels.length ca) ∧ w.cell? (a.add (i * 5 + 4)) = some (.slice B p.ty.kids.length cb) ∧ Pm.At w 0 p A B) ∧ p.Fin := by
    intro i hil
    have h1 := hi i hil
    rw [List.getElem?_eq_getElem (by omega), cellsPm] at h1
    obtain ⟨cs', hc, ht⟩ := Option.bind_eq_some_iff.1 h1
    obtain ⟨p, A, B, ca, cb, rfl, hat, hfin⟩ := open_pm ht
    obtain ⟨_, _, hcell⟩ := World.cells?_some hc
    have a0 := hcell 0 (by omega)
    have a1 := hcell 1 (by omega)
    have a2 := hcell 2 (by omega)
    have a3 := hcell 3 (by omega)
    have a4 := hcell 4 (by omega)
    simp only [Go.Deep.add_add] at a0 a1 a2 a3 a4
    exact ⟨p, ⟨A, B, ca, cb, a0, a1, a2, a3, a4, hat⟩, hfin⟩
  obtain ⟨ps, hps, hp⟩ := list_choose len each
  refine ⟨ps, some a, cap, by rw [e, hps], fun hpos => ?_, by omega, fun p hpm => ?_⟩
  · obtain ⟨⟨_, _, _, _, h0, _⟩, _⟩ := hp 0 _ (List.getElem?_eq_getElem hpos)
    rw [Nat.zero_mul] at h0
    have ha : a.add 0 = a := by unfold Addr.add; simp
    rw [ha] at h0
    have hpl := plain_cell h0
    refine ⟨a.block, a.off, by rw [← hpl], Nat.zero_le _, fun i p hpi => ?_⟩
    obtain ⟨⟨A, B, ca, cb, h1, h2, h3, h4, h5, h6⟩, _⟩ := hp i p hpi
    rw [hpl, add_plain0] at h1 h2 h3 h4 h5
    exact ⟨A, B, ca, cb, h1, h2, h3, h4, h5, h6⟩
  · obtain ⟨i, hi'⟩ := List.getElem?_of_mem hpm
    exact (hp i p hi').2
theorem open_fn {fuel : Nat} {cs : List Value} {x : DataW H × List MemPlace} (h : DataW.trod enc Tryd.prog w base spare held fuel 28 cs = some x) :
    ∃ (f : Fn) (R A B : Option Addr) (c ca cb : Nat), cs = [.slice R f.params.length c, .int .i64 f.res.kind, .string f.res.name, .slice A f.res.labels.length ca, .slice B f.res.kids.length cb, .bool f.async] ∧ Fn.At w 0 f R A B ∧ f.Fin := by
  obtain ⟨xs, n, rfl, _, hl, hlen, hf⟩ := DataW.trod_struct Tryd.underlying28 h
  rw [cellsFn] at hl
  have hlen' : xs.length = 3 := hlen
  obtain ⟨c0, c1, c2, c3, c4, c5, rfl⟩ := list6 hl
  obtain ⟨y0, y1, y2, rfl⟩ := list3' hlen'
  clear hl hlen hlen'
  have f0 := hf 0 _ rfl
  have f1 := hf 1 _ rfl
  have f2 := hf 2 _ rfl
  simp [cellsTy, cellsPms, cellsBool] at f0 f1 f2
  obtain ⟨ps, R, c, e0, hR, hR1, hR2⟩ := open_pms f0
  obtain ⟨T, A, B, ca, cb, e1, hat, hfin⟩ := open_ty n f1
  obtain ⟨v2, e2, _⟩ := DataW.trod_bool Tryd.underlying4 f2
  simp at e0 e1 e2
  obtain ⟨rfl, rfl, rfl, rfl⟩ := e1
  subst e0 e2
  exact ⟨⟨ps, T, v2⟩, R, A, B, c, ca, cb, rfl, ⟨hR, hat⟩, ⟨hR1, hR2⟩, hfin⟩
end
end Go.Proofs.YtlmmbheamicdaaaDoor
