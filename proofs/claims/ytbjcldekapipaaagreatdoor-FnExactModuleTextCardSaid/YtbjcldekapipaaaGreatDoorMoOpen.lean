/-
  An argument that is a module, opened. No condition.
-/
import Derived.Test.YtbjcldekapipaaaGreatDoorStMo
import Derived.Test.YtbjcldekapipaaaGreatDoorListChoose
import Derived.Deep.DeepHandedRow
import Derived.OpenShut
namespace Go.Proofs.YtbjcldekapipaaaGreatDoor
open Go.ChangeShapes Go.WideShapes Go.ChangeAt Go.RowKit Go.Deep

section
variable {H : Type} {enc : TypeId × Value → H} {w : World} {base : Nat} {spare : Nat → Bool} {held : Bool}
theorem tup2 {α : Type} {l : List α} (h : l.length = 2) : ∃ a0 a1, l = [a0, a1] := by
  match l, h with
  | [a0, a1], _ => exact ⟨a0, a1, rfl⟩
theorem tup3 {α : Type} {l : List α} (h : l.length = 3) : ∃ a0 a1 a2, l = [a0, a1, a2] := by
  match l, h with
  | [a0, a1, a2], _ => exact ⟨a0, a1, a2, rfl⟩
theorem tup5 {α : Type} {l : List α} (h : l.length = 5) : ∃ a0 a1 a2 a3 a4, l = [a0, a1, a2, a3, a4] := by
  match l, h with
  | [a0, a1, a2, a3, a4], _ => exact ⟨a0, a1, a2, a3, a4, rfl⟩
theorem cellsI64m : Tryz.prog.cellsOf 2 = 1 := by kernel_rfl
theorem cellsTextm : Tryz.prog.cellsOf 9 = 1 := by kernel_rfl
theorem cellsBoolm : Tryz.prog.cellsOf 4 = 1 := by kernel_rfl
theorem cellsIn : Tryz.prog.cellsOf 173 = 2 := by kernel_rfl
theorem open_in {fuel : Nat} {cs : List Value} {x : DataW H × List MemPlace} (h : DataW.trod enc Tryz.prog w base spare held fuel 173 cs = some x) :
    ∃ (b : In), cs = [.int .i64 b.op, .int .i64 b.a] ∧ b.Fin := by
  obtain ⟨xs, n, rfl, _, hl, hlen, hf⟩ := DataW.trod_struct Tryz.underlying173 h
  rw [cellsIn] at hl
  have hlen' : xs.length = 2 := hlen
  obtain ⟨q0, q1, rfl⟩ := tup2 hl
  obtain ⟨y0, y1, rfl⟩ := tup2 hlen'
  clear hl hlen hlen'
  have f0 := hf 0 _ rfl
  have f1 := hf 1 _ rfl
  simp [cellsI64m] at f0 f1
  obtain ⟨v0, e0, _, w0⟩ := DataW.trod_int Tryz.underlying2 f0
  obtain ⟨v1, e1, _, w1⟩ := DataW.trod_int Tryz.underlying2 f1
  simp at e0 e1
  subst e0 e1
  exact ⟨⟨v0, v1⟩, rfl, wf_i64_bounds w0, wf_i64_bounds w1⟩
theorem cellsIns : Tryz.prog.cellsOf 91 = 1 := by kernel_rfl
theorem open_ins {fuel : Nat} {cs : List Value} {x : DataW H × List MemPlace} (h : DataW.trod enc Tryz.prog w base spare held fuel 91 cs = some x) :
    ∃ (ps : List In) (R : Option Addr) (cap : Nat), cs = [.slice R ps.length cap] ∧ Ins w 0 ps R ∧ ps.length ≤ maxLen ∧ ∀ p ∈ ps, p.Fin := by
  rcases DataW.trod_slice Tryz.underlying91 h with ⟨e, _⟩ | ⟨a, len, cap, elems, rest, m, hnm, e, _, _, hle, hcap, hel, hi, _, _⟩
  · exact ⟨[], none, 0, by rw [e]; rfl, fun h => absurd h (by simp), by simp, by simp⟩
  have each : ∀ i, i < len → ∃ p : In, (w.cell? (a.add (i * 2)) = some (.int .i64 p.op) ∧ w.cell? (a.add (i * 2 + 1)) = some (.int .i64 p.a)) ∧ p.Fin := by
    intro i hil
    have h1 := hi i hil
    rw [List.getElem?_eq_getElem (by omega), cellsIn] at h1
    obtain ⟨cs', hc, ht⟩ := Option.bind_eq_some_iff.1 h1
    obtain ⟨p, rfl, hfin⟩ := open_in ht
    obtain ⟨_, _, hcell⟩ := World.cells?_some hc
    have a0 := hcell 0 (by omega)
    have a1 := hcell 1 (by omega)
    simp only [Go.Deep.add_add] at a0 a1
    exact ⟨p, ⟨a0, a1⟩, hfin⟩
  obtain ⟨ps, hps, hp⟩ := list_choose len each
  refine ⟨ps, some a, cap, by rw [e, hps], fun hpos => ?_, by omega, fun p hpm => ?_⟩
  · obtain ⟨⟨h0, _⟩, _⟩ := hp 0 _ (List.getElem?_eq_getElem hpos)
    rw [Nat.zero_mul] at h0
    have ha : a.add 0 = a := by unfold Addr.add; simp
    rw [ha] at h0
    have hpl := plain_cell h0
    refine ⟨a.block, a.off, by rw [← hpl], Nat.zero_le _, fun i p hpi => ?_⟩
    obtain ⟨⟨h1, h2⟩, _⟩ := hp i p hpi
    rw [hpl, add_plain0] at h1 h2
    exact ⟨h1, h2, Nat.le_refl _⟩
  · obtain ⟨i, hi'⟩ := List.getElem?_of_mem hpm
    exact (hp i p hi').2
theorem cellsIm : Tryz.prog.cellsOf 89 = 3 := by kernel_rfl
theorem open_im {fuel : Nat} {cs : List Value} {x : DataW H × List MemPlace} (h : DataW.trod enc Tryz.prog w base spare held fuel 89 cs = some x) :
    ∃ (b : Im), cs = [.string b.name, .int .i64 b.params, .bool b.result] ∧ b.Fin := by
  obtain ⟨xs, n, rfl, _, hl, hlen, hf⟩ := DataW.trod_struct Tryz.underlying89 h
  rw [cellsIm] at hl
  have hlen' : xs.length = 3 := hlen
  obtain ⟨q0, q1, q2, rfl⟩ := tup3 hl
  obtain ⟨y0, y1, y2, rfl⟩ := tup3 hlen'
  clear hl hlen hlen'
  have f0 := hf 0 _ rfl
  have f1 := hf 1 _ rfl
  have f2 := hf 2 _ rfl
  simp [cellsTextm, cellsI64m, cellsBoolm] at f0 f1 f2
  obtain ⟨v0, e0, _, w0⟩ := DataW.trod_string Tryz.underlying9 f0
  obtain ⟨v1, e1, _, w1⟩ := DataW.trod_int Tryz.underlying2 f1
  obtain ⟨v2, e2, _⟩ := DataW.trod_bool Tryz.underlying4 f2
  simp at e0 e1 e2
  subst e0 e1 e2
  exact ⟨⟨v0, v1, v2⟩, rfl, w0, wf_i64_bounds w1⟩
theorem cellsIms : Tryz.prog.cellsOf 22 = 1 := by kernel_rfl
theorem open_ims {fuel : Nat} {cs : List Value} {x : DataW H × List MemPlace} (h : DataW.trod enc Tryz.prog w base spare held fuel 22 cs = some x) :
    ∃ (ps : List Im) (R : Option Addr) (cap : Nat), cs = [.slice R ps.length cap] ∧ Ims w 0 ps R ∧ ps.length ≤ maxLen ∧ ∀ p ∈ ps, p.Fin := by
  rcases DataW.trod_slice Tryz.underlying22 h with ⟨e, _⟩ | ⟨a, len, cap, elems, rest, m, hnm, e, _, _, hle, hcap, hel, hi, _, _⟩
  · exact ⟨[], none, 0, by rw [e]; rfl, fun h => absurd h (by simp), by simp, by simp⟩
  have each : ∀ i, i < len → ∃ p : Im, (w.cell? (a.add (i * 3)) = some (.string p.name) ∧ w.cell? (a.add (i * 3 + 1)) = some (.int .i64 p.params) ∧ w.cell? (a.add (i * 3 + 2)) = some (.bool p.result)) ∧ p.Fin := by
    intro i hil
    have h1 := hi i hil
    rw [List.getElem?_eq_getElem (by omega), cellsIm] at h1
    obtain ⟨cs', hc, ht⟩ := Option.bind_eq_some_iff.1 h1
    obtain ⟨p, rfl, hfin⟩ := open_im ht
    obtain ⟨_, _, hcell⟩ := World.cells?_some hc
    have a0 := hcell 0 (by omega)
    have a1 := hcell 1 (by omega)
    have a2 := hcell 2 (by omega)
    simp only [Go.Deep.add_add] at a0 a1 a2
    exact ⟨p, ⟨a0, a1, a2⟩, hfin⟩
  obtain ⟨ps, hps, hp⟩ := list_choose len each
  refine ⟨ps, some a, cap, by rw [e, hps], fun hpos => ?_, by omega, fun p hpm => ?_⟩
  · obtain ⟨⟨h0, _⟩, _⟩ := hp 0 _ (List.getElem?_eq_getElem hpos)
    rw [Nat.zero_mul] at h0
    have ha : a.add 0 = a := by unfold Addr.add; simp
    rw [ha] at h0
    have hpl := plain_cell h0
    refine ⟨a.block, a.off, by rw [← hpl], Nat.zero_le _, fun i p hpi => ?_⟩
    obtain ⟨⟨h1, h2, h3⟩, _⟩ := hp i p hpi
    rw [hpl, add_plain0] at h1 h2 h3
    exact ⟨h1, h2, h3, Nat.le_refl _⟩
  · obtain ⟨i, hi'⟩ := List.getElem?_of_mem hpm
    exact (hp i p hi').2
theorem cellsCo : Tryz.prog.cellsOf 93 = 5 := by kernel_rfl
theorem open_co {fuel : Nat} {cs : List Value} {x : DataW H × List MemPlace} (h : DataW.trod enc Tryz.prog w base spare held fuel 93 cs = some x) :
    ∃ (b : Co) (Rcode : Option Addr) (ccode : Nat), cs = [.string b.name, .int .i64 b.params, .int .i64 b.locals, .bool b.result, .slice Rcode b.code.length ccode] ∧ Co.At w 0 b Rcode ∧ b.Fin := by
  obtain ⟨xs, n, rfl, _, hl, hlen, hf⟩ := DataW.trod_struct Tryz.underlying93 h
  rw [cellsCo] at hl
  have hlen' : xs.length = 5 := hlen
  obtain ⟨q0, q1, q2, q3, q4, rfl⟩ := tup5 hl
  obtain ⟨y0, y1, y2, y3, y4, rfl⟩ := tup5 hlen'
  clear hl hlen hlen'
  have f0 := hf 0 _ rfl
  have f1 := hf 1 _ rfl
  have f2 := hf 2 _ rfl
  have f3 := hf 3 _ rfl
  have f4 := hf 4 _ rfl
  simp [cellsTextm, cellsI64m, cellsBoolm, cellsIns] at f0 f1 f2 f3 f4
  obtain ⟨v0, e0, _, w0⟩ := DataW.trod_string Tryz.underlying9 f0
  obtain ⟨v1, e1, _, w1⟩ := DataW.trod_int Tryz.underlying2 f1
  obtain ⟨v2, e2, _, w2⟩ := DataW.trod_int Tryz.underlying2 f2
  obtain ⟨v3, e3, _⟩ := DataW.trod_bool Tryz.underlying4 f3
  obtain ⟨v4, Rcode, ccode, e4, hR4, hL4, hF4⟩ := open_ins f4
  simp at e0 e1 e2 e3 e4
  subst e0 e1 e2 e3 e4
  exact ⟨⟨v0, v1, v2, v3, v4⟩, Rcode, ccode, rfl, hR4, w0, wf_i64_bounds w1, wf_i64_bounds w2, ⟨hL4, hF4⟩⟩
theorem cellsCos : Tryz.prog.cellsOf 23 = 1 := by kernel_rfl
theorem open_cos {fuel : Nat} {cs : List Value} {x : DataW H × List MemPlace} (h : DataW.trod enc Tryz.prog w base spare held fuel 23 cs = some x) :
    ∃ (ps : List Co) (R : Option Addr) (cap : Nat), cs = [.slice R ps.length cap] ∧ Cos w 0 ps R ∧ ps.length ≤ maxLen ∧ ∀ p ∈ ps, p.Fin := by
  rcases DataW.trod_slice Tryz.underlying23 h with ⟨e, _⟩ | ⟨a, len, cap, elems, rest, m, hnm, e, _, _, hle, hcap, hel, hi, _, _⟩
  · exact ⟨[], none, 0, by rw [e]; rfl, fun h => absurd h (by simp), by simp, by simp⟩
  have each : ∀ i, i < len → ∃ p : Co, (∃ Rcode ccode, w.cell? (a.add (i * 5)) = some (.string p.name) ∧ w.cell? (a.add (i * 5 + 1)) = some (.int .i64 p.params) ∧ w.cell? (a.add (i * 5 + 2)) = some (.int .i64 p.locals) ∧ w.cell? (a.add (i * 5 + 3)) = some (.bool p.result) ∧ w.cell? (a.add (i * 5 + 4)) = some (.slice Rcode p.code.length ccode) ∧ Co.At w 0 p Rcode) ∧ p.Fin := by
    intro i hil
    have h1 := hi i hil
    rw [List.getElem?_eq_getElem (by omega), cellsCo] at h1
    obtain ⟨cs', hc, ht⟩ := Option.bind_eq_some_iff.1 h1
    obtain ⟨p, Rcode, ccode, rfl, hat, hfin⟩ := open_co ht
    obtain ⟨_, _, hcell⟩ := World.cells?_some hc
    have a0 := hcell 0 (by omega)
    have a1 := hcell 1 (by omega)
    have a2 := hcell 2 (by omega)
    have a3 := hcell 3 (by omega)
    have a4 := hcell 4 (by omega)
    simp only [Go.Deep.add_add] at a0 a1 a2 a3 a4
    exact ⟨p, ⟨Rcode, ccode, a0, a1, a2, a3, a4, hat⟩, hfin⟩
  obtain ⟨ps, hps, hp⟩ := list_choose len each
  refine ⟨ps, some a, cap, by rw [e, hps], fun hpos => ?_, by omega, fun p hpm => ?_⟩
  · obtain ⟨⟨_, _, h0, _⟩, _⟩ := hp 0 _ (List.getElem?_eq_getElem hpos)
    rw [Nat.zero_mul] at h0
    have ha : a.add 0 = a := by unfold Addr.add; simp
    rw [ha] at h0
    have hpl := plain_cell h0
    refine ⟨a.block, a.off, by rw [← hpl], Nat.zero_le _, fun i p hpi => ?_⟩
    obtain ⟨⟨Rcode, ccode, h1, h2, h3, h4, h5, h6⟩, _⟩ := hp i p hpi
    rw [hpl, add_plain0] at h1 h2 h3 h4 h5
    exact ⟨Rcode, ccode, h1, h2, h3, h4, h5, h6⟩
  · obtain ⟨i, hi'⟩ := List.getElem?_of_mem hpm
    exact (hp i p hi').2
theorem cellsMo : Tryz.prog.cellsOf 25 = 3 := by kernel_rfl
theorem open_mo {fuel : Nat} {cs : List Value} {x : DataW H × List MemPlace} (h : DataW.trod enc Tryz.prog w base spare held fuel 25 cs = some x) :
    ∃ (b : Mo) (Rimports : Option Addr) (cimports : Nat) (Rcores : Option Addr) (ccores : Nat), cs = [.int .i64 b.pages, .slice Rimports b.imports.length cimports, .slice Rcores b.cores.length ccores] ∧ Mo.At w 0 b Rimports Rcores ∧ b.Fin := by
  obtain ⟨xs, n, rfl, _, hl, hlen, hf⟩ := DataW.trod_struct Tryz.underlying25 h
  rw [cellsMo] at hl
  have hlen' : xs.length = 3 := hlen
  obtain ⟨q0, q1, q2, rfl⟩ := tup3 hl
  obtain ⟨y0, y1, y2, rfl⟩ := tup3 hlen'
  clear hl hlen hlen'
  have f0 := hf 0 _ rfl
  have f1 := hf 1 _ rfl
  have f2 := hf 2 _ rfl
  simp [cellsI64m, cellsIms, cellsCos] at f0 f1 f2
  obtain ⟨v0, e0, _, w0⟩ := DataW.trod_int Tryz.underlying2 f0
  obtain ⟨v1, Rimports, cimports, e1, hR1, hL1, hF1⟩ := open_ims f1
  obtain ⟨v2, Rcores, ccores, e2, hR2, hL2, hF2⟩ := open_cos f2
  simp at e0 e1 e2
  subst e0 e1 e2
  exact ⟨⟨v0, v1, v2⟩, Rimports, cimports, Rcores, ccores, rfl, ⟨hR1, hR2⟩, wf_i64_bounds w0, ⟨hL1, hF1⟩, ⟨hL2, hF2⟩⟩
end
end Go.Proofs.YtbjcldekapipaaaGreatDoor
