/-
  ListChoose, TyOpen, FnOpen, RTab6: in one text.
-/
import Derived.Test.YtifchfecfkdjlaaGreatDoorBase
import Derived.Test.YtifchfecfkdjlaaGreatDoorMA
import Derived.Test.YtifchfecfkdjlaaGreatDoorMH
namespace Go.Proofs.YtifchfecfkdjlaaGreatDoor
open Go.ChangeShapes Go.WideShapes Go.ChangeAt Go.RowKit

theorem list_choose {α : Type} {P : Nat → α → Prop} : ∀ n : Nat, (∀ i, i < n → ∃ t, P i t) → ∃ l : List α, l.length = n ∧ ∀ (i : Nat) (t : α), l[i]? = some t → P i t
  | 0, _ => ⟨[], rfl, by simp⟩
  | n + 1, h => by
    obtain ⟨l, hl, hp⟩ := list_choose n (fun i hi => h i (by omega))
    obtain ⟨t, ht⟩ := h n (by omega)
    refine ⟨l ++ [t], by simp [hl], fun i u hu => ?_⟩
    by_cases hi : i < l.length
    · rw [List.getElem?_append_left hi] at hu
      exact hp i u hu
    · have hlt := (List.getElem?_eq_some_iff.1 hu).1
      simp at hlt
      obtain rfl : i = l.length := by omega
      simp at hu
      subst hu
      rw [hl]
      exact ht
theorem plain_cell {w : World} {a : Addr} {v : Value} (h : w.cell? a = some v) : a = ⟨a.block, a.off, none⟩ := by
  cases a with
  | mk b o s =>
    cases s with
    | none => rfl
    | some k =>
      unfold World.cell? at h
      split at h <;> simp at h
theorem add_plain0 (b o i : Nat) : (⟨b, o, none⟩ : Addr).add i = ⟨b, o + i, none⟩ := by unfold Addr.add; split <;> simp_all
end Go.Proofs.YtifchfecfkdjlaaGreatDoor

namespace Go.Proofs.YtifchfecfkdjlaaGreatDoor
open Go.ChangeShapes Go.WideShapes Go.ChangeAt Go.RowKit Go.Deep

section
variable {H : Type} {enc : TypeId × Value → H} {w : World} {base : Nat} {spare : Nat → Bool} {held : Bool}
theorem open_labels {fuel : Nat} {cs : List Value} {x : DataW H × List MemPlace} (h : DataW.trod enc Tryz.prog w base spare held fuel 22 cs = some x) :
    ∃ (ls : List ByteArray) (A : Option Addr) (cap : Nat), cs = [.slice A ls.length cap] ∧ Strs w 0 ls A ∧ ls.length ≤ maxLen ∧ ∀ s ∈ ls, s.size ≤ maxLen := by
  rcases open_strs Tryz.underlying22 Tryz.underlying9 (by kernel_rfl) h with ⟨rfl, _⟩ | ⟨a, len, cap, m, Sx, rfl, hb, hl, hm, hmm, _, hx⟩
  · exact ⟨[], none, 0, rfl, fun h => absurd h (by simp), by simp, by simp⟩
  have hlm : len ≤ m := by rw [hmm]; split <;> omega
  obtain ⟨ls, hls, hp⟩ := list_choose (P := fun i s => w.cell? (a.add i) = some (.string s) ∧ s.size ≤ maxLen) len (fun i hi => ⟨Sx i, hx i (by omega)⟩)
  refine ⟨ls, some a, cap, by rw [hls], fun hpos => ?_, by omega, fun s hs => ?_⟩
  · have h0 := (hp 0 _ (List.getElem?_eq_getElem hpos)).1
    have ha : a.add 0 = a := by unfold Addr.add; simp
    rw [ha] at h0
    have hpl := plain_cell h0
    refine ⟨a.block, a.off, by rw [← hpl], Nat.zero_le _, fun i s hs => ?_⟩
    have h1 := (hp i s hs).1
    rw [hpl, add_plain0] at h1
    exact h1
  · obtain ⟨i, hi⟩ := List.getElem?_of_mem hs
    exact (hp i s hi).2

theorem list4 {α : Type} {l : List α} (h : l.length = 4) : ∃ a b c d, l = [a, b, c, d] := by
  match l, h with
  | [a, b, c, d], _ => exact ⟨a, b, c, d, rfl⟩
theorem open_ty : ∀ (fuel : Nat) {cs : List Value} {x : DataW H × List MemPlace}, DataW.trod enc Tryz.prog w base spare held fuel 25 cs = some x →
    ∃ (T : Ty) (A B : Option Addr) (ca cb : Nat), cs = [.int .i64 T.kind, .string T.name, .slice A T.labels.length ca, .slice B T.kids.length cb] ∧ Ty.At w 0 T A B ∧ T.Fin := by
  intro fuel
  induction fuel using Nat.strongRecOn with
  | ind fuel ih =>
    intro cs x h
    have hC : Tryz.prog.cellsOf 25 = 4 := by kernel_rfl
    have k0 : Tryz.prog.cellsOf 2 = 1 := by kernel_rfl
    have k1 : Tryz.prog.cellsOf 9 = 1 := by kernel_rfl
    have k2 : Tryz.prog.cellsOf 22 = 1 := by kernel_rfl
    have k3 : Tryz.prog.cellsOf 23 = 1 := by kernel_rfl
    obtain ⟨xs, n, rfl, _, hl, hlen, hf⟩ := DataW.trod_struct Tryz.underlying25 h
    rw [hC] at hl
    have hlen' : xs.length = 4 := hlen
    obtain ⟨c0, c1, c2, c3, rfl⟩ := list4 hl
    obtain ⟨y0, y1, y2, y3, rfl⟩ := list4 hlen'
    clear hl hlen hlen'
    have f0 := hf 0 _ rfl
    have f1 := hf 1 _ rfl
    have f2 := hf 2 _ rfl
    have f3 := hf 3 _ rfl
    simp [k0, k1, k2, k3] at f0 f1 f2 f3
    obtain ⟨v0, e0, _, wf0⟩ := DataW.trod_int Tryz.underlying2 f0
    obtain ⟨v1, e1, _, w1⟩ := DataW.trod_string Tryz.underlying9 f1
    obtain ⟨ls, A, ca, e2, hA, hA1, hA2⟩ := open_labels f2
    simp at e0 e1 e2
    subst e0 e1 e2
    have hwf := wf_i64_bounds wf0
    have kids : ∃ (ks : List Ty) (B : Option Addr) (cb : Nat), c3 = .slice B ks.length cb ∧ ks.length ≤ maxLen ∧ (0 < ks.length → ∃ b o : Nat, B = some ⟨b, o, none⟩ ∧ ∀ (i : Nat) (t : Ty), ks[i]? = some t → ∃ A' B' ca cb, Ty.Cells w 0 t b (o + 4 * i) A' B' ca cb) ∧ ∀ (i : Nat) (t : Ty), ks[i]? = some t → t.Fin := by
      rcases DataW.trod_slice Tryz.underlying23 f3 with ⟨e, _⟩ | ⟨a, len, cap, elems, rest, m, hnm, e, _, _, hle, hcap, hel, hi, _, _⟩
      · simp at e
        exact ⟨[], none, 0, by rw [e]; rfl, by simp, fun h => absurd h (by simp), by simp⟩
      simp at e
      have each : ∀ i, i < len → ∃ t : Ty, (∃ A' B' ca cb, w.cell? (a.add (4 * i)) = some (.int .i64 t.kind) ∧ w.cell? (a.add (4 * i + 1)) = some (.string t.name) ∧ w.cell? (a.add (4 * i + 2)) = some (.slice A' t.labels.length ca) ∧ w.cell? (a.add (4 * i + 3)) = some (.slice B' t.kids.length cb) ∧ Ty.At w 0 t A' B') ∧ t.Fin := by
        intro i hil
        have h1 := hi i hil
        rw [List.getElem?_eq_getElem (by omega), hC] at h1
        obtain ⟨cs', hc, ht⟩ := Option.bind_eq_some_iff.1 h1
        obtain ⟨T, A', B', ca', cb', rfl, hat, hfin⟩ := ih m (by omega) ht
        obtain ⟨_, _, hcell⟩ := World.cells?_some hc
        have a0 := hcell 0 (by omega)
        have a1 := hcell 1 (by omega)
        have a2 := hcell 2 (by omega)
        have a3 := hcell 3 (by omega)
        simp only [Go.Deep.add_add, Nat.mul_comm i 4] at a0 a1 a2 a3
        exact ⟨T, ⟨A', B', ca', cb', a0, a1, a2, a3, hat⟩, hfin⟩
      obtain ⟨ks, hks, hp⟩ := list_choose len each
      refine ⟨ks, some a, cap, by rw [e, hks], by omega, fun hpos => ?_, fun i t ht => (hp i t ht).2⟩
      obtain ⟨⟨_, _, _, _, h0, _⟩, _⟩ := hp 0 _ (List.getElem?_eq_getElem hpos)
      have ha : a.add (4 * 0) = a := by unfold Addr.add; simp
      rw [ha] at h0
      have hpl := plain_cell h0
      refine ⟨a.block, a.off, by rw [← hpl], fun i t ht => ?_⟩
      obtain ⟨⟨A', B', ca', cb', h1, h2, h3, h4, h5⟩, _⟩ := hp i t ht
      rw [hpl, add_plain0] at h1 h2 h3 h4
      exact ⟨A', B', ca', cb', h1, h2, h3, h4, h5⟩
    obtain ⟨ks, B, cb, rfl, hk1, hk2, hk3⟩ := kids
    refine ⟨.mk v0 v1 ls ks, A, B, ca, cb, rfl, ?_, ?_⟩
    · exact Ty.At.mk' hA fun hp => by
        obtain ⟨b, o, hb, h⟩ := hk2 hp
        exact ⟨b, o, hb, Nat.zero_le _, h⟩
    · exact Ty.Fin.mk' ⟨w1, hA1, hk1, hA2, hwf.2, hwf.1⟩ hk3
end
end Go.Proofs.YtifchfecfkdjlaaGreatDoor

namespace Go.Proofs.YtifchfecfkdjlaaGreatDoor
open Go.ChangeShapes Go.WideShapes Go.ChangeAt Go.RowKit Go.Deep

section
variable {H : Type} {enc : TypeId × Value → H} {w : World} {base : Nat} {spare : Nat → Bool} {held : Bool}
theorem list2 {α : Type} {l : List α} (h : l.length = 2) : ∃ a b, l = [a, b] := by
  match l, h with
  | [a, b], _ => exact ⟨a, b, rfl⟩
theorem list3' {α : Type} {l : List α} (h : l.length = 3) : ∃ a b c, l = [a, b, c] := by
  match l, h with
  | [a, b, c], _ => exact ⟨a, b, c, rfl⟩
theorem list5 {α : Type} {l : List α} (h : l.length = 5) : ∃ a b c d e, l = [a, b, c, d, e] := by
  match l, h with
  | [a, b, c, d, e], _ => exact ⟨a, b, c, d, e, rfl⟩
theorem list6 {α : Type} {l : List α} (h : l.length = 6) : ∃ a b c d e f, l = [a, b, c, d, e, f] := by
  match l, h with
  | [a, b, c, d, e, f], _ => exact ⟨a, b, c, d, e, f, rfl⟩
theorem cellsTy : Tryz.prog.cellsOf 25 = 4 := by kernel_rfl
theorem cellsStr : Tryz.prog.cellsOf 9 = 1 := by kernel_rfl
theorem cellsPm : Tryz.prog.cellsOf 77 = 5 := by kernel_rfl
theorem cellsPms : Tryz.prog.cellsOf 38 = 1 := by kernel_rfl
theorem cellsFn : Tryz.prog.cellsOf 40 = 6 := by kernel_rfl
theorem cellsBool : Tryz.prog.cellsOf 4 = 1 := by kernel_rfl
theorem open_pm {fuel : Nat} {cs : List Value} {x : DataW H × List MemPlace} (h : DataW.trod enc Tryz.prog w base spare held fuel 77 cs = some x) :
    ∃ (p : Pm) (A B : Option Addr) (ca cb : Nat), cs = [.string p.name, .int .i64 p.ty.kind, .string p.ty.name, .slice A p.ty.labels.length ca, .slice B p.ty.kids.length cb] ∧ Pm.At w 0 p A B ∧ p.Fin := by
  obtain ⟨xs, n, rfl, _, hl, hlen, hf⟩ := DataW.trod_struct Tryz.underlying77 h
  rw [cellsPm] at hl
  have hlen' : xs.length = 2 := hlen
  obtain ⟨c0, c1, c2, c3, c4, rfl⟩ := list5 hl
  obtain ⟨y0, y1, rfl⟩ := list2 hlen'
  clear hl hlen hlen'
  have f0 := hf 0 _ rfl
  have f1 := hf 1 _ rfl
  simp [cellsTy, cellsStr] at f0 f1
  obtain ⟨v0, e0, _, w0⟩ := DataW.trod_string Tryz.underlying9 f0
  obtain ⟨T, A, B, ca, cb, e1, hat, hfin⟩ := open_ty n f1
  simp at e0 e1
  obtain ⟨rfl, rfl, rfl, rfl⟩ := e1
  subst e0
  exact ⟨⟨v0, T⟩, A, B, ca, cb, rfl, Ty.Ao.of_at hat, w0, hfin⟩
theorem open_pms {fuel : Nat} {cs : List Value} {x : DataW H × List MemPlace} (h : DataW.trod enc Tryz.prog w base spare held fuel 38 cs = some x) :
    ∃ (ps : List Pm) (R : Option Addr) (cap : Nat), cs = [.slice R ps.length cap] ∧ Pms w 0 ps R ∧ ps.length ≤ maxLen ∧ ∀ p ∈ ps, p.Fin := by
  rcases DataW.trod_slice Tryz.underlying38 h with ⟨e, _⟩ | ⟨a, len, cap, elems, rest, m, hnm, e, _, _, hle, hcap, hel, hi, _, _⟩
  · exact ⟨[], none, 0, by rw [e]; rfl, fun h => absurd h (by simp), by simp, by simp⟩
  have each : ∀ i, i < len → ∃ p : Pm, (∃ A B ca cb, w.cell? (a.add (i * 5)) = some (.string p.name) ∧ w.cell? (a.add (i * 5 + 1)) = some (.int .i64 p.ty.kind) ∧ w.cell? (a.add (i * 5 + 2)) = some (.string p.ty.name) ∧ w.cell? (a.add (i * 5 + 3)) = some (.slice A p.ty.labels.length ca) ∧ w.cell? (a.add (i * 5 + 4)) = some (.slice B p.ty.kids.length cb) ∧ Pm.At w 0 p A B) ∧ p.Fin := by
    intro i hil
    have h1 := hi i hil
    rw [List.getElem?_eq_getElem (by omega), cellsPm] at h1
    obtain ⟨cs', hc, ht⟩ := Option.bind_eq_some_iff.1 h1
    obtain ⟨p, A, B, ca, cb, rfl, hat, hfin⟩ := open_pm ht
    obtain ⟨_, _, hcell⟩ := World.cells?_some hc
    have a0 := hcell 0 (by omega)
    have a1 := hcell 1 (by omega)
    have a2 := hcell 2 (by omega)
    have a3 := hcell 3 (by omega)
    have a4 := hcell 4 (by omega)
    simp only [Go.Deep.add_add] at a0 a1 a2 a3 a4
    exact ⟨p, ⟨A, B, ca, cb, a0, a1, a2, a3, a4, hat⟩, hfin⟩
  obtain ⟨ps, hps, hp⟩ := list_choose len each
  refine ⟨ps, some a, cap, by rw [e, hps], fun hpos => ?_, by omega, fun p hpm => ?_⟩
  · obtain ⟨⟨_, _, _, _, h0, _⟩, _⟩ := hp 0 _ (List.getElem?_eq_getElem hpos)
    rw [Nat.zero_mul] at h0
    have ha : a.add 0 = a := by unfold Addr.add; simp
    rw [ha] at h0
    have hpl := plain_cell h0
    refine ⟨a.block, a.off, by rw [← hpl], Nat.zero_le _, fun i p hpi => ?_⟩
    obtain ⟨⟨A, B, ca, cb, h1, h2, h3, h4, h5, h6⟩, _⟩ := hp i p hpi
    rw [hpl, add_plain0] at h1 h2 h3 h4 h5
    exact ⟨A, B, ca, cb, h1, h2, h3, h4, h5, h6⟩
  · obtain ⟨i, hi'⟩ := List.getElem?_of_mem hpm
    exact (hp i p hi').2
theorem open_fn {fuel : Nat} {cs : List Value} {x : DataW H × List MemPlace} (h : DataW.trod enc Tryz.prog w base spare held fuel 40 cs = some x) :
    ∃ (f : Fn) (R A B : Option Addr) (c ca cb : Nat), cs = [.slice R f.params.length c, .int .i64 f.res.kind, .string f.res.name, .slice A f.res.labels.length ca, .slice B f.res.kids.length cb, .bool f.async] ∧ Fn.At w 0 f R A B ∧ f.Fin := by
  obtain ⟨xs, n, rfl, _, hl, hlen, hf⟩ := DataW.trod_struct Tryz.underlying40 h
  rw [cellsFn] at hl
  have hlen' : xs.length = 3 := hlen
  obtain ⟨c0, c1, c2, c3, c4, c5, rfl⟩ := list6 hl
  obtain ⟨y0, y1, y2, rfl⟩ := list3' hlen'
  clear hl hlen hlen'
  have f0 := hf 0 _ rfl
  have f1 := hf 1 _ rfl
  have f2 := hf 2 _ rfl
  simp [cellsTy, cellsPms, cellsBool] at f0 f1 f2
  obtain ⟨ps, R, c, e0, hR, hR1, hR2⟩ := open_pms f0
  obtain ⟨T, A, B, ca, cb, e1, hat, hfin⟩ := open_ty n f1
  obtain ⟨v2, e2, _⟩ := DataW.trod_bool Tryz.underlying4 f2
  simp at e0 e1 e2
  obtain ⟨rfl, rfl, rfl, rfl⟩ := e1
  subst e0 e2
  exact ⟨⟨ps, T, v2⟩, R, A, B, c, ca, cb, rfl, ⟨hR, Ty.Ao.of_at hat⟩, ⟨hR1, hR2⟩, hfin⟩
end
end Go.Proofs.YtifchfecfkdjlaaGreatDoor

namespace Go.Proofs.YtifchfecfkdjlaaGreatDoor
open Go.ChangeShapes Go.WideShapes Go.ChangeAt Go.RowKit


set_option maxRecDepth 100000 in
theorem rtable6 {W : World} (h0 : laidMet Tryz.prog [("math/bits.deBruijn32tab", Rows.laid_math_bits_deBruijn32tab), ("math/bits.deBruijn64tab", Rows.laid_math_bits_deBruijn64tab), ("internal/strconv.uint64pow10", Rows.laid_internal_strconv_uint64pow10), ("unicode/utf8.acceptRanges", Rows.laid_unicode_utf8_acceptRanges), ("loop.example/g00901/impl.numRanges", Rows.laid_loop_example_g00901_impl_numRanges), ("unicode/utf8.first", Rows.laid_unicode_utf8_first)] W) : RTable W := by
  obtain ⟨ps, ⟨_, _, _, _, _, _, _, _, _, _, ⟨_, _, _, _, _, _, _, _, _, _, ⟨_, _, _, _, _, _, _, _, _, _, ⟨_, _, _, _, _, _, _, _, _, _, ⟨g', t', cs, fuel, p, q, hg', ht', hvar, hd, _, _⟩, _⟩, _⟩, _⟩, _⟩, _⟩ := h0
  obtain rfl := Option.some.inj (gNR.symm.trans hg')
  obtain rfl := Option.some.inj (gNRType.symm.trans ht')
  obtain ⟨xs, m, rfl, hx, hlen, hxl, hi⟩ := DataW.trod_array Tryz.underlying98 hd
  have h6 : xs.map (·.1) = ranges.map fun x => DataW.agg [.lit (.int .i64 x.1), .lit (.int .i64 x.2)] := by
    have h7 := congrArg Prod.fst hx
    simp only at h7
    rw [nrData] at h7
    injection h7 with h8
    exact h8.symm
  intro i a b hab
  have hi10 : i < 10 := (List.getElem?_eq_some_iff.mp hab).1
  have hxi : i < xs.length := by omega
  have h1 := hi i hi10
  rw [cellsNR, List.getElem?_eq_getElem hxi] at h1
  obtain ⟨y0, y1, n, hy, hl2, k0, k1⟩ := trod_struct2 Tryz.underlying97 h1
  have h5 : (xs.map (·.1))[i]? = some (.agg [y0.1, y1.1]) := by
    rw [List.getElem?_map, List.getElem?_eq_getElem hxi, hy]
    rfl
  rw [h6, List.getElem?_map, hab] at h5
  injection h5 with h5
  injection h5 with h5
  simp only [List.cons.injEq, and_true] at h5
  obtain ⟨d0, e0, f0, _⟩ := DataW.trod_int Tryz.underlying2 k0
  obtain ⟨d1, e1, f1, _⟩ := DataW.trod_int Tryz.underlying2 k1
  rw [f0, f1] at h5
  obtain ⟨h50, h51⟩ := h5
  injection h50 with h50
  injection h50 with _ h50
  injection h51 with h51
  injection h51 with _ h51
  subst h50 h51
  have c0 : cs[2 * i]? = some (.int .i64 a) := by
    have h3 := congrArg (fun l => l[0]?) e0
    simpa [cellsI64, Nat.mul_comm] using h3
  have c1 : cs[2 * i + 1]? = some (.int .i64 b) := by
    have h3 := congrArg (fun l => l[0]?) e1
    simpa [cellsI64, Nat.mul_comm] using h3
  rw [World.var?_cell gNR hvar (2 * i), World.var?_cell gNR hvar (2 * i + 1)]
  exact ⟨c0, c1⟩

end Go.Proofs.YtifchfecfkdjlaaGreatDoor

