/-
  Rows of numbers: one that is read, one in a block of its own; copying, comparing, marking and asking. No condition.
-/
import Derived.Test.YtbjcldekapipaaaBase
import Derived.Deep.LoopGhost
import Derived.Deep.OwnRows
import Derived.Laws.MakeOwn
namespace Go.Proofs.Ytbjcldekapipaaa
open Go.ChangeShapes Go.WideShapes Go.ChangeAt Go.RowKit Go.Deep

theorem below6N {W a : World} (h : Below W.heap.size W a) (n : Nat) : Below W.heap.size W (a.drewN n) := ⟨h.os, h.tape, h.output, h.size, h.block⟩
theorem next6 {W a b : World} (h : Below W.heap.size W a) (k : Below a.heap.size a b) : Below W.heap.size W b := bchain h k h.size
/-- What is said, and what is left. -/
def Says6 (p : Prop) (w : World) (e : Ending) (w' : World) : Prop := ∃ v : Bool, e = .returned (.bool v) ∧ (v = true ↔ p) ∧ Below w.heap.size w w'
theorem iff6T {p : Prop} (h : p) : (true = true ↔ p) := ⟨fun _ => h, fun _ => rfl⟩
theorem iff6F {p : Prop} (h : ¬ p) : (false = true ↔ p) := ⟨(fun e => by cases e), fun e => absurd e h⟩
theorem Says6.yes {p : Prop} (h : p) {w : World} {e : Ending} {w' : World} (k : Says6 p w e w') : e = .returned (.bool true) ∧ Below w.heap.size w w' := by
  obtain ⟨v, rfl, hv, hb⟩ := k
  exact ⟨by rw [hv.mpr h], hb⟩
theorem Says6.no {p : Prop} (h : ¬ p) {w : World} {e : Ending} {w' : World} (k : Says6 p w e w') : e = .returned (.bool false) ∧ Below w.heap.size w w' := by
  obtain ⟨v, rfl, hv, hb⟩ := k
  cases v with
  | false => exact ⟨rfl, hb⟩
  | true => exact absurd (hv.mp rfl) h

/-- The block is a plain one. -/
def Blk6 (w : World) (g : Nat) : Prop := ∃ (c : Array Value) (t : TypeId), w.heap[g]? = some (.cells c t (0, 0))
theorem Blk6.free {w : World} {g : Nat} (h : Blk6 w g) (i : Nat) : w.frozen? ⟨g, i, none⟩ = false := by
  obtain ⟨c, t, hc⟩ := h
  simp [World.frozen?, hc]
theorem Blk6.lt {w : World} {g : Nat} (h : Blk6 w g) : g < w.heap.size := by
  obtain ⟨c, t, hc⟩ := h
  exact (Array.getElem?_eq_some_iff.1 hc).1
theorem Blk6.same {w w' : World} {g : Nat} (h : Blk6 w g) (e : w'.heap[g]? = w.heap[g]?) : Blk6 w' g := by
  obtain ⟨c, t, hc⟩ := h
  exact ⟨c, t, e.trans hc⟩
theorem Blk6.set {w : World} {g : Nat} (h : Blk6 w g) (p : Addr) (v : Value) : Blk6 (w.setCell p v) g := by
  obtain ⟨c, t, hc⟩ := h
  by_cases e : p.block = g
  · subst e
    simp only [Blk6, World.setCell, Array.getElem?_modify, if_pos, hc, Option.map_some]
    exact ⟨_, t, rfl⟩
  · refine ⟨c, t, ?_⟩
    simp [World.setCell, Array.getElem?_modify, e, hc]

/-- Only blocks of the list are other ones. -/
structure But6 (bs : List Nat) (w w' : World) : Prop where
  os : w'.os = w.os
  tape : w'.tape = w.tape
  output : w'.output = w.output
  size : w.heap.size ≤ w'.heap.size
  block : ∀ k, k < w.heap.size → k ∉ bs → w'.heap[k]? = w.heap[k]?
theorem But6.refl (bs : List Nat) (w : World) : But6 bs w w := ⟨rfl, rfl, rfl, Nat.le_refl _, fun _ _ _ => rfl⟩
theorem But6.trans {bs : List Nat} {a b c : World} (h : But6 bs a b) (k : But6 bs b c) : But6 bs a c := ⟨k.os.trans h.os, k.tape.trans h.tape, k.output.trans h.output, Nat.le_trans h.size k.size, fun i hi hn => (k.block i (by have := h.size; omega) hn).trans (h.block i hi hn)⟩
theorem But6.setCell {bs : List Nat} {w : World} {p : Addr} (hp : p.block ∈ bs) (v : Value) : But6 bs w (w.setCell p v) :=
  ⟨rfl, rfl, rfl, by simp [World.setCell], fun k _ hn => Below.heap_setCell _ _ _ _ (fun e => hn (e ▸ hp))⟩
theorem But6.below {bs : List Nat} {B : Nat} {w w' : World} (h : But6 bs w w') (hs : ∀ b ∈ bs, B ≤ b) (hB : B ≤ w.heap.size) : Below B w w' := ⟨h.os, h.tape, h.output, h.size, fun k hk => h.block k (by omega) (fun hm => by have := hs k hm; omega)⟩

/-- The numbers lie from a place on. -/
def Row6 (w : World) (P : List Int) (R : Option Addr) : Prop := 0 < P.length → ∃ b o, R = some ⟨b, o, none⟩ ∧ ∀ (i : Nat) (n : Int), P[i]? = some n → w.cell? ⟨b, o + i, none⟩ = some (.int .i64 n)
theorem Row6.below {w w' : World} {P : List Int} {R : Option Addr} (h : Row6 w P R) (hb : Below w.heap.size w w') : Row6 w' P R := fun hp => by
  obtain ⟨b, o, e, hc⟩ := h hp
  exact ⟨b, o, e, fun i n hn => keepCell hb (hc i n hn)⟩
theorem Row6.at_ {w : World} {P : List Int} {R : Option Addr} (h : Row6 w P R) {k : Nat} (hk : k < P.length) : ∃ b o n, R = some ⟨b, o, none⟩ ∧ P[k]? = some n ∧ w.cell? ⟨b, o + k, none⟩ = some (.int .i64 n) := by
  obtain ⟨b, o, e, hc⟩ := h (by omega)
  exact ⟨b, o, P[k], e, List.getElem?_eq_getElem hk, hc k _ (List.getElem?_eq_getElem hk)⟩
/-- The numbers lie from a plain block's start on. -/
def Own6 (w : World) (P : List Int) (R : Option Addr) (g : Nat) : Prop := 0 < P.length → R = some ⟨g, 0, none⟩ ∧ Blk6 w g ∧ ∀ (i : Nat) (n : Int), P[i]? = some n → w.cell? ⟨g, i, none⟩ = some (.int .i64 n)
theorem Own6.row {w : World} {P : List Int} {R : Option Addr} {g : Nat} (h : Own6 w P R g) : Row6 w P R := fun hp => by
  obtain ⟨h1, _, h3⟩ := h hp
  exact ⟨g, 0, h1, fun i n hn => by rw [Nat.zero_add]; exact h3 i n hn⟩
theorem Own6.same {w w' : World} {P : List Int} {R : Option Addr} {g : Nat} (h : Own6 w P R g) (e : g < w.heap.size → w'.heap[g]? = w.heap[g]?) : Own6 w' P R g := fun hp => by
  obtain ⟨h1, h2, h3⟩ := h hp
  have e := e h2.lt
  exact ⟨h1, h2.same e, fun i n hn => (World.cell?_of_block e).trans (h3 i n hn)⟩
theorem Own6.below {w w' : World} {P : List Int} {R : Option Addr} {g : Nat} (h : Own6 w P R g) (hb : Below w.heap.size w w') : Own6 w' P R g := h.same fun hl => hb.block g hl
theorem Own6.but {w w' : World} {P : List Int} {R : Option Addr} {g : Nat} {bs : List Nat} (h : Own6 w P R g) (hb : But6 bs w w') (hn : 0 < P.length → g ∉ bs) : Own6 w' P R g := fun hp => (h.same fun hl => hb.block g hl (hn hp)) hp
theorem own6_nil (w : World) (R : Option Addr) (g : Nat) : Own6 w [] R g := fun hp => absurd hp (by simp)
def num6 (n : Int) : Value := .int .i64 n
theorem Own6.of_own {w : World} {base : Nat} {P : List Int} {R : Option Addr} {c : Nat} (h : w.ownsRow base 2 1 (.slice R P.length c) P.length (P.map num6)) : ∃ g, base ≤ g ∧ (0 < P.length → g < w.heap.size) ∧ Own6 w P R g := by
  rcases h.2 with ⟨e, e2⟩ | ⟨g, cap', cur, e, hg, hb, h1, h2, h3, h4⟩
  · exact ⟨base, Nat.le_refl _, fun hp => by omega, fun hp => by omega⟩
  · injection e with e1 e2 e3
    subst e1
    refine ⟨g, hg, fun _ => (Array.getElem?_eq_some_iff.1 hb).1, fun hp => ⟨rfl, ⟨cur, _, hb⟩, fun i n hn => ?_⟩⟩
    have hi : i < P.length := (List.getElem?_eq_some_iff.1 hn).1
    have hci : cur.toList[i]? = some (num6 n) := by
      have h5 := congrArg (fun z => z[i]?) h4
      simp only [List.getElem?_take, Nat.mul_one, if_pos hi, List.getElem?_map, hn, Option.map_some] at h5
      exact h5
    simp only [World.cell?, hb]
    rw [Array.getElem?_toList] at hci
    exact hci
/-- An answer: numbers in memory of their own. -/
def Ans6 (P : List Int) (w : World) (e : Ending) (w' : World) : Prop := ∃ (R : Option Addr) (c g : Nat), e = .returned (.slice R P.length c) ∧ w.heap.size ≤ g ∧ (0 < P.length → g < w'.heap.size) ∧ Own6 w' P R g ∧ Below w.heap.size w w'

theorem infoI64 : (Try.prog.info? 2).map (fun i => (i.zero, i.size, i.bytes)) = some (some (.int .i64 0), 1, 8) := by kernel_rfl

set_option maxHeartbeats 1000000 in
theorem toI64_any (P : List Int) (R : Option Addr) (cap : Nat) (hl : P.length ≤ 1048576) (w : World) (h : Row6 w P R) :
    Calls Try.prog 28 #[.slice R P.length cap] w (Ans6 P w) := by
  have H := Lib.hid h
  clear h
  obtain ⟨F, hF⟩ : ∃ F : Nat → Nat → Value, F = fun k j => if j < k then .int .i64 (P.getD j 0) else .int .i64 0 := ⟨_, rfl⟩
  have HF := Lib.hid hF
  clear hF
  have hmk := run_make_row' (P := Try.prog) 23 2 (.int .i64 0) 8 Try.underlying23 infoI64 rfl .i64 .i64 P.length (by omega) (by omega)
  go_enter Try.func28, Try.ntmps28
  go_wp2
  go_loopw [4] (fun i wr => ∃ k : Nat, k ≤ P.length ∧ i = .int .i64 k ∧ wr.rowIs w.heap.size 2 P.length (F k) ∧ Below w.heap.size w wr) (fun i _ => P.length - (intOf i).toNat)
  case atStart => exact ⟨0, Nat.zero_le _, rfl, (World.rowIs_made _ _ _ _).congr (fun i _ => by rw [HF.out]; simp), below1 _ _⟩
  case round =>
    obtain ⟨k, hk, rfl, hrow, hbel⟩ := hrel
    by_cases hlt : k < P.length
    · obtain ⟨b, o, s, rfl, hsk, hc0⟩ := H.out.at_ hlt
      have hc := keepCell hbel hc0
      have hg := hrow.cell hlt
      have hfz := hrow.frozen k
      have HR := Lib.hid hrow
      have hs : P.getD k 0 = s := by simp [List.getD, hsk]
      have HS := Lib.hid hs
      have hli : (k : Int) < (P.length : Int) := by omega
      have HB := Lib.hid hbel
      clear hs hsk hc0 hrow hbel hmk
      go_wp2_with fail
      go_roundw
      case rel => exact ⟨k + 1, by omega, by go_num, ((HR.out.set k (.int .i64 s)).congr (fun j hj => by
          rw [HF.out]
          by_cases e : j = k
          · subst e
            simp [← HS.out]
          · by_cases hjk : j < k
            · simp [e, hjk, show j < k + 1 by omega]
            · simp [e, hjk, show ¬ j < k + 1 by omega])), HB.out.setCell (Nat.le_refl _) _⟩
      case measure => simp [intOf]; omega
    · have hk' : k = P.length := by omega
      have HR := Lib.hid hrow
      have HB := Lib.hid hbel
      clear hrow hbel hmk
      go_wp2
      go_ret
      refine ⟨_, _, w.heap.size, rfl, Nat.le_refl _, fun hp => ?_, fun hp => ⟨rfl, ?_, fun i s hs => ?_⟩, HB.out⟩
      · exact HR.out.lt
      · obtain ⟨xs, h1, _⟩ := HR.out
        exact ⟨_, _, h1⟩
      · obtain ⟨hi, hs'⟩ := List.getElem?_eq_some_iff.1 hs
        rw [HR.out.cell hi, HF.out]
        simp [hk', hi, hs']

set_option maxHeartbeats 1000000 in
theorem eqI64_any (P : List Int) (hl : P.length ≤ 1048576) (R R' : Option Addr) (c c' : Nat) (w : World) (h : Row6 w P R) (h' : Row6 w P R') :
    Calls Try.prog 33 #[.slice R P.length c, .slice R' P.length c'] w fun e w' => e = .returned (.bool true) ∧ Below w.heap.size w w' := by
  have H := Lib.hid h
  have H' := Lib.hid h'
  clear h h'
  go_enter Try.func33, Try.ntmps33
  go_wp2_with fail
  go_loopw [5] (fun i wr => ∃ k : Nat, k ≤ P.length ∧ i = .int .i64 k ∧ Below w.heap.size w wr) (fun i _ => P.length - (intOf i).toNat)
  case atStart => exact ⟨0, Nat.zero_le _, rfl, Below.refl _ _⟩
  case round =>
    obtain ⟨k, hk, rfl, hbel⟩ := hrel
    by_cases hlt : k < P.length
    · obtain ⟨b, o, n, rfl, hn, hc⟩ := (H.out.below hbel).at_ hlt
      obtain ⟨b', o', n', rfl, hn', hc'⟩ := (H'.out.below hbel).at_ hlt
      obtain rfl : n = n' := by
        rw [hn] at hn'
        exact Option.some.inj hn'
      have HB := Lib.hid hbel
      have hli : (k : Int) < (P.length : Int) := by omega
      clear hn hn' hbel
      go_wp2_with fail
      go_quiet (fail)
      go_wp2_with fail
      go_roundw
      case rel => exact ⟨k + 1, by omega, by go_num, below6N HB.out _⟩
      case measure => simp [intOf]; omega
    · have hli : ¬ (k : Int) < (P.length : Int) := by omega
      have HB := Lib.hid hbel
      clear hbel
      go_wp2_with fail
      go_ret
      exact ⟨rfl, HB.out⟩
end Go.Proofs.Ytbjcldekapipaaa
