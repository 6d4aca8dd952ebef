/-
  The walks of markText, and of marking and asking lists of strings.
-/
import Derived.Test.YtlmmbheamicdaabTyOwnT
import Derived.Deep.RegionWith
import Derived.Deep.RegionHeld3
namespace Go.Proofs.Ytlmmbheamicdaab
open Go.ChangeShapes Go.WideShapes Go.ChangeAt Go.RowKit Go.Deep

/-- A number's low byte. -/
def lowM (x : Int) : UInt8 := UInt8.ofNat x.toNat
/-- One byte, as a string. -/
theorem convM (W : World) (b : Nat) (x : Int) (hc : W.cell? ⟨b, 0, none⟩ = some (.int .u8 x)) :
    (convert 57 9 (.slice (some ⟨b, 0, none⟩) 1 1)).run Try.prog W = .ok (.string ⟨#[lowM x]⟩) W := by
  rw [run_convert_bytes_string W _ _ _ _ _ _ Try.underlying57 Try.underlying5 Try.underlying9,
    run_bytesToString W ⟨b, 0, none⟩ 1 1 [x] (by
      have := run_loadCells_list (P := Try.prog) W ⟨b, 0, none⟩ [.int .u8 x] (fun j v hj => by
        cases j with
        | zero => simp at hj; subst hj; simpa [Addr.add] using hc
        | succ j => simp at hj)
      simpa using this)]
  rfl

/-- What the loop of markText makes of a number and what lies behind it. -/
def mtL (k : Nat) (out : ByteArray) : ByteArray := if _h : k = 0 then out else mtL (k / 10) (⟨#[lowM (48 + ((k % 10 : Nat) : Int))]⟩ ++ out)
termination_by k
decreasing_by omega
theorem mtL_zero (out : ByteArray) : mtL 0 out = out := by rw [mtL, dif_pos rfl]
theorem mtL_step {k : Nat} (h : k ≠ 0) (out : ByteArray) : mtL k out = mtL (k / 10) (⟨#[lowM (48 + ((k % 10 : Nat) : Int))]⟩ ++ out) := by rw [mtL, dif_neg h]
/-- The mark of a number. -/
def mt (k : Nat) : ByteArray := ⟨#[109]⟩ ++ mtL k ⟨#[]⟩

set_option maxHeartbeats 1000000 in
theorem markText_any (k : Nat) (h0 : 1 ≤ k) (h1 : k ≤ 1099511627776) (w : World) :
    Calls Try.prog 37 #[.int .i64 k] w fun e w' => e = .returned (.string (mt k)) ∧ Below w.heap.size w w' := by
  have hk0 : ¬ (k : Int) ≤ 0 := by omega
  have H1 := Lib.hid h1
  go_enter Try.func37, Try.ntmps37
  go_wp2_with fail
  go_loopw [0, 3] (fun x s wr => ∃ (j : Nat) (out : ByteArray), x = .int .i64 j ∧ s = .string out ∧ Hid (mtL j out = mtL k ⟨#[]⟩ ∧ out.size + j ≤ k) ∧ Below w.heap.size w wr) (fun x _ _ => (intOf x).toNat)
  case atStart => exact ⟨k, ⟨#[]⟩, rfl, rfl, ⟨rfl, by show 0 + k ≤ k; omega⟩, Below.refl _ _⟩
  case round =>
    obtain ⟨j, out, rfl, rfl, hinv, hbel⟩ := hrel
    have HB := Lib.hid hbel
    clear hbel
    by_cases hj : 0 < j
    · have hj' : (0 : Int) < (j : Int) := by omega
      have hjk : j ≤ 1099511627776 := by have := hinv.out.2; have := H1.out; omega
      have hos : out.size ≤ 1099511627776 := by have := hinv.out.2; have := H1.out; omega
      have b0 : (0 : Int) ≤ (j : Int) % 10 := by omega
      have b1 : (j : Int) % 10 < 10 := by omega
      have q4 : IntKind.u8.wrap (48 + (j : Int) % 10) = 48 + (j : Int) % 10 := by
        simp [IntKind.wrap, IntKind.signed, IntKind.bits]
        omega
      have hds : ¬ (9223372036854775807 < 1 + out.size) := by omega
      have hcA := convM (wr.alloc (.cells #[.int .u8 (48 + (j : Int) % 10)] 5)) wr.heap.size (48 + (j : Int) % 10) (by simp)
      go_wp2_with fail
      go_roundw
      case rel =>
        refine ⟨j / 10, ⟨#[lowM (48 + (j : Int) % 10)]⟩ ++ out, by simp, rfl, ⟨?_, ?_⟩, bnext HB.out (below1 _ _)⟩
        · rw [← hinv.out.1, mtL_step (k := j) (by omega)]
          rfl
        · have h9 := hinv.out.2
          rw [ByteArray.size_append]
          show 1 + out.size + j / 10 ≤ k
          omega
      case measure => simp [intOf]; omega
    · have hj' : ¬ (0 : Int) < (j : Int) := by omega
      have e9 : j = 0 := by omega
      have h9 := hinv.out.1
      rw [e9, mtL_zero] at h9
      have hos : out.size ≤ 1099511627776 := by have := hinv.out.2; have := H1.out; omega
      have hds : ¬ (9223372036854775807 < 1 + out.size) := by omega
      have H9 := Lib.hid h9
      clear h9 e9
      go_wp2_with fail
      go_ret
      refine ⟨ret_string ?_, HB.out⟩
      rw [mt, ← H9.out]

/-- Nothing has turned but these blocks and new memory. -/
structure Kb (bs : List Nat) (w w' : World) : Prop where
  os : w'.os = w.os
  tape : w'.tape = w.tape
  output : w'.output = w.output
  but : KeptBut bs w w'
theorem Kb.refl (bs : List Nat) (w : World) : Kb bs w w := ⟨rfl, rfl, rfl, KeptBut.refl _ _⟩
theorem Kb.trans {bs : List Nat} {a b c : World} (h : Kb bs a b) (k : Kb bs b c) : Kb bs a c := ⟨k.os.trans h.os, k.tape.trans h.tape, k.output.trans h.output, h.but.trans k.but⟩
theorem Kb.of_below {bs : List Nat} {w w' : World} (h : Below w.heap.size w w') : Kb bs w w' := ⟨h.os, h.tape, h.output, KeptBut.of_below h⟩
theorem Kb.setCell {bs : List Nat} {w : World} {p : Addr} (hp : p.block ∈ bs) (v : Value) : Kb bs w (w.setCell p v) := ⟨rfl, rfl, rfl, KeptBut.setCell hp v⟩
theorem Kb.mono {bs cs : List Nat} {w w' : World} (h : Kb bs w w') (hs : ∀ b ∈ bs, b ∈ cs) : Kb cs w w' := ⟨h.os, h.tape, h.output, h.but.mono hs⟩
theorem Kb.below {bs : List Nat} {B : Nat} {w w' : World} (h : Kb bs w w') (hs : ∀ b ∈ bs, B ≤ b) (hB : B ≤ w.heap.size) : Below B w w' := ⟨h.os, h.tape, h.output, h.but.1, fun k hk => h.but.2 k (by omega) (fun hm => by have := hs k hm; omega)⟩

/-- The marks from k on. -/
def mts (k n : Nat) : List ByteArray := (List.range n).map fun i => mt (k + i)
theorem mts_length (k n : Nat) : (mts k n).length = n := by simp [mts]
theorem mts_get {k n i : Nat} {s : ByteArray} : (mts k n)[i]? = some s ↔ i < n ∧ s = mt (k + i) := by
  unfold mts
  rw [List.getElem?_map]
  by_cases h : i < n
  · rw [List.getElem?_range h]
    simp [h, eq_comm]
  · rw [List.getElem?_eq_none (by simpa using h)]
    simp [h]
/-- The first i marked. -/
def mtTo (ls : List ByteArray) (k i : Nat) : List ByteArray := mts k i ++ ls.drop i
theorem mtTo_zero (ls : List ByteArray) (k : Nat) : mtTo ls k 0 = ls := by simp [mtTo, mts]
theorem mtTo_all (ls : List ByteArray) (k : Nat) : mtTo ls k ls.length = mts k ls.length := by simp [mtTo]
theorem mtTo_get {ls : List ByteArray} {k i j : Nat} (_ : i ≤ ls.length) : (mtTo ls k i)[j]? = if j < i then some (mt (k + j)) else ls[j]? := by
  unfold mtTo
  by_cases h : j < i
  · rw [if_pos h, List.getElem?_append_left (by rw [mts_length]; exact h)]
    exact mts_get.mpr ⟨h, rfl⟩
  · rw [if_neg h, List.getElem?_append_right (by rw [mts_length]; omega), mts_length, List.getElem?_drop]
    congr 1
    omega
theorem StrsOwn.step {w : World} {ls : List ByteArray} {g k i : Nat} {bs : List Nat} (h : StrsOwn w (mtTo ls k i) (some ⟨g, 0, none⟩) bs) (hi : i < ls.length) : StrsOwn (w.setCell ⟨g, i, none⟩ (.string (mt (k + i)))) (mtTo ls k (i + 1)) (some ⟨g, 0, none⟩) bs := by
  rcases h with ⟨h, _⟩ | ⟨g', h1, h2, h3, h4⟩
  · have h9 := congrArg List.length h
    simp [mtTo, mts_length] at h9
    omega
  · obtain rfl : g = g' := by
      injection h1 with h1
      injection h1
    refine Or.inr ⟨g, rfl, h2, h3.setCell _ _ _, fun j s hj => ?_⟩
    rw [mtTo_get (by omega)] at hj
    by_cases e : j = i
    · subst e
      rw [if_pos (by omega)] at hj
      cases hj
      obtain ⟨v, hv⟩ : ∃ v, w.cell? ⟨g, j, none⟩ = some v := ⟨_, h4 j (ls[j]'hi) (by rw [mtTo_get (by omega), if_neg (by omega), List.getElem?_eq_getElem hi])⟩
      exact World.cell?_setCell_same _ _ _ hv
    · rw [World.cell?_setCell_other _ _ _ _ (fun e2 => e (by injection e2 with _ h2; exact h2.symm))]
      refine h4 j s ?_
      rw [mtTo_get (by omega)]
      by_cases h5 : j < i
      · rw [if_pos (by omega)] at hj
        rw [if_pos h5]
        exact hj
      · rw [if_neg (by omega)] at hj
        rw [if_neg h5]
        exact hj
theorem StrsOwn.at_ {w : World} {ls : List ByteArray} {A : Option Addr} {bs : List Nat} (h : StrsOwn w ls A bs) {i : Nat} (hi : i < ls.length) : ∃ g, A = some ⟨g, 0, none⟩ ∧ bs = [g] ∧ Blk w g ∧ w.cell? ⟨g, i, none⟩ = some (.string (ls[i]'hi)) := by
  rcases h with ⟨h, _⟩ | ⟨g, h1, h2, h3, h4⟩
  · rw [h] at hi
    simp at hi
  · exact ⟨g, h1, h2, h3, h4 i _ (List.getElem?_eq_getElem hi)⟩

set_option maxHeartbeats 1000000 in
theorem markStringS_any (ls : List ByteArray) (A : Option Addr) (ca k : Nat) (bs : List Nat) (h0 : 1 ≤ k) (h1 : k + ls.length ≤ 1099511627776) (w : World) (h : StrsOwn w ls A bs) :
    Calls Try.prog 36 #[.slice A ls.length ca, .int .i64 k] w fun e w' => e = .returned (.int .i64 ((k + ls.length : Nat) : Int)) ∧ StrsOwn w' (mts k ls.length) A bs ∧ Kb bs w w' := by
  have H := Lib.hid h
  clear h
  go_enter Try.func36, Try.ntmps36
  go_wp2_with fail
  go_loopw [1, 5] (fun x i wr => ∃ j : Nat, j ≤ ls.length ∧ i = .int .i64 j ∧ x = .int .i64 ((k + j : Nat) : Int) ∧ Hid (StrsOwn wr (mtTo ls k j) A bs) ∧ Hid (Kb bs w wr)) (fun _ i _ => ls.length - (intOf i).toNat)
  case atStart => exact ⟨0, Nat.zero_le _, rfl, rfl, by rw [mtTo_zero]; exact H.out, Kb.refl _ _⟩
  case round =>
    obtain ⟨j, hj, rfl, rfl, hown, hkb⟩ := hrel
    by_cases hlt : j < ls.length
    · have hlen : (mtTo ls k j).length = ls.length := by simp [mtTo, mts_length]; omega
      obtain ⟨g, s0, rfl, hbs, hblk, hc⟩ : ∃ (g : Nat) (s0 : ByteArray), A = some ⟨g, 0, none⟩ ∧ bs = [g] ∧ Blk wr g ∧ wr.cell? ⟨g, j, none⟩ = some (.string s0) := by
        obtain ⟨g, h1, h2, h3, h4⟩ := hown.out.at_ (i := j) (by omega)
        exact ⟨g, _, h1, h2, h3, h4⟩
      obtain ⟨m, hm⟩ : ∃ m, k + j = m := ⟨_, rfl⟩
      have C := Lib.hid (fun W => markText_any m (by omega) (by omega) W)
      have hlj : (j : Int) < (ls.length : Int) := by omega
      have HG := Lib.hid hblk
      have HBS := Lib.hid hbs
      have HLT := Lib.hid hlt
      have HM := Lib.hid hm
      have hm1 : (m : Int) ≤ 1099511627776 := by omega
      have hm0 : (0 : Int) ≤ (m : Int) := by omega
      rw [hm]
      clear hblk hbs hm hlen
      go_wp2_with fail
      go_at_call 37
      refine (C.out _).mono ?_
      rintro e w2 ⟨rfl, hb2⟩
      have hc2 := keepCell hb2 hc
      have hf2 : w2.frozen? ⟨g, j, none⟩ = false := (HG.out.below hb2).free j
      have HB2 := Lib.hid hb2
      clear hb2 hc
      go_wp2_with fail
      go_roundw
      case rel =>
        have h9 : StrsOwn w2 (mtTo ls k j) (some ⟨g, 0, none⟩) bs := hown.out.keep (cs := []) (KeptBut.of_below HB2.out) (by simp)
        have h8 := h9.step HLT.out
        rw [HM.out] at h8
        refine ⟨j + 1, by omega, by go_num, ?_, h8, hkb.out.trans ((Kb.of_below HB2.out).trans (Kb.setCell (by rw [HBS.out]; simp) _))⟩
        have := HM.out
        first | (rw [show ((k + (j + 1) : Nat) : Int) = (m : Int) + 1 by omega]) | (congr 1; omega)
      case measure => simp [intOf]; omega
    · have e9 : j = ls.length := by omega
      subst e9
      have h9 := hown.out
      rw [mtTo_all] at h9
      have H9 := Lib.hid h9
      clear h9
      go_wp2_with fail
      go_ret
      exact ⟨rfl, H9.out, hkb.out⟩

set_option maxHeartbeats 1000000 in
theorem heldStringS_any (n : Nat) (A : Option Addr) (ca k : Nat) (h0 : 1 ≤ k) (h1 : k + n ≤ 1099511627776) (lo : Nat) (w : World) (h : Strs w lo (mts k n) A) :
    Calls Try.prog 38 #[.slice A n ca, .int .i64 k] w fun e w' => e = .returned (.int .i64 ((k + n : Nat) : Int)) ∧ Below w.heap.size w w' := by
  have H := Lib.hid h
  clear h
  go_enter Try.func38, Try.ntmps38
  go_wp2_with fail
  go_loopw [1, 5] (fun x i wr => ∃ j : Nat, j ≤ n ∧ i = .int .i64 j ∧ x = .int .i64 ((k + j : Nat) : Int) ∧ Below w.heap.size w wr) (fun _ i _ => n - (intOf i).toNat)
  case atStart => exact ⟨0, Nat.zero_le _, rfl, rfl, Below.refl _ _⟩
  case round =>
    obtain ⟨j, hj, rfl, rfl, hbel⟩ := hrel
    by_cases hlt : j < n
    · obtain ⟨b, o, s, rfl, _, hs, hc⟩ := (H.out.below hbel).at_ (k := j) (by rw [mts_length]; exact hlt)
      obtain ⟨m, hm⟩ : ∃ m, k + j = m := ⟨_, rfl⟩
      obtain ⟨_, rfl⟩ := mts_get.mp hs
      rw [hm] at hc
      rw [hm]
      have C : Hid (∀ a : Nat, Calls Try.prog 37 #[.int .i64 m] (wr.drewN a) fun e w' => e = .returned (.string (mt m)) ∧ Below wr.heap.size (wr.drewN a) w') := Lib.hid (fun a => markText_any m (by omega) (by omega) (wr.drewN a))
      have hlj : (j : Int) < (n : Int) := by omega
      have HB := Lib.hid hbel
      have HM := Lib.hid hm
      have hm1 : (m : Int) ≤ 1099511627776 := by omega
      have hm0 : (0 : Int) ≤ (m : Int) := by omega
      clear hbel hm hs
      go_wp2_with fail
      go_region_held3 (fun w' => w'.cell? ⟨b, o + j, none⟩ = some (.string (mt m)) ∧ Below wr.heap.size wr w')
        (first | assumption | (exact (Below.refl _ _).drew) | (exact ⟨hc, (Below.refl _ _).drew⟩) | (refine ⟨?_, ?_⟩ <;> assumption))
        (first | (go_at_call 37; refine (C.out 1).mono ?_; rintro e wx ⟨rfl, hbx⟩; have hbw : Below wr.heap.size wr wx := (Below.refl wr.heap.size wr).drew.trans hbx; have p0 := keepCell hbw hc))
      go_wp2_with fail
      go_roundw
      case rel =>
        refine ⟨j + 1, by omega, by go_num, ?_, bnext HB.out (by assumption)⟩
        have := HM.out
        first | (rw [show ((k + (j + 1) : Nat) : Int) = (m : Int) + 1 by omega]) | (congr 1; omega)
      case measure => simp [intOf]; omega
    · have e9 : j = n := by omega
      subst e9
      have HB := Lib.hid hbel
      clear hbel
      go_wp2_with fail
      go_ret
      exact ⟨rfl, HB.out⟩
end Go.Proofs.Ytlmmbheamicdaab
