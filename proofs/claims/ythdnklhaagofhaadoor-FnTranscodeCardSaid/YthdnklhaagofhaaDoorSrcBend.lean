/-
  The walk of the model's l01Bend: some text, a little longer at most.
-/
import Derived.Test.YthdnklhaagofhaaDoorSrcWord
import Derived.Test.YthdnklhaagofhaaDoorSrcNum
import Derived.Lib.ConvBytes
namespace Go.Proofs.YthdnklhaagofhaaDoor
open Go.ChangeShapes Go.WideShapes Go.ChangeAt Go.RowKit

/-- A row of bytes in memory, none of them frozen. -/
def BytesIn (w : World) (g n : Nat) : Prop := ∃ xs : List Int, xs.length = n ∧ (∀ i, i < n → w.cell? ⟨g, i, none⟩ = some (.int .u8 (xs.getD i 0))) ∧ ∀ i, i < n → w.frozen? ⟨g, i, none⟩ = false
theorem BytesIn.only {w w' : World} {B g n : Nat} (h : BytesIn w g n) (ho : OnlyB B w w') (hg : g ≠ B) : BytesIn w' g n := by
  obtain ⟨xs, hl, h1, h2⟩ := h
  exact ⟨xs, hl, fun i hi => (ho.cell hg).trans (h1 i hi), fun i hi => by rw [← h2 i hi]; simp only [World.frozen?, ho.2.2 g hg]⟩
theorem BytesIn.back {w : World} {g n c : Nat} (h : BytesIn w g n) : ∃ s : ByteArray, s.size = n ∧ (convert 22 9 (.slice (some ⟨g, 0, none⟩) n c)).run Tryd.prog w = .ok (.string s) w := by
  obtain ⟨xs, hl, h1, _⟩ := h
  exact ⟨strOfNums xs, by rw [strOfNums_size, hl], run_convert_bytes_arg w 22 5 Tryd.underlying22 Tryd.underlying5 g 0 n c xs hl (fun i hi => by rw [Nat.zero_add]; exact h1 i hi) 9 Tryd.underlying9⟩
theorem BytesIn.set {w : World} {g n k : Nat} (h : BytesIn w g n) (hk : k < n) (x : Int) : BytesIn (w.setCell ⟨g, k, none⟩ (.int .u8 x)) g n := by
  obtain ⟨xs, hl, h1, h2⟩ := h
  refine ⟨xs.set k x, by simpa using hl, fun i hi => ?_, fun i hi => by simpa using h2 i hi⟩
  by_cases e : i = k
  · subst e
    rw [World.cell?_setCell_same _ _ _ (h1 i hi)]
    simp [List.getD, hl, hi]
  · rw [World.cell?_setCell_other _ _ _ _ (by simp), h1 i hi]
    have e2 : k ≠ i := fun h => e h.symm
    simp [List.getD, e2]
def byt8 (s : ByteArray) : List Int := s.data.toList.map fun b => (b.toNat : Int)
theorem cutHead8 (s : ByteArray) (p : Nat) (h : p ≤ s.size) (W : World) : (Instr.slice 9 (.string s) none (some (.int .i64 (p : Int))) none).run Tryd.prog W = .ok (.string (s.extract 0 p)) W := by
  simp [Instr.slice, run_underlying Tryd.underlying9, Instr.sliceBounds, run_sliceBound, show (p : Int) ≤ (s.size : Int) by omega]
theorem bytes_new (W : World) (s : ByteArray) : ∃ (cap : Nat) (W3 : World), (convert 9 22 (.string s)).run Tryd.prog W = .ok (.slice (some ⟨W.heap.size, 0, none⟩) s.size cap) W3 ∧ Below W.heap.size W W3 ∧ BytesIn W3 W.heap.size s.size := by
  have hc := Lib.run_convert_string_bytes (P := Tryd.prog) W 9 22 5 s Tryd.underlying9 Tryd.underlying22 Tryd.underlying5
  obtain ⟨W3, hW3⟩ : ∃ W3, Lib.bytesWorld W 5 s = W3 := ⟨_, rfl⟩
  have hold := Lib.bytesWorld_at_old W 5 s
  have hnew := Lib.bytesWorld_at_new W 5 s
  have hsz := Lib.bytesWorld_size W 5 s
  have hcl := Lib.bytesWorld_cell W 5 s
  rw [hW3] at hc hold hnew hsz hcl
  have hos : W3.os = W.os ∧ W3.tape = W.tape ∧ W3.output = W.output := by rw [← hW3]; exact ⟨rfl, rfl, rfl⟩
  refine ⟨_, W3, hc, ⟨hos.1, hos.2.1, hos.2.2, by omega, fun k hk => hold k hk⟩, byt8 s, by simp [byt8], fun i hi => ?_, fun j hj => ?_⟩
  · rw [hcl i hi]
    have e : (byt8 s).getD i 0 = ((s.data.toList.getD i 0).toNat : Int) := by
      simp [byt8, List.getD, hi]
    rw [e]
  · have h2 : (Lib.bytesCells W 5 s).size = s.size + (grownCap W s.size 0 5 - s.size) := by
      simp [Lib.bytesCells]
    simp only [World.frozen?, hnew, h2]
    have h3 : ¬ s.size + (grownCap W s.size 0 5 - s.size) ≤ j := by omega
    simp [h3]

set_option maxRecDepth 100000 in
set_option maxHeartbeats 2000000 in
theorem bend_any (B n : Nat) (hn : n ≤ 700000) (sv : Value) (t : ByteArray) (m : Nat) (ht : t.size ≤ m) (hm : m ≤ 10000) (W : World) (h : SrcAt W B n sv) :
    Calls Tryd.prog 95 #[.pointer (some ⟨B, 0, none⟩), .string t] W (SomeText B n 1010 (m + 1000) sv W) := by
  have hlt := h.lt
  have H0 := Lib.hid h
  obtain ⟨c, W1, hconv, hb1, hB1⟩ := bytes_new W t
  have CP := Lib.hid (pick_any B n (by omega) sv 4 (by omega) W1 (h.below hb1))
  have HK1 := Lib.hid ((KeepB.refl B W).below hb1 (Nat.le_of_lt hlt))
  have HB1 := Lib.hid hB1
  have HG : Hid (W.heap.size ≠ B) := Lib.hid (by omega)
  have HL : Hid (B < W.heap.size) := Lib.hid hlt
  obtain ⟨G, hG⟩ : ∃ G, W.heap.size = G := ⟨_, rfl⟩
  rw [hG] at hconv HB1 HG HL
  clear h hb1 hB1 hlt
  go_enter Tryd.func95, Tryd.ntmps95
  go_wp2_with fail
  go_at_call 92
  refine CP.out.mono ?_
  rintro e W2 ⟨r, n2, rfl, r0, r1, hn2, hs2, ho2⟩
  have HB2 := Lib.hid (HB1.out.only ho2 HG.out)
  have HK2 := Lib.hid (HK1.out.trans ho2.keep)
  have HS2 := Lib.hid hs2
  clear CP HB1 HK1 ho2 hs2 hconv
  have hr : r = 0 ∨ r = 1 ∨ r = 2 ∨ r = 3 := by omega
  rcases hr with rfl | rfl | rfl | rfl
  · have CW := Lib.hid (word_any B n2 (by omega) sv 3 (by omega) (by omega) W2 HS2.out)
    clear HS2 HB2
    go_wp2_with fail
    go_at_call 139
    refine CW.out.mono ?_
    rintro e W3 ⟨u, n3, rfl, hu, hn3, hs3, hk3⟩
    have HS3 := Lib.hid hs3
    have HK3 := Lib.hid (HK2.out.trans hk3)
    have hm1 : ¬ 9223372036854775807 < t.size + u.size := by omega
    clear hs3 hk3 CW HK2
    go_wp2_with fail
    go_ret
    exact ⟨_, n3, rfl, by rw [ByteArray.size_append]; omega, by omega, HS3.out, HK3.out⟩
  · have CP2 := Lib.hid (pick_any B n2 (by omega) sv ((t.size : Int) + 1) (by omega) W2 HS2.out)
    clear HS2 HB2
    go_wp2_with fail
    go_at_call 92
    refine CP2.out.mono ?_
    rintro e W3 ⟨k, n3, rfl, k0, k1, hn3, hs3, ho3⟩
    obtain ⟨k, rfl⟩ := Int.eq_ofNat_of_zero_le k0
    have hcut := fun W => cutHead8 t k (by omega) W
    have HS3 := Lib.hid hs3
    have HK3 := Lib.hid (HK2.out.trans ho3.keep)
    clear hs3 ho3 CP2 HK2
    go_wp2_with fail
    go_ret
    exact ⟨_, n3, rfl, by rw [ByteArray.size_extract]; omega, by omega, HS3.out, HK3.out⟩
  · by_cases hz : t.size = 0
    · have hz0 : ¬ (0 : Int) < (t.size : Int) := by omega
      obtain ⟨s, hs, hback⟩ := HB2.out.back (c := c)
      rw [hz] at hback
      go_wp2_with fail
      go_ret
      exact ⟨_, n2, rfl, by omega, by omega, HS2.out, HK2.out⟩
    · have hz0 : (0 : Int) < (t.size : Int) := by omega
      have CP2 := Lib.hid (pick_any B n2 (by omega) sv (t.size : Int) (by omega) W2 HS2.out)
      clear HS2
      go_wp2_with fail
      go_at_call 92
      refine CP2.out.mono ?_
      rintro e W3 ⟨k, n3, rfl, k0, k1, hn3, hs3, ho3⟩
      obtain ⟨k, rfl⟩ := Int.eq_ofNat_of_zero_le k0
      have HK3 := Lib.hid (HK2.out.trans ho3.keep)
      have CN := Lib.hid (next_any B n3 (by omega) sv W3 hs3)
      have HB3 := Lib.hid (HB2.out.only ho3 HG.out)
      clear hs3 ho3 CP2 HK2 HB2
      go_wp2_with fail
      go_at_call 135
      refine CN.out.mono ?_
      rintro e W4 ⟨x, rfl, x0, x1, hs4, ho4⟩
      have HK4 := Lib.hid (HK3.out.trans ho4.keep)
      have hB4 := HB3.out.only ho4 HG.out
      have hkt : k < t.size := by omega
      have hki : (k : Int) < (t.size : Int) := by omega
      have hB5 := hB4.set hkt x
      obtain ⟨s, hs, hback⟩ := hB5.back (c := c)
      obtain ⟨xs, _, hcx, hfx⟩ := hB4
      have hc1 := hcx k hkt
      have hf1 := hfx k hkt
      have HS4 := Lib.hid hs4
      have hbel : Below W.heap.size W4 (W4.setCell ⟨G, k, none⟩ (.int .u8 x)) := by
        rw [hG]
        exact (Below.refl G W4).setCell (p := ⟨G, k, none⟩) (Nat.le_refl _) _
      have HS5 := Lib.hid (H0.out.low hs4 hbel)
      have HK5 : Hid (KeepB B W (W4.setCell ⟨G, k, none⟩ (.int .u8 x))) := Lib.hid ⟨HK4.out.1.trans (hbel.mono (by have := HL.out; omega)), Nat.le_trans HK4.out.2.1 hbel.size, fun j hj hl => (hbel.block j hl).trans (HK4.out.2.2 j hj hl)⟩
      clear hbel
      clear hs4 ho4 CN HK3 HB3 hcx hfx hB5
      go_wp2_with fail
      go_ret
      exact ⟨_, n3 + 1, rfl, by omega, by omega, HS5.out, HK5.out⟩
  · obtain ⟨s, hs, hback⟩ := HB2.out.back (c := c)
    go_wp2_with fail
    go_ret
    exact ⟨_, n2, rfl, by omega, by omega, HS2.out, HK2.out⟩
end Go.Proofs.YthdnklhaagofhaaDoor
