/-
  Copying a memory: the copy lies in memory of its own, and its row has the room that it needs.
-/
import Derived.Test.YtndeklmkhfopgaaMeToOwn
namespace Go.Proofs.Ytndeklmkhfopgaa
open Go.ChangeShapes Go.WideShapes Go.ChangeAt Go.RowKit Go.Deep

theorem toBlockS_cap (xs : List Bk) (hl : xs.length ≤ 1048576) (hw : ∀ (i : Nat) (x : Bk), xs[i]? = some x → x.wt ≤ 1048576) (R : Option Addr) (cap lo : Nat) (w : World) (h : Bks w lo xs R) :
    Calls Try.prog 67 #[.slice R xs.length cap] w fun e w' => ∃ (R' : Option Addr) (c' : Nat), e = .returned (.slice R' xs.length c') ∧ xs.length ≤ c' ∧ (∃ g, w.heap.size ≤ g ∧ g < w'.heap.size ∧ Nums w' (bkNums xs) R' g) ∧ Below w.heap.size w w' := by
  have H := Lib.hid h
  have HW := Lib.hid hw
  clear h hw
  have hmk := fun W => make_row W 48 103 2 _ Try.underlying48 infoBlock xs.length hl
  go_enter Try.func67, Try.ntmps67
  go_wp2
  go_loopw [4] (fun i wr => ∃ k : Nat, k ≤ xs.length ∧ i = .int .i64 k ∧ RowGen Bk.El 103 2 w.heap.size xs.length k xs wr ∧ Below w.heap.size w wr) (fun i _ => xs.length - (intOf i).toNat)
  case atStart => exact ⟨0, Nat.zero_le _, rfl, RowGen.start (size_madeCells _ _), below1 _ _⟩
  case round =>
    obtain ⟨k, hk, rfl, hrow, hbel⟩ := hrel
    clear hmk
    by_cases hlt : k < xs.length
    · obtain ⟨b, o, x, rfl, _, hxk, hc⟩ := (H.out.below hbel).at_ hlt
      have C := Lib.hid (toBlock_any x (HW.out k x hxk)  lo wr)
      obtain ⟨c0, c1, _⟩ := hc
      have HB := Lib.hid hbel
      have HR := Lib.hid hrow
      have HT := Lib.hid hxk
      have hlc := hbel.size
      have hgl := hrow.lt
      clear hxk hbel hrow
      go_wp2_with fail
      go_at_call 108
      refine C.out.mono ?_
      rintro e w2 ⟨rfl, hat, hb2⟩
      have HR2 := Lib.hid (HR.out.below (E := Bk.El) Bk.El.keep hb2)
      obtain ⟨x0, y0⟩ := HR2.out.cells hlt 0 (by omega)
      have z0 := HR2.out.free (k * 2)
      obtain ⟨x1, y1⟩ := HR2.out.cells hlt 1 (by omega)
      have z1 := HR2.out.free (k * 2 + 1)
      rw [Nat.add_zero] at y0
      have hlt2 : w.heap.size < w2.heap.size := Nat.lt_of_lt_of_le hgl hb2.size
      have HB2 := Lib.hid (bchain HB.out hb2 hlc)
      clear hat hb2
      go_wp2_with fail
      go_roundw
      case rel =>
        refine ⟨k + 1, by omega, by go_num, RowGen.step (E := Bk.El) Bk.El.keep HR2.out HT.out [.int .i64 x.pos, .int .i64 x.size] rfl ⟨⟨rfl, rfl⟩, Nat.le_refl _⟩, ?_⟩
        (repeat (with_reducible refine Below.setCell ?_ (by simp) _))
        exact HB2.out
      case measure => simp [intOf]; omega
    · have hk' : k = xs.length := by omega
      have HR := Lib.hid hrow
      have HB := Lib.hid hbel
      clear hrow hbel
      go_wp2
      go_ret
      refine ⟨_, _, rfl, Nat.le_refl _, nums_of_row7 ?_, HB.out⟩
      have := HR.out
      rw [hk'] at this
      exact this

def ToMemoryCap (x : Me) (w : World) (e : Ending) (w' : World) : Prop := ∃ (Rfree : Option Addr) (cfree g : Nat), e = .returned (.agg #[.string x.bytes, .slice Rfree x.free.length cfree]) ∧ x.free.length ≤ cfree ∧ w.heap.size ≤ g ∧ g < w'.heap.size ∧ Nums w' (bkNums x.free) Rfree g ∧ Below w.heap.size w w'
set_option maxRecDepth 100000 in
theorem toMemory_cap (x : Me) (hT : x.wt ≤ 1048576) (Rfree : Option Addr) (cfree : Nat) (lo : Nat) (w : World) (h : Me.At w lo x Rfree) :
    Calls Try.prog 29 #[.agg #[.string x.bytes, .slice Rfree x.free.length cfree]] w (ToMemoryCap x w) := by
  obtain ⟨q_bytes, q_free, _⟩ := Me.parts_le hT
  have p_free := h
  have HP_free := Lib.hid p_free
  have C_free : Hid (∀ W : World, Bks W lo x.free Rfree → Calls Try.prog 67 #[.slice Rfree x.free.length cfree] W fun e w' => ∃ (Rfree' : Option Addr), ∃ (cfree' : Nat), e = .returned (.slice Rfree' x.free.length cfree') ∧ x.free.length ≤ cfree' ∧ (∃ g, W.heap.size ≤ g ∧ g < w'.heap.size ∧ Nums w' (bkNums x.free) Rfree' g) ∧ Below W.heap.size W w') := Lib.hid (fun W hW => toBlockS_cap x.free (by have := Bk.wts_nonneg x.free; omega) (fun i y hy => by have := Bk.wt_mem hy; omega) Rfree cfree lo W hW)
  clear hT p_free q_bytes q_free
  go_enter Try.func29, Try.ntmps29
  go_wp2_with fail
  go_at_call 67
  refine (C_free.out _ (HP_free.out.below (by (repeat (with_reducible refine Below.setCell ?_ (by first | (simp; done) | (simp; omega)) _)); exact below3 _ _ _ _))).mono ?_
  rintro e v1 ⟨Rfreez, cfreez, rfl, hcapz, ⟨gz, hg0, hg1, hp1⟩, hb1⟩
  obtain ⟨hc1, hf1⟩ := bcell hb1
  have d1_0 := keepCell (a := ⟨w.heap.size + 1 + 1, 0, none⟩) (v := .string x.bytes) hb1 (by go_simp)
  have r1_0 := keepCell (a := ⟨w.heap.size + 1, 0, none⟩) (v := .string ⟨#[]⟩) hb1 (by go_simp)
  have d1_1 := keepCell (a := ⟨w.heap.size + 1 + 1, 1, none⟩) (v := .slice none 0 0) hb1 (by go_simp)
  have r1_1 := keepCell (a := ⟨w.heap.size + 1, 1, none⟩) (v := .slice none 0 0) hb1 (by go_simp)
  have HB1 : Hid (Below w.heap.size w v1) := Lib.hid (bnext (by (repeat (with_reducible refine Below.setCell ?_ (by first | (simp; done) | (simp; omega)) _)); exact below3 _ _ _ _) hb1)
  have HS1 := Lib.hid hb1
  have hz1 : w.heap.size + 1 + 1 < v1.heap.size := (by have h9 := hb1.size; simp at h9; omega)
  have g1 : ∀ o, v1.frozen? ⟨w.heap.size + 1, o, none⟩ = false := (fun o => (hf1 _ _ (by first | (simp; done) | (simp; omega))).trans (by go_simp))
  have h1 : ∀ o, v1.frozen? ⟨w.heap.size + 1 + 1, o, none⟩ = false := (fun o => (hf1 _ _ (by first | (simp; done) | (simp; omega))).trans (by go_simp))
  have P1 := Lib.hid hp1
  have HCZ := Lib.hid hcapz
  clear hcapz
  have G0 : Hid (w.heap.size + 1 + 1 + 1 ≤ gz) := Lib.hid (by simpa using hg0)
  have G1 := Lib.hid hg1
  clear hp1 hb1 hc1 hf1 hg0 hg1
  go_wp2_with fail
  have kk := sets_in (v1.setCell ⟨w.heap.size + 1 + 1, 1, none⟩ (.slice Rfreez x.free.length cfreez)) (w.heap.size + 1) [.string x.bytes, .slice Rfreez x.free.length cfreez] (fun j hj => by
    have h4 : j = 0 ∨ j = 1 := by simp at hj; omega
    rcases h4 with rfl | rfl <;> simp [World.cell?_setCell_other, r1_0, r1_1])
  have k0 : (((v1.setCell ⟨w.heap.size + 1 + 1, 1, none⟩ (.slice Rfreez x.free.length cfreez)).setCell ⟨w.heap.size + 1, 0, none⟩ (.string x.bytes)).setCell ⟨w.heap.size + 1, 1, none⟩ (.slice Rfreez x.free.length cfreez)).cell? ⟨w.heap.size + 1, 0, none⟩ = some (.string x.bytes) := kk 0 (by simp)
  have k1 : (((v1.setCell ⟨w.heap.size + 1 + 1, 1, none⟩ (.slice Rfreez x.free.length cfreez)).setCell ⟨w.heap.size + 1, 0, none⟩ (.string x.bytes)).setCell ⟨w.heap.size + 1, 1, none⟩ (.slice Rfreez x.free.length cfreez)).cell? ⟨w.heap.size + 1, 1, none⟩ = some (.slice Rfreez x.free.length cfreez) := kk 1 (by simp)
  clear kk
  refine bodyPost_ret (v := .agg #[.string x.bytes, .slice Rfreez x.free.length cfreez]) (by simp [results, Try.results29, go_sem, k0, k1]) rfl ?_
  refine ⟨_, _, gz, rfl, HCZ.out, by have := G0.out; omega, by have := G1.out; simp; omega, ?_, ?_⟩
  · have hgz := G0.out
    refine Nums.same P1.out (fun _ => ?_)
    rw [Below.heap_setCell _ _ _ _ (by dsimp only; omega), Below.heap_setCell _ _ _ _ (by dsimp only; omega), Below.heap_setCell _ _ _ _ (by dsimp only; omega)]
  · (repeat (with_reducible refine Below.setCell ?_ (by first | (simp; done) | (simp; omega)) _))
    exact HB1.out
end Go.Proofs.Ytndeklmkhfopgaa
