/-
  The walks of the linked list's making and reading.
-/
import Derived.Test.YtoeofhhmkkpjbaaChainB
import Derived.Test.YtoeofhhmkkpjbaaMeToOwn
namespace Go.Proofs.Ytoeofhhmkkpjbaa
open Go.ChangeShapes Go.WideShapes Go.ChangeAt Go.RowKit Go.Deep

/-- One place more, at the end. -/
theorem chain_snoc {B : Nat} {w : World} {xs : Pls} {g : Nat} {b : Bk} (h : ChnAt B w (xs ++ [(g, b)])) (hB : B ≤ w.heap.size) (c : Bk) (tB tP : TypeId) :
    ChnAt B (((w.setCell ⟨g, 2, none⟩ (.pointer (some ⟨w.heap.size + 1, 0, none⟩))).alloc (.cells #[.int .i64 c.pos, .int .i64 c.size] tB)).alloc (.cells #[.int .i64 c.pos, .int .i64 c.size, .pointer none] tP)) ((xs ++ [(g, b)]) ++ [(w.heap.size + 1, c)]) ∧
    Below B w (((w.setCell ⟨g, 2, none⟩ (.pointer (some ⟨w.heap.size + 1, 0, none⟩))).alloc (.cells #[.int .i64 c.pos, .int .i64 c.size] tB)).alloc (.cells #[.int .i64 c.pos, .int .i64 c.size, .pointer none] tP)) := by
  obtain ⟨_, h2, _, _, _, h6⟩ := h.parts
  have hlt := h2.lt
  have hz : (w.setCell ⟨g, 2, none⟩ (.pointer (some ⟨w.heap.size + 1, 0, none⟩))).heap.size = w.heap.size := by simp
  have ha : Node (w.setCell ⟨g, 2, none⟩ (.pointer (some ⟨w.heap.size + 1, 0, none⟩))) g b (some ⟨w.heap.size + 1, 0, none⟩) := by
    refine ⟨h2.blk.set _ _, ?_, ?_, World.cell?_setCell_same _ _ _ h2.c2⟩
    · rw [World.cell?_setCell_other _ _ _ _ (by simp)]; exact h2.c0
    · rw [World.cell?_setCell_other _ _ _ _ (by simp)]; exact h2.c1
  have hkb : Kb [g] w (w.setCell ⟨g, 2, none⟩ (.pointer (some ⟨w.heap.size + 1, 0, none⟩))) := Kb.setCell (by simp) _
  generalize w.setCell ⟨g, 2, none⟩ (.pointer (some ⟨w.heap.size + 1, 0, none⟩)) = W at *
  have hz1 : (W.alloc (.cells #[.int .i64 c.pos, .int .i64 c.size] tB)).heap.size = w.heap.size + 1 := by simp [hz]
  have hb2 : Below W.heap.size W ((W.alloc (.cells #[.int .i64 c.pos, .int .i64 c.size] tB)).alloc (.cells #[.int .i64 c.pos, .int .i64 c.size, .pointer none] tP)) := below2 _ _ _
  have hn : Node ((W.alloc (.cells #[.int .i64 c.pos, .int .i64 c.size] tB)).alloc (.cells #[.int .i64 c.pos, .int .i64 c.size, .pointer none] tP)) (w.heap.size + 1) c none := by
    have hh := heap_alloc_new (W.alloc (.cells #[.int .i64 c.pos, .int .i64 c.size] tB)) (.cells #[.int .i64 c.pos, .int .i64 c.size, .pointer none] tP)
    rw [hz1] at hh
    refine ⟨⟨_, _, hh⟩, ?_, ?_, ?_⟩ <;> (simp only [World.cell?, hh]; rfl)
  have hkk : Kb [g] w ((W.alloc (.cells #[.int .i64 c.pos, .int .i64 c.size] tB)).alloc (.cells #[.int .i64 c.pos, .int .i64 c.size, .pointer none] tP)) := hkb.trans (Kb.of_below hb2)
  have hr := h.ins (b' := c) (g' := w.heap.size + 1) hB hkk.but (ha.below hb2) (by omega) hn
  rw [List.append_assoc]
  exact ⟨by simpa using hr, kbB hkk h6 hB⟩
set_option maxHeartbeats 1000000 in
theorem chainOf_any (xs : List Bk) (hl : xs.length ≤ 1048576) (R : Option Addr) (c lo : Nat) (w : World) (h : Bks w lo xs R) :
    Calls Try.prog 37 #[.slice R xs.length c] w fun e w' => e = .returned (.pointer (some ⟨w.heap.size, 0, none⟩)) ∧ ∃ tl : Pls, ChnAt w.heap.size w' ((w.heap.size, ⟨0, 0⟩) :: tl) ∧ tl.map Prod.snd = xs ∧ Below w.heap.size w w' := by
  have H := Lib.hid h
  clear h
  go_enter Try.func37, Try.ntmps37
  go_wp2_with fail
  go_loopw [4, 12] (fun v i wr => ∃ k : Nat, k ≤ xs.length ∧ i = .int .i64 k ∧ (∃ (pre : Pls) (g : Nat) (b : Bk), v = .pointer (some ⟨g, 0, none⟩) ∧ Hid (ChnAt w.heap.size wr (pre ++ [(g, b)])) ∧ Hid ((pre ++ [(g, b)]).map Prod.snd = ⟨0, 0⟩ :: xs.take k) ∧ Hid (hdP (pre ++ [(g, b)]) none = some ⟨w.heap.size, 0, none⟩)) ∧ Hid (Below w.heap.size w wr)) (fun _ i _ => xs.length - (intOf i).toNat)
  case atStart =>
    refine ⟨0, Nat.zero_le _, rfl, ⟨[], w.heap.size, ⟨0, 0⟩, rfl, Lib.hid ⟨⟨⟨⟨_, _, heap_alloc_new w _⟩, by go_simp, by go_simp, by go_simp; rfl⟩, trivial⟩, by simp, by simp⟩, Lib.hid (by simp), Lib.hid rfl⟩, Lib.hid (below1 _ _)⟩
  case round =>
    obtain ⟨k, hk, rfl, ⟨pre, g, b, rfl, HC, HM, HH⟩, HB⟩ := hrel
    by_cases hlt : k < xs.length
    · obtain ⟨b1, o, y, rfl, _, hyk, hc⟩ := (H.out.below HB.out).at_ hlt
      obtain ⟨c0, c1, _⟩ := hc
      obtain ⟨_, h2, _, _, _, h6⟩ := HC.out.parts
      have f2 := h2.blk.free 2
      have g2 := h2.c2
      have hgl := h2.lt
      have HY := Lib.hid hyk
      have HS := Lib.hid (fun tB tP => chain_snoc HC.out HB.out.size y tB tP)
      have hli : (k : Int) < (xs.length : Int) := by omega
      clear hyk h2 h6
      go_wp2_with fail
      go_roundw
      case rel =>
        refine ⟨k + 1, hlt, by go_num, ⟨pre ++ [(g, b)], wr.heap.size + 1, y, rfl, Lib.hid (HS.out _ _).1, Lib.hid ?_, Lib.hid ?_⟩, Lib.hid (HB.out.trans (HS.out _ _).2)⟩
        · rw [List.map_append, HM.out, List.cons_append, List.take_succ_eq_append_getElem hlt]
          obtain ⟨_, e⟩ := List.getElem?_eq_some_iff.1 HY.out
          rw [e]
          rfl
        · rw [hdP_append, ← HH.out]
          cases pre <;> rfl
      case measure => simp [intOf]; omega
    · have hk' : k = xs.length := by omega
      have hli : ¬ (k : Int) < (xs.length : Int) := by omega
      subst hk'
      go_wp2_with fail
      go_ret
      refine ⟨rfl, ?_⟩
      have hm := HM.out
      rw [List.take_length] at hm
      have hh := HH.out
      have hc := HC.out
      cases hp : pre ++ [(g, b)] with
      | nil => simp at hp
      | cons y ys =>
        obtain ⟨g0, b0⟩ := y
        rw [hp] at hm hh hc
        rw [List.map_cons] at hm
        injection hm with e1 e2
        have e3 : g0 = w.heap.size := by simpa [hdP] using hh
        simp only at e1
        subst e3
        subst e1
        exact ⟨ys, hc, e2, HB.out⟩
set_option maxHeartbeats 1000000 in
theorem blocks_any (B : Nat) (g : Nat) (b : Bk) (tl : Pls) (hl : tl.length ≤ 1048570) (w : World) (h : ChnAt B w ((g, b) :: tl)) :
    Calls Try.prog 41 #[.pointer (some ⟨g, 0, none⟩)] w fun e w' => ∃ (R : Option Addr) (c : Nat), e = .returned (.slice R tl.length c) ∧ OwnBk w' w.heap.size (tl.map Prod.snd) R tl.length c ∧ Below w.heap.size w w' := by
  have H := Lib.hid h
  have c2 := h.seg.1.c2
  clear h
  have HL := Lib.hid hl
  clear hl
  obtain ⟨p0, hp0⟩ : ∃ p, hdP tl none = p := ⟨_, rfl⟩
  rw [hp0] at c2
  have HP0 := Lib.hid hp0
  clear hp0
  go_enter Try.func41, Try.ntmps41
  go_wp2_with fail
  go_loopg [3, 4] tl.length (fun gf v q wr => ∃ (xs ys : Pls) (R : Option Addr) (n c : Nat) (p : Option Addr), v = .slice R n c ∧ q = .pointer p ∧ Hid (p = hdP ys none) ∧ Hid (tl = xs ++ ys) ∧ n + ys.length = tl.length ∧ Hid (OwnBk wr w.heap.size (xs.map Prod.snd) R n c) ∧ ys.length < gf + 1 ∧ Hid (Below w.heap.size w wr))
  case atStart => exact ⟨[], tl, none, 0, 0, p0, rfl, rfl, Lib.hid HP0.out.symm, Lib.hid rfl, by omega, Lib.hid (ownBk_nil _ _), by omega, Lib.hid (Below.refl _ _)⟩
  case round =>
    obtain ⟨xs, ys, R, n, c, p, rfl, rfl, HP, HT, hn, HO, hlen, HB⟩ := hrel
    cases ys with
    | nil =>
      obtain rfl : p = none := HP.out
      go_wp2_with fail
      go_ret
      have e1 : n = tl.length := by simpa using hn
      subst e1
      have e2 := HT.out
      rw [List.append_nil] at e2
      exact ⟨R, c, rfl, by rw [e2]; rw [e2] at HO; exact HO.out, HB.out⟩
    | cons y ys =>
      obtain ⟨q, d⟩ := y
      obtain rfl : p = some ⟨q, 0, none⟩ := HP.out
      have hch := H.out.below HB.out
      rw [HT.out, ← List.cons_append] at hch
      obtain ⟨_, h2, _, _, _, _⟩ := hch.parts
      have d0 := h2.c0
      have d1 := h2.c1
      have d2 := h2.c2
      obtain ⟨p2, hp2⟩ : ∃ p, hdP ys none = p := ⟨_, rfl⟩
      rw [hp2] at d2
      have HP2 := Lib.hid hp2
      have hl2 := HL.out
      have hq0 : q < w.heap.size := H.out.seg.mem (q, d) (by rw [HT.out]; simp)
      have HA : Hid (∀ ty, ∃ v' w', (Builtin.append_ #[36, 36] ty #[.slice R n c, .slice (some ⟨wr.heap.size, 0, none⟩) 1 1]).run Try.prog (wr.alloc (.cells #[.int .i64 d.pos, .int .i64 d.size] 44)) = .ok v' w' ∧ ∃ (R' : Option Addr) (c' : Nat), v' = .slice R' (n + 1) c' ∧ OwnBk w' w.heap.size (xs.map Prod.snd ++ [d]) R' (n + 1) c' ∧ Below w.heap.size w w' ∧ w'.cell? ⟨q, 2, none⟩ = some (.pointer p2)) := Lib.hid (fun ty => by
        obtain ⟨v', w', h1, R', c', h2, h3, h4⟩ := appBk (ys := [d]) (R2 := some ⟨wr.heap.size, 0, none⟩) (c2 := 1) (lo := 0) (HO.out.keep (below1 wr (.cells #[.int .i64 d.pos, .int .i64 d.size] 44))) (fun _ => ⟨wr.heap.size, 0, rfl, Nat.zero_le _, fun i x hx => by
          cases i with
          | zero =>
            obtain rfl : d = x := by simpa using hx
            exact ⟨by go_simp, by go_simp, Nat.le_refl _⟩
          | succ i => simp at hx⟩) (by have := HB.out.size; simp; omega) (by simp only [List.length_cons, List.length_nil] at hn ⊢; omega) ty
        have hbl := (HO.out.keep (below1 wr (.cells #[.int .i64 d.pos, .int .i64 d.size] 44))).blk
        exact ⟨v', w', h1, R', c', h2, h3, (HB.out.alloc HB.out.size _).grown h4 (by have := HB.out.size; simp; omega) hbl, h4.cell (keepCell (below1 wr _) d2) (fun e => by
          have := hbl _ e.symm
          dsimp only at this
          omega)⟩)
      have e0 := fun o => keepCell (below1 wr o) d0
      have e1 := fun o => keepCell (below1 wr o) d1
      have e2 := fun o => keepCell (below1 wr o) d2
      have hqb : q < wr.heap.size := h2.lt
      have HQ := Lib.hid h2
      clear hch h2 hp2
      go_wp2_with (at_builtin; refine wpAppEx7 _ rfl _ _ 36 rfl (.slice R n c) (.slice (some ⟨wr.heap.size, 0, none⟩) 1 1) rfl rfl HA.out ?_; rintro v' w3 ⟨R3, c3', rfl, ho3, hb3, y2⟩; have HO3 := Lib.hid ho3; have HB3 := Lib.hid hb3; clear ho3 hb3)
      go_roundg (gk - 1)
      case measure => simp only [List.length_cons] at hlen; omega
      case rel =>
        exact ⟨xs ++ [(q, d)], ys, R3, n + 1, c3', p2, rfl, rfl, Lib.hid HP2.out.symm, Lib.hid (by rw [HT.out]; simp), by simp only [List.length_cons] at hn; omega, Lib.hid (by rw [List.map_append]; exact HO3.out), by simp only [List.length_cons] at hlen; omega, HB3⟩
end Go.Proofs.Ytoeofhhmkkpjbaa
