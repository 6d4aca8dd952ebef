/-
  The linked list's insert, join, give, take and before, told of the whole list.
-/
import Derived.Test.YtoeofhhmkkpjbaaChainI
namespace Go.Proofs.Ytoeofhhmkkpjbaa
open Go.ChangeShapes Go.WideShapes Go.ChangeAt Go.RowKit Go.Deep

theorem kbB {B g : Nat} {w w' : World} (h : Kb [g] w w') (hg : B ≤ g) (hB : B ≤ w.heap.size) : Below B w w' := h.below (fun b hb => by
  rw [List.mem_singleton] at hb
  omega) hB
/-- All of them begin below a place. -/
def AllLow (l : Pls) (p : Int) : Prop := ∀ x ∈ l, x.2.pos < p
/-- The next begins no earlier. -/
def NextUp (l : Pls) (p : Int) : Prop := ∀ y, l.head? = some y → p ≤ y.2.pos
/-- What such a call leaves: nothing is answered, another list, the head stays. -/
def ChnPost (B : Nat) (q : List (Nat × Bk) → Prop) (w : World) (e : Ending) (w' : World) : Prop := e = .returned (.tuple #[]) ∧ (∃ l, q l ∧ ChnAt B w' l) ∧ Below B w w' ∧ B ≤ w'.heap.size
theorem insertC (B : Nat) (xs ys : Pls) (g : Nat) (b : Bk) (p s : Int) (w : World) (hB : B ≤ w.heap.size) (h : ChnAt B w (xs ++ (g, b) :: ys)) :
    Calls Try.prog 62 #[.pointer (some ⟨g, 0, none⟩), .int .i64 p, .int .i64 s] w (ChnPost B (fun l => ∃ zs : Pls, l = xs ++ (g, b) :: (zs ++ ys) ∧ zs.map Prod.snd = if 0 < s then [⟨p, s⟩] else []) w) := by
  by_cases hs : 0 < s
  · refine (insert_pos g b _ p s hs w h.parts.2.1).mono ?_
    rintro e w' ⟨rfl, g', hg, n1, n2, hk⟩
    refine ⟨rfl, ⟨_, ⟨[(g', ⟨p, s⟩)], rfl, by rw [if_pos hs]; rfl⟩, h.ins hB hk.but n1 hg n2⟩, kbB hk h.parts.2.2.2.2.2 hB, Nat.le_trans hB hk.but.1⟩
  · refine (insert_no g p s hs w).mono ?_
    rintro e w' ⟨rfl, rfl⟩
    exact ⟨rfl, ⟨_, ⟨[], rfl, by rw [if_neg hs]; rfl⟩, h⟩, Below.refl _ _, hB⟩
/-- Numbers that a sum does not take out of range. -/
def Bk.Sm (b : Bk) : Prop := (0 ≤ b.pos ∧ b.pos ≤ 1000000) ∧ (0 ≤ b.size ∧ b.size ≤ 1000000)
theorem joinC (B : Nat) (xs ys : Pls) (g : Nat) (b : Bk) (hb : b.Sm) (hy : ∀ y, ys.head? = some y → y.2.Sm) (w : World) (hB : B ≤ w.heap.size) (h : ChnAt B w (xs ++ (g, b) :: ys)) :
    Calls Try.prog 63 #[.pointer (some ⟨g, 0, none⟩)] w (ChnPost B (fun l => ∃ (b' : Bk) (zs : Pls), l = xs ++ (g, b') :: zs ∧ b' :: zs.map Prod.snd = joinL b (ys.map Prod.snd)) w) := by
  obtain ⟨h1, h2, h3, h4, h5, h6⟩ := h.parts
  cases ys with
  | nil =>
    refine (join_nil g b w h2).mono ?_
    rintro e w' ⟨rfl, hb'⟩
    exact ⟨rfl, ⟨_, ⟨b, [], rfl, rfl⟩, h.below hb'⟩, hb'.mono hB, Nat.le_trans hB hb'.size⟩
  | cons y ys =>
    obtain ⟨q, c⟩ := y
    have hc := hy (q, c) rfl
    by_cases he : b.pos + b.size = c.pos
    · refine (join_touch g q (fun e => h5 (q, c) (by simp) e.symm) b c _ w h2 h3.1 hb.1 hb.2 hc.2 he).mono ?_
      rintro e w' ⟨rfl, hn, hk⟩
      exact ⟨rfl, ⟨_, ⟨_, ys, rfl, by rw [List.map_cons, joinL, if_pos he]⟩, h.del hk.but hn⟩, kbB hk h6 hB, Nat.le_trans hB hk.but.1⟩
    · refine (join_apart g q b c _ w h2 h3.1 hb.1 hb.2 he).mono ?_
      rintro e w' ⟨rfl, hb'⟩
      exact ⟨rfl, ⟨_, ⟨b, (q, c) :: ys, rfl, by rw [List.map_cons, joinL, if_neg he]⟩, h.below hb'⟩, hb'.mono hB, Nat.le_trans hB hb'.size⟩

theorem giveC (B : Nat) (xs ys : Pls) (g : Nat) (b : Bk) (p s : Int) (hs : 0 < s) (hb : b.Sm) (hc : (Bk.mk p s).Sm) (hc2 : s ≤ 100000) (hy : ∀ y, ys.head? = some y → y.2.Sm ∧ y.2.size ≤ 100000) (w : World) (hB : B ≤ w.heap.size) (h : ChnAt B w (xs ++ (g, b) :: ys)) :
    Calls Try.prog 40 #[.pointer (some ⟨g, 0, none⟩), .int .i64 p, .int .i64 s] w (ChnPost B (fun l => ∃ (b' : Bk) (zs : Pls), l = xs ++ (g, b') :: zs ∧ b' :: zs.map Prod.snd = joinL b (joinL ⟨p, s⟩ (ys.map Prod.snd))) w) := by
  have HH := Lib.hid h
  have HBB := Lib.hid hB
  have HS := Lib.hid hs
  have CI := Lib.hid (insertC B xs ys g b p s w hB h)
  have CJ := Lib.hid (fun (g' : Nat) (w1 : World) (hB1 : B ≤ w1.heap.size) (h1 : ChnAt B w1 ((xs ++ [(g, b)]) ++ (g', Bk.mk p s) :: ys)) => joinC B (xs ++ [(g, b)]) ys g' ⟨p, s⟩ hc (fun y hh => (hy y hh).1) w1 hB1 h1)
  have CK := Lib.hid (fun (zs : Pls) (w1 : World) (hz : ∀ y, zs.head? = some y → y.2.Sm) (hB1 : B ≤ w1.heap.size) (h1 : ChnAt B w1 (xs ++ (g, b) :: zs)) => joinC B xs zs g b hb hz w1 hB1 h1)
  have HY := Lib.hid hy
  have HC := Lib.hid hc
  clear h hB hs hb hc hy
  go_enter Try.func40, Try.ntmps40
  go_wp2_with fail
  go_at_call 62
  refine CI.out.mono ?_
  rintro e w1 ⟨rfl, ⟨l1, ⟨zs, rfl, hz⟩, hch1⟩, hb1, hB1⟩
  rw [if_pos HS.out] at hz
  obtain ⟨g', rfl⟩ : ∃ g', zs = [(g', Bk.mk p s)] := by
    match zs, hz with
    | [(g', c)], hz =>
      simp at hz
      subst hz
      exact ⟨g', rfl⟩
  have c2 := hch1.parts.2.1.c2
  rw [List.singleton_append] at c2
  have c2' : w1.cell? ⟨g, 2, none⟩ = some (.pointer (some ⟨g', 0, none⟩)) := c2
  have HC1 := Lib.hid hch1
  have HBW1 := Lib.hid hb1
  have HBS1 := Lib.hid hB1
  clear hch1 hb1 hB1 hz c2
  go_wp2_with fail
  go_at_call 63
  refine (CJ.out g' w1 HBS1.out (by simpa using HC1.out)).mono ?_
  rintro e w2 ⟨rfl, ⟨l2, ⟨c', ys', rfl, hj⟩, hch2⟩, hb2, hB2⟩
  have HC2 := Lib.hid hch2
  have HJ := Lib.hid hj
  have HBW2 := Lib.hid (HBW1.out.trans hb2)
  have HBS2 := Lib.hid hB2
  clear hch2 hb2 hB2 hj c2'
  go_wp2_with fail
  go_at_call 63
  refine (CK.out ((g', c') :: ys') w2 (fun y hh => by
    obtain rfl : (g', c') = y := by simpa using hh
    have e2 := HJ.out
    have hcc := HC.out
    cases hys : ys with
    | nil =>
      rw [hys] at e2
      simp only [List.map_nil, joinL] at e2
      injection e2 with e3 _
      rw [e3]
      exact hcc
    | cons d ds =>
      obtain ⟨d1, d2⟩ := HY.out d (by rw [hys]; rfl)
      rw [hys] at e2
      simp only [List.map_cons, joinL] at e2
      split at e2
      · injection e2 with e3 _
        rw [e3]
        unfold Bk.Sm at hcc d1 ⊢
        simp only at hcc d1 ⊢
        omega
      · injection e2 with e3 _
        rw [e3]
        exact hcc) HBS2.out (by simpa using HC2.out)).mono ?_
  rintro e w3 ⟨rfl, ⟨l3, ⟨b', zs, rfl, hj3⟩, hch3⟩, hb3, hB3⟩
  have HC3 := Lib.hid hch3
  have HJ3 := Lib.hid hj3
  have HBW3 := Lib.hid (HBW2.out.trans hb3)
  have HBS3 := Lib.hid hB3
  clear hch3 hb3 hB3 hj3
  go_wp2_with fail
  go_end0
  refine ⟨rfl, ⟨_, ⟨b', zs, rfl, ?_⟩, HC3.out⟩, HBW3.out, HBS3.out⟩
  rw [HJ3.out, List.map_cons, HJ.out]

theorem before_any (B : Nat) (l : Pls) (g0 : Nat) (b0 : Bk) (tl : Pls) (hl0 : l = (g0, b0) :: tl) (p : Int) (hp : b0.pos < p) (w : World) (h : ChnAt B w l) :
    Calls Try.prog 38 #[.pointer (some ⟨g0, 0, none⟩), .int .i64 p] w fun e w' => ∃ (xs ys : Pls) (g : Nat) (b : Bk), l = xs ++ (g, b) :: ys ∧ e = .returned (.pointer (some ⟨g, 0, none⟩)) ∧ AllLow (xs ++ [(g, b)]) p ∧ NextUp ys p ∧ Below w.heap.size w w' := by
  have HH := Lib.hid h
  have HL0 := Lib.hid hl0
  have HP0 := Lib.hid hp
  clear h hl0 hp
  go_enter Try.func38, Try.ntmps38
  go_wp2_with fail
  go_loopg [0] l.length (fun gf v wr => ∃ (xs ys : Pls) (g : Nat) (b : Bk), v = .pointer (some ⟨g, 0, none⟩) ∧ Hid (l = xs ++ (g, b) :: ys) ∧ Hid (∀ x ∈ xs ++ [(g, b)], x.2.pos < p) ∧ ys.length < gf + 1 ∧ Hid (Below w.heap.size w wr))
  case atStart =>
    refine ⟨[], tl, g0, b0, rfl, Lib.hid HL0.out, Lib.hid (fun x hx => ?_), ?_, Lib.hid (Below.refl _ _)⟩
    · simp at hx
      subst hx
      exact HP0.out
    · rw [HL0.out]
      simp only [List.length_cons]
      omega
  case round =>
    obtain ⟨xs, ys, g, b, rfl, hl, hx, hlen, hbel⟩ := hrel
    have hch := HH.out.below hbel.out
    rw [hl.out] at hch
    obtain ⟨h1, h2, h3, h4, h5, h6⟩ := hch.parts
    have c2 := h2.c2
    cases ys with
    | nil =>
      have c2' : wr.cell? ⟨g, 2, none⟩ = some (.pointer none) := c2
      clear hch h1 h2 h3 h4 h5 c2
      go_wp2_with fail
      go_ret
      exact ⟨xs, [], g, b, hl.out, rfl, hx.out, fun y hy => by simp at hy, hbel.out⟩
    | cons y ys =>
      obtain ⟨q, c⟩ := y
      have c2' : wr.cell? ⟨g, 2, none⟩ = some (.pointer (some ⟨q, 0, none⟩)) := c2
      have d0 := h3.1.c0
      clear hch h1 h2 h3 h4 h5 c2
      by_cases hlt : c.pos < p
      · go_wp2_with fail
        go_roundg (gk - 1)
        case measure => simp only [List.length_cons] at hlen; omega
        case rel =>
          refine ⟨xs ++ [(g, b)], ys, q, c, rfl, Lib.hid (by rw [hl.out]; simp), Lib.hid (fun x hx' => ?_), ?_, hbel⟩
          · rcases List.mem_append.1 hx' with hx' | hx'
            · exact hx.out x hx'
            · simp at hx'
              subst hx'
              exact hlt
          · simp only [List.length_cons] at hlen
            omega
      · go_wp2_with fail
        go_ret
        refine ⟨xs, (q, c) :: ys, g, b, hl.out, rfl, hx.out, fun y hy => ?_, hbel.out⟩
        simp at hy
        subst hy
        simp only
        omega
end Go.Proofs.Ytoeofhhmkkpjbaa
