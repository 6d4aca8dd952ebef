/-
  The walk of the model's giving of a block.
-/
import Derived.Test.YtndeklmkhfopgaaMeToOwn
import Derived.Test.YtndeklmkhfopgaaChainB
import Derived.IntWalk
import Derived.BigQuiet
namespace Go.Proofs.Ytndeklmkhfopgaa
open Go.ChangeShapes Go.WideShapes Go.ChangeAt Go.RowKit Go.Deep

/-- A row at hand: its k-th block, wherever the world has gone. -/
theorem Bks.get7 {w W : World} {lo : Nat} {xs : List Bk} {R : Option Addr} (h : Bks w lo xs R) (hb : Below w.heap.size w W) {k : Nat} {y : Bk} (hk : xs[k]? = some y) : ∃ b o, R = some ⟨b, o, none⟩ ∧ W.cell? ⟨b, o + k * 2, none⟩ = some (.int .i64 y.pos) ∧ W.cell? ⟨b, o + k * 2 + 1, none⟩ = some (.int .i64 y.size) ∧ b ≠ w.heap.size := by
  obtain ⟨b, o, e, _, hc⟩ := h (by have := (List.getElem?_eq_some_iff.1 hk).1; omega)
  have := (hc k y hk)
  exact ⟨b, o, e, keepCell hb this.c0_, keepCell hb this.c1_, Nat.ne_of_lt (World.block_lt_of_cell? w _ this.c0_)⟩
/-- The row that is built, the box below it. -/
def Bd (w W : World) (xs : List Bk) (R : Option Addr) (n c : Nat) : Prop := Below w.heap.size w W ∧ OwnBk W (w.heap.size + 1) xs R n c ∧ w.heap.size + 1 ≤ W.heap.size
theorem Bd.set {w W : World} {xs : List Bk} {R : Option Addr} {n c : Nat} (h : Bd w W xs R n c) (o : Nat) (v : Value) : Bd w (W.setCell ⟨w.heap.size, o, none⟩ v) xs R n c :=
  ⟨h.1.setCell (Nat.le_refl _) _, h.2.1.far _ (Nat.lt_succ_self _) _, by simpa using h.2.2⟩
theorem Bd.drewN {w W : World} {xs : List Bk} {R : Option Addr} {n c : Nat} (h : Bd w W xs R n c) (q : Nat) : Bd w (W.drewN q) xs R n c :=
  ⟨bchain h.1 (drN7 _ _) h.1.size, h.2.1.keep (drN7 _ _), h.2.2⟩
/-- One block more, behind a row of one's own. -/
theorem app1 {w W : World} {xs : List Bk} {R : Option Addr} {n c : Nat} (h : Bd w W xs R n c) (hn : n + 1 ≤ 1048576) (d : Bk) (g : Nat) (hg : W.heap.size = g) (ty : TypeId) :
    ∃ v' w', (Builtin.append_ #[48, 48] ty #[.slice R n c, .slice (some ⟨g, 0, none⟩) 1 1]).run Try.prog (W.alloc (.cells #[.int .i64 d.pos, .int .i64 d.size] 103)) = .ok v' w' ∧ ∃ (R' : Option Addr) (c' : Nat), v' = .slice R' (n + 1) c' ∧ Bd w w' (xs ++ [d]) R' (n + 1) c' ∧ Below (w.heap.size + 1) W w' := by
  obtain ⟨hW, ho, hb⟩ := h
  subst hg
  obtain ⟨v', w', h1, R', c', h2, h3, h4⟩ := appBk (ys := [d]) (R2 := some ⟨W.heap.size, 0, none⟩) (c2 := 1) (lo := 0) (ho.keep (below1 W (.cells #[.int .i64 d.pos, .int .i64 d.size] 103))) (fun _ => ⟨W.heap.size, 0, rfl, Nat.zero_le _, fun i x hx => by
    cases i with
    | zero =>
      obtain rfl : d = x := by simpa using hx
      exact ⟨by go_simp, by go_simp, Nat.le_refl _⟩
    | succ i => simp at hx⟩) (by simp; omega) (by simpa using hn) ty
  have hbl := (ho.keep (below1 W (.cells #[.int .i64 d.pos, .int .i64 d.size] 103))).blk
  have hB : Below (w.heap.size + 1) W w' := ((Below.refl _ W).alloc hb _).grown h4 (by simp; omega) hbl
  exact ⟨v', w', h1, R', c', h2, ⟨hW.trans (hB.mono (Nat.le_succ _)), h3, Nat.le_trans hb hB.size⟩, hB⟩
/-- A row behind a row of one's own. -/
theorem appL {w W : World} {xs ys : List Bk} {R R2 : Option Addr} {n c c2 : Nat} (h : Bd w W xs R n c) (hn : n + ys.length ≤ 1048576) (h2 : Bks W 0 ys R2) (ty : TypeId) :
    ∃ v' w', (Builtin.append_ #[48, 48] ty #[.slice R n c, .slice R2 ys.length c2]).run Try.prog W = .ok v' w' ∧ ∃ (R' : Option Addr) (c' : Nat), v' = .slice R' (n + ys.length) c' ∧ Bd w w' (xs ++ ys) R' (n + ys.length) c' := by
  obtain ⟨hW, ho, hb⟩ := h
  obtain ⟨v', w', h1, R', c', h3, h4, h5⟩ := appBk ho h2 hb hn ty (c2 := c2)
  have hB : Below (w.heap.size + 1) W w' := (Below.refl _ W).grown h5 hb ho.blk
  exact ⟨v', w', h1, R', c', h3, hW.trans (hB.mono (Nat.le_succ _)), h4, Nat.le_trans hb hB.size⟩
theorem sizeOfBk (w : World) : (Go.sizeOf 103).run Try.prog w = .ok 2 w := by kernel_rfl
/-- A row cut at its head. -/
theorem dropRun (w : World) (lo : Nat) (xs : List Bk) (R : Option Addr) (c k : Nat) (hk : k ≤ xs.length) (hc : xs.length ≤ c) (h : Bks w lo xs R) :
    ∃ (R2 : Option Addr) (c2 : Nat), (∀ (i : Int) (W : World), i = (k : Int) → (Instr.slice 48 (.slice R xs.length c) (some (.int .i64 i)) none none).run Try.prog W = .ok (.slice R2 (xs.drop k).length c2) W) ∧ ∀ W, Below w.heap.size w W → Bks W 0 (xs.drop k) R2 := by
  have he : Try.prog.elem 48 = 103 := by simp [Program.elem, Try.underlying48]
  have hu : Try.prog.underlying 48 = some (.slice (Try.prog.elem 48)) := by rw [he]; exact Try.underlying48
  refine ⟨if c = k then R else R.map (·.add (k * 2)), c - k, fun i W hi => ?_, fun W hb hp => ?_⟩
  · subst hi
    rw [run_slice_l W _ R xs.length c hu .i64 (k : Int) (by omega) (by omega), he, sizeOfBk]
    simp only [Result.andThen, sliced, Int.toNat_natCast, List.length_drop]
  · rw [List.length_drop] at hp
    obtain ⟨b, o, e, _, hcc⟩ := h (by omega)
    subst e
    refine ⟨b, o + k * 2, ?_, Nat.zero_le _, fun i x hx => ?_⟩
    · rw [if_neg (by omega)]
      simp [Addr.add]
    · rw [List.getElem?_drop] at hx
      have h3 := hcc (k + i) x hx
      rw [show o + k * 2 + i * 2 = o + (k + i) * 2 by omega]
      exact ⟨keepCell hb h3.c0_, keepCell hb h3.c1_, Nat.le_refl _⟩
theorem give_end {w W : World} {xs L : List Bk} {k i c : Nat} {b : Bk} {R : Option Addr} (EQ : L = (xs.take k ++ [b]) ++ xs.drop i) (hk : k ≤ xs.length) (ho : Bd w W ((xs.take k ++ [b]) ++ xs.drop i) R (k + 1 + (xs.drop i).length) c) :
    ∃ (R' : Option Addr) (c' : Nat), Ending.returned (.slice R (k + 1 + (xs.drop i).length) c) = .returned (.slice R' L.length c') ∧ OwnBk W w.heap.size L R' L.length c' ∧ Below w.heap.size w W := by
  have hl : L.length = k + 1 + (xs.drop i).length := by
    rw [EQ]
    simp only [List.length_append, List.length_take, List.length_cons, List.length_nil]
    omega
  exact ⟨R, c, by rw [hl], by rw [hl, EQ]; exact ho.2.1.down (Nat.le_succ _), ho.1⟩

set_option maxRecDepth 100000 in
set_option maxHeartbeats 16000000 in
theorem l10Give_any (d : Bk) (hd : d.Sm) (xs : List Bk) (hl : xs.length ≤ 100000) (hx : ∀ y ∈ xs, y.Sm) (R : Option Addr) (c lo : Nat) (hcap : xs.length ≤ c) (w : World) (h : Bks w lo xs R) :
    Calls Try.prog 85 #[.slice R xs.length c, .agg #[.int .i64 d.pos, .int .i64 d.size]] w fun e w' => ∃ (R' : Option Addr) (c' : Nat), e = .returned (.slice R' (giveL d xs).length c') ∧ OwnBk w' w.heap.size (giveL d xs) R' (giveL d xs).length c' ∧ Below w.heap.size w w' := by
  have H := Lib.hid h
  have HX := Lib.hid hx
  have HD := Lib.hid (fun k hk => dropRun w lo xs R c k hk hcap h)
  obtain ⟨⟨hd0, hd1⟩, hd2, hd3⟩ := hd
  clear h hx hcap
  go_enter Try.func85, Try.ntmps85
  go_wp2_with fail
  go_loopw [5, 6] (fun v i wr => ∃ k : Nat, k ≤ xs.length ∧ i = .int .i64 k ∧ (∃ (R' : Option Addr) (c' : Nat), v = .slice R' k c' ∧ Hid (Bd w wr (xs.take k) R' k c')) ∧ Hid (∀ x ∈ xs.take k, x.pos + x.size < d.pos) ∧ wr.cell? ⟨w.heap.size, 0, none⟩ = some (.int .i64 d.pos) ∧ wr.cell? ⟨w.heap.size, 1, none⟩ = some (.int .i64 d.size) ∧ (∀ o, wr.frozen? ⟨w.heap.size, o, none⟩ = false)) (fun _ i _ => xs.length - (intOf i).toNat)
  case atStart => exact ⟨0, Nat.zero_le _, rfl, ⟨_, _, rfl, Lib.hid ⟨below2 _ _ _, by have := ownBk_new (w.alloc (.cells #[.int .i64 d.pos, .int .i64 d.size] 103)) (w.heap.size + 1) (by simp); simpa using this, by simp⟩⟩, Lib.hid (by simp), by go_simp, by go_simp, (fun o => by go_simp)⟩
  case round =>
    obtain ⟨k, hk, rfl, ⟨R3, c3, rfl, HO⟩, HE, b0, b1, bf⟩ := hrel
    have HK := Lib.hid hk
    have EQ0 : Hid (giveL d xs = xs.take k ++ giveL d (xs.drop k)) := Lib.hid (by
      have := giveL_pre (c := d) (ys := xs.drop k) HE.out
      rw [List.take_append_drop] at this
      exact this)
    by_cases hlt : k < xs.length
    · obtain ⟨y, hy⟩ : ∃ y, xs[k]? = some y := ⟨_, List.getElem?_eq_getElem hlt⟩
      have EQ1 : Hid (xs.drop k = y :: xs.drop (k + 1)) := Lib.hid (drop_cons hy)
      obtain ⟨b, o, hR, y0, y1, hbn⟩ := H.out.get7 HO.out.1 hy
      subst hR
      obtain ⟨⟨s0, s1⟩, s2, s3⟩ := HX.out y (List.mem_of_getElem? hy)
      have hw1 : IntKind.i64.wrap (y.pos + y.size) = y.pos + y.size := IntWalk.i64_in _ (by omega)
      have hw5 : IntKind.i64.wrap (d.pos + d.size) = d.pos + d.size := IntWalk.i64_in _ (by omega)
      have hli : (k : Int) < (xs.length : Int) := by omega
      have HY := Lib.hid hy
      clear hy
      by_cases he : y.pos + y.size < d.pos
      · have HA := Lib.hid (fun W (hW : Bd w W (xs.take k) R3 k c3) g hg ty => app1 hW (by omega) y g hg ty)
        have HBX := Lib.hid (And.intro b0 (And.intro b1 bf))
        go_wp2_with fail
        go_quiet (fail)
        go_wp2_with (at_builtin; refine wpAppEx7 _ rfl _ _ 48 rfl (.slice R3 k c3) (.slice (some ⟨wr.heap.size, 0, none⟩) 1 1) rfl rfl (HA.out _ (HO.out.drewN _) wr.heap.size (by first | rfl | simp)) ?_; rintro v' w3 ⟨R4, c4, rfl, ho4, hb4⟩; have HO4 := Lib.hid ho4; have HB4 := Lib.hid hb4; clear ho4 hb4)
        go_roundw
        case rel =>
          have hbc : ∀ o v, wr.cell? ⟨w.heap.size, o, none⟩ = some v → w3.cell? ⟨w.heap.size, o, none⟩ = some v := fun o v hv => (HB4.out.cell (p := ⟨w.heap.size, o, none⟩) (Nat.lt_succ_self _)).trans hv
          refine ⟨k + 1, hlt, by go_num, ⟨R4, c4, rfl, Lib.hid ?_⟩, Lib.hid ?_, hbc _ _ HBX.out.1, hbc _ _ HBX.out.2.1, fun o => (HB4.out.frozen (p := ⟨w.heap.size, o, none⟩) (Nat.lt_succ_self _)).trans (HBX.out.2.2 o)⟩
          · have e := HO4.out
            obtain ⟨_, e2⟩ := List.getElem?_eq_some_iff.1 HY.out
            rw [List.take_succ_eq_append_getElem hlt, e2]
            exact e
          · intro x hx
            obtain ⟨_, e2⟩ := List.getElem?_eq_some_iff.1 HY.out
            rw [List.take_succ_eq_append_getElem hlt, e2] at hx
            rcases List.mem_append.1 hx with hx | hx
            · exact HE.out x hx
            · rw [List.mem_singleton] at hx
              subst hx
              exact he
        case measure => simp [intOf]; omega
      · by_cases heq : y.pos + y.size = d.pos
        · have hw2 : IntKind.i64.wrap (y.size + d.size) = y.size + d.size := IntWalk.i64_in _ (by omega)
          have hw3 : IntKind.i64.wrap (y.pos + (y.size + d.size)) = y.pos + (y.size + d.size) := IntWalk.i64_in _ (by omega)
          obtain ⟨k1, hk1⟩ : ∃ k1, k + 1 = k1 := ⟨_, rfl⟩
          have EQ2 : Hid (giveL d xs = xs.take k ++ joinL ⟨y.pos, y.size + d.size⟩ (xs.drop k1)) := Lib.hid (by rw [EQ0.out, EQ1.out, giveL, if_neg he, if_pos heq, hk1])
          have hk1i : (k : Int) + 1 = (k1 : Int) := by omega
          have HK1 : Hid (k1 ≤ xs.length) := Lib.hid (by omega)
          clear hk1
          by_cases hlz : k1 < xs.length
          · skip
            obtain ⟨z, hz⟩ : ∃ z, xs[k1]? = some z := ⟨_, List.getElem?_eq_getElem hlz⟩
            have EQZ : Hid (xs.drop (k1) = z :: xs.drop (k1 + 1)) := Lib.hid (drop_cons hz)
            obtain ⟨bz, oz, hRz, z0, z1, hbnz⟩ := H.out.get7 HO.out.1 hz
            obtain ⟨⟨t0, t1⟩, t2, t3⟩ := HX.out z (List.mem_of_getElem? hz)
            have hliz : (k1 : Int) < (xs.length : Int) := by omega
            injection hRz with hRz
            injection hRz with e1 e2
            subst e1
            subst e2
            clear hz
            by_cases hez : z.pos = y.pos + (y.size + d.size)
            · skip
              have hw4 : IntKind.i64.wrap (y.size + d.size + z.size) = y.size + d.size + z.size := IntWalk.i64_in _ (by omega)
              have EQ3 : Hid (giveL d xs = (xs.take k ++ [⟨y.pos, y.size + d.size + z.size⟩]) ++ xs.drop (k1 + 1)) := Lib.hid (by rw [EQ2.out, EQZ.out, joinL, if_pos (by first | omega | (dsimp only; omega)), List.append_assoc]; rfl)
              obtain ⟨R2, c2, hsl0, hbk⟩ := HD.out (k1 + 1) (by have := HK1.out; omega)
              have hsl := fun W => hsl0 ((k1 : Int) + 1) W (by omega)
              have HBK := Lib.hid hbk
              have hdl : (xs.drop (k1 + 1)).length ≤ 100000 := by rw [List.length_drop]; omega
              obtain ⟨m, hm⟩ : ∃ m, (xs.drop (k1 + 1)).length = m := ⟨_, rfl⟩
              rw [hm] at hsl hdl
              have HM := Lib.hid hm
              have HA := Lib.hid (fun W (hW : Bd w W (xs.take k) R3 k c3) g hg ty => app1 hW (by omega) ⟨y.pos, y.size + d.size + z.size⟩ g hg ty)
              have HAL := Lib.hid (fun W R4 c4 (hW : Bd w W (xs.take k ++ [⟨y.pos, y.size + d.size + z.size⟩]) R4 (k + 1) c4) ty => appL (c2 := c2) hW (ys := xs.drop (k1 + 1)) (by rw [hm]; omega) (HBK.out W hW.1) ty)
              rw [hm] at HAL
              clear hsl0 hbk hm
              have hbx : ∀ (q1 q2 : Nat) (v0 v1 v2 : Value), (((((wr.drewN q1).setCell ⟨w.heap.size, 0, none⟩ v0).setCell ⟨w.heap.size, 1, none⟩ v1).drewN q2).setCell ⟨w.heap.size, 1, none⟩ v2).cell? ⟨w.heap.size, 1, none⟩ = some v2 := fun q1 q2 v0 v1 v2 => World.cell?_setCell_same _ _ _ (show ((((wr.drewN q1).setCell ⟨w.heap.size, 0, none⟩ v0).setCell ⟨w.heap.size, 1, none⟩ v1).drewN q2).cell? ⟨w.heap.size, 1, none⟩ = some v1 from (setTwo7 (w := wr.drewN q1) (by simpa using b0) (by simpa using b1)).2)
              go_wp2_with fail
              go_quiet (fail)
              go_wp2_with fail
              go_quiet (fail)
              go_wp2_with fail
              go_region
              all_goals go_wp2_with fail
              all_goals try rw [hk1i]
              all_goals go_quiet (fail)
              all_goals go_wp2_with fail
              go_region
              all_goals go_wp2_with (first | (at_builtin; refine wpAppEx7 _ rfl _ _ 48 rfl (.slice R3 k c3) (.slice (some ⟨wr.heap.size, 0, none⟩) 1 1) rfl rfl (HA.out _ (by repeat (first | exact HO.out | refine Bd.set ?_ _ _ | refine Bd.drewN ?_ _)) wr.heap.size (by first | rfl | (simp; done))) ?_; rintro v5 w5 ⟨R5, c5, rfl, ho5, _⟩; have HO5 := Lib.hid ho5; clear ho5) | (at_builtin; refine wpAppEx7 _ rfl _ _ 48 rfl (.slice R5 (k + 1) c5) (.slice R2 m c2) rfl rfl (HAL.out _ _ _ HO5.out) ?_; rintro v6 w6 ⟨R6, c6, rfl, ho6⟩; have HO6 := Lib.hid ho6; clear ho6))
              all_goals go_ret
              all_goals (have e6 := HM.out; subst e6; exact give_end EQ3.out HK.out HO6.out)
            · skip
              have EQ3 : Hid (giveL d xs = (xs.take k ++ [⟨y.pos, y.size + d.size⟩]) ++ xs.drop (k1)) := Lib.hid (by rw [EQ2.out, EQZ.out, joinL, if_neg (by first | omega | (dsimp only; omega)), List.append_assoc]; rfl)
              obtain ⟨R2, c2, hsl0, hbk⟩ := HD.out (k1) (by have := HK1.out; omega)
              have hsl := fun W => hsl0 ((k1 : Int)) W (by omega)
              have HBK := Lib.hid hbk
              have hdl : (xs.drop (k1)).length ≤ 100000 := by rw [List.length_drop]; omega
              obtain ⟨m, hm⟩ : ∃ m, (xs.drop (k1)).length = m := ⟨_, rfl⟩
              rw [hm] at hsl hdl
              have HM := Lib.hid hm
              have HA := Lib.hid (fun W (hW : Bd w W (xs.take k) R3 k c3) g hg ty => app1 hW (by omega) ⟨y.pos, y.size + d.size⟩ g hg ty)
              have HAL := Lib.hid (fun W R4 c4 (hW : Bd w W (xs.take k ++ [⟨y.pos, y.size + d.size⟩]) R4 (k + 1) c4) ty => appL (c2 := c2) hW (ys := xs.drop (k1)) (by rw [hm]; omega) (HBK.out W hW.1) ty)
              rw [hm] at HAL
              clear hsl0 hbk hm
              go_wp2_with fail
              go_quiet (fail)
              go_wp2_with fail
              go_quiet (fail)
              go_wp2_with fail
              go_region
              all_goals go_wp2_with fail
              all_goals try rw [hk1i]
              all_goals go_quiet (fail)
              all_goals go_wp2_with (first | (at_builtin; refine wpAppEx7 _ rfl _ _ 48 rfl (.slice R3 k c3) (.slice (some ⟨wr.heap.size, 0, none⟩) 1 1) rfl rfl (HA.out _ (by repeat (first | exact HO.out | refine Bd.set ?_ _ _ | refine Bd.drewN ?_ _)) wr.heap.size (by first | rfl | (simp; done))) ?_; rintro v5 w5 ⟨R5, c5, rfl, ho5, _⟩; have HO5 := Lib.hid ho5; clear ho5) | (at_builtin; refine wpAppEx7 _ rfl _ _ 48 rfl (.slice R5 (k + 1) c5) (.slice R2 m c2) rfl rfl (HAL.out _ _ _ HO5.out) ?_; rintro v6 w6 ⟨R6, c6, rfl, ho6⟩; have HO6 := Lib.hid ho6; clear ho6))
              all_goals go_ret
              all_goals (have e6 := HM.out; subst e6; exact give_end EQ3.out HK.out HO6.out)
          · have hliz : ¬ ((k1 : Int) < (xs.length : Int)) := by omega
            have EQ3 : Hid (giveL d xs = (xs.take k ++ [⟨y.pos, y.size + d.size⟩]) ++ xs.drop (k1)) := Lib.hid (by rw [EQ2.out, show xs.drop (k1) = [] from List.drop_eq_nil_of_le (by have := HK1.out; omega), joinL, List.append_nil])
            obtain ⟨R2, c2, hsl0, hbk⟩ := HD.out (k1) (by have := HK1.out; omega)
            have hsl := fun W => hsl0 ((k1 : Int)) W (by omega)
            have HBK := Lib.hid hbk
            have hdl : (xs.drop (k1)).length ≤ 100000 := by rw [List.length_drop]; omega
            obtain ⟨m, hm⟩ : ∃ m, (xs.drop (k1)).length = m := ⟨_, rfl⟩
            rw [hm] at hsl hdl
            have HM := Lib.hid hm
            have HA := Lib.hid (fun W (hW : Bd w W (xs.take k) R3 k c3) g hg ty => app1 hW (by omega) ⟨y.pos, y.size + d.size⟩ g hg ty)
            have HAL := Lib.hid (fun W R4 c4 (hW : Bd w W (xs.take k ++ [⟨y.pos, y.size + d.size⟩]) R4 (k + 1) c4) ty => appL (c2 := c2) hW (ys := xs.drop (k1)) (by rw [hm]; omega) (HBK.out W hW.1) ty)
            rw [hm] at HAL
            clear hsl0 hbk hm
            go_wp2_with fail
            go_quiet (fail)
            go_wp2_with fail
            go_quiet (fail)
            go_wp2_with fail
            go_region
            all_goals go_wp2_with fail
            all_goals try rw [hk1i]
            all_goals go_quiet (fail)
            all_goals go_wp2_with (first | (at_builtin; refine wpAppEx7 _ rfl _ _ 48 rfl (.slice R3 k c3) (.slice (some ⟨wr.heap.size, 0, none⟩) 1 1) rfl rfl (HA.out _ (by repeat (first | exact HO.out | refine Bd.set ?_ _ _ | refine Bd.drewN ?_ _)) wr.heap.size (by first | rfl | (simp; done))) ?_; rintro v5 w5 ⟨R5, c5, rfl, ho5, _⟩; have HO5 := Lib.hid ho5; clear ho5) | (at_builtin; refine wpAppEx7 _ rfl _ _ 48 rfl (.slice R5 (k + 1) c5) (.slice R2 m c2) rfl rfl (HAL.out _ _ _ HO5.out) ?_; rintro v6 w6 ⟨R6, c6, rfl, ho6⟩; have HO6 := Lib.hid ho6; clear ho6))
            all_goals go_ret
            all_goals (have e6 := HM.out; subst e6; exact give_end EQ3.out HK.out HO6.out)
        · have EQ2 : Hid (giveL d xs = xs.take k ++ joinL d (xs.drop k)) := Lib.hid (by rw [EQ0.out, EQ1.out, giveL, if_neg he, if_neg heq])
          have hlz := hlt
          have EQZ := EQ1
          by_cases hez : y.pos = d.pos + (d.size)
          · skip
            have hw4 : IntKind.i64.wrap (d.size + y.size) = d.size + y.size := IntWalk.i64_in _ (by omega)
            have EQ3 : Hid (giveL d xs = (xs.take k ++ [⟨d.pos, d.size + y.size⟩]) ++ xs.drop (k + 1)) := Lib.hid (by rw [EQ2.out, EQZ.out, joinL, if_pos (by first | omega | (dsimp only; omega)), List.append_assoc]; rfl)
            obtain ⟨R2, c2, hsl0, hbk⟩ := HD.out (k + 1) (by have := HK.out; omega)
            have hsl := fun W => hsl0 ((k : Int) + 1) W (by omega)
            have HBK := Lib.hid hbk
            have hdl : (xs.drop (k + 1)).length ≤ 100000 := by rw [List.length_drop]; omega
            obtain ⟨m, hm⟩ : ∃ m, (xs.drop (k + 1)).length = m := ⟨_, rfl⟩
            rw [hm] at hsl hdl
            have HM := Lib.hid hm
            have HA := Lib.hid (fun W (hW : Bd w W (xs.take k) R3 k c3) g hg ty => app1 hW (by omega) ⟨d.pos, d.size + y.size⟩ g hg ty)
            have HAL := Lib.hid (fun W R4 c4 (hW : Bd w W (xs.take k ++ [⟨d.pos, d.size + y.size⟩]) R4 (k + 1) c4) ty => appL (c2 := c2) hW (ys := xs.drop (k + 1)) (by rw [hm]; omega) (HBK.out W hW.1) ty)
            rw [hm] at HAL
            clear hsl0 hbk hm
            go_wp2_with fail
            go_quiet (fail)
            go_wp2_with fail
            go_quiet (fail)
            go_wp2_with fail
            go_quiet (fail)
            go_wp2_with fail
            go_region
            all_goals go_wp2_with (first | (at_builtin; refine wpAppEx7 _ rfl _ _ 48 rfl (.slice R3 k c3) (.slice (some ⟨wr.heap.size, 0, none⟩) 1 1) rfl rfl (HA.out _ (by repeat (first | exact HO.out | refine Bd.set ?_ _ _ | refine Bd.drewN ?_ _)) wr.heap.size (by first | rfl | (simp; done))) ?_; rintro v5 w5 ⟨R5, c5, rfl, ho5, _⟩; have HO5 := Lib.hid ho5; clear ho5) | (at_builtin; refine wpAppEx7 _ rfl _ _ 48 rfl (.slice R5 (k + 1) c5) (.slice R2 m c2) rfl rfl (HAL.out _ _ _ HO5.out) ?_; rintro v6 w6 ⟨R6, c6, rfl, ho6⟩; have HO6 := Lib.hid ho6; clear ho6))
            all_goals go_ret
            all_goals (have e6 := HM.out; subst e6; exact give_end EQ3.out HK.out HO6.out)
          · skip
            have EQ3 : Hid (giveL d xs = (xs.take k ++ [⟨d.pos, d.size⟩]) ++ xs.drop (k)) := Lib.hid (by rw [EQ2.out, EQZ.out, joinL, if_neg (by first | omega | (dsimp only; omega)), List.append_assoc]; rfl)
            obtain ⟨R2, c2, hsl0, hbk⟩ := HD.out (k) (by have := HK.out; omega)
            have hsl := fun W => hsl0 ((k : Int)) W (by omega)
            have HBK := Lib.hid hbk
            have hdl : (xs.drop (k)).length ≤ 100000 := by rw [List.length_drop]; omega
            obtain ⟨m, hm⟩ : ∃ m, (xs.drop (k)).length = m := ⟨_, rfl⟩
            rw [hm] at hsl hdl
            have HM := Lib.hid hm
            have HA := Lib.hid (fun W (hW : Bd w W (xs.take k) R3 k c3) g hg ty => app1 hW (by omega) ⟨d.pos, d.size⟩ g hg ty)
            have HAL := Lib.hid (fun W R4 c4 (hW : Bd w W (xs.take k ++ [⟨d.pos, d.size⟩]) R4 (k + 1) c4) ty => appL (c2 := c2) hW (ys := xs.drop (k)) (by rw [hm]; omega) (HBK.out W hW.1) ty)
            rw [hm] at HAL
            clear hsl0 hbk hm
            go_wp2_with fail
            go_quiet (fail)
            go_wp2_with fail
            go_quiet (fail)
            go_wp2_with fail
            go_quiet (fail)
            all_goals go_wp2_with (first | (at_builtin; refine wpAppEx7 _ rfl _ _ 48 rfl (.slice R3 k c3) (.slice (some ⟨wr.heap.size, 0, none⟩) 1 1) rfl rfl (HA.out _ (by repeat (first | exact HO.out | refine Bd.set ?_ _ _ | refine Bd.drewN ?_ _)) wr.heap.size (by first | rfl | (simp; done))) ?_; rintro v5 w5 ⟨R5, c5, rfl, ho5, _⟩; have HO5 := Lib.hid ho5; clear ho5) | (at_builtin; refine wpAppEx7 _ rfl _ _ 48 rfl (.slice R5 (k + 1) c5) (.slice R2 m c2) rfl rfl (HAL.out _ _ _ HO5.out) ?_; rintro v6 w6 ⟨R6, c6, rfl, ho6⟩; have HO6 := Lib.hid ho6; clear ho6))
            all_goals go_ret
            all_goals (have e6 := HM.out; subst e6; exact give_end EQ3.out HK.out HO6.out)
    · have hk2 : k = xs.length := by omega
      have EQ2 : Hid (giveL d xs = xs.take k ++ joinL d (xs.drop k)) := Lib.hid (by
        have e : xs.drop k = [] := List.drop_eq_nil_of_le (by omega)
        rw [EQ0.out, e]
        rfl)
      have EQ3 : Hid (giveL d xs = (xs.take k ++ [⟨d.pos, d.size⟩]) ++ xs.drop (k)) := Lib.hid (by rw [EQ2.out, show xs.drop (k) = [] from List.drop_eq_nil_of_le (by have := HK.out; omega), joinL, List.append_nil])
      obtain ⟨R2, c2, hsl0, hbk⟩ := HD.out (k) (by have := HK.out; omega)
      have hsl := fun W => hsl0 ((k : Int)) W (by omega)
      have HBK := Lib.hid hbk
      have hdl : (xs.drop (k)).length ≤ 100000 := by rw [List.length_drop]; omega
      obtain ⟨m, hm⟩ : ∃ m, (xs.drop (k)).length = m := ⟨_, rfl⟩
      rw [hm] at hsl hdl
      have HM := Lib.hid hm
      have HA := Lib.hid (fun W (hW : Bd w W (xs.take k) R3 k c3) g hg ty => app1 hW (by omega) ⟨d.pos, d.size⟩ g hg ty)
      have HAL := Lib.hid (fun W R4 c4 (hW : Bd w W (xs.take k ++ [⟨d.pos, d.size⟩]) R4 (k + 1) c4) ty => appL (c2 := c2) hW (ys := xs.drop (k)) (by rw [hm]; omega) (HBK.out W hW.1) ty)
      rw [hm] at HAL
      clear hsl0 hbk hm
      have hliz : ¬ (k : Int) < (xs.length : Int) := by omega
      have HK2 := Lib.hid hk2
      clear hk2
      go_wp2_with fail
      go_quiet (fail)
      go_wp2_with fail
      go_quiet (fail)
      go_wp2_with fail
      go_quiet (fail)
      all_goals go_wp2_with (first | (at_builtin; refine wpAppEx7 _ rfl _ _ 48 rfl (.slice R3 k c3) (.slice (some ⟨wr.heap.size, 0, none⟩) 1 1) rfl rfl (HA.out _ (by repeat (first | exact HO.out | refine Bd.set ?_ _ _ | refine Bd.drewN ?_ _)) wr.heap.size (by first | rfl | (simp; done))) ?_; rintro v5 w5 ⟨R5, c5, rfl, ho5, _⟩; have HO5 := Lib.hid ho5; clear ho5) | (at_builtin; refine wpAppEx7 _ rfl _ _ 48 rfl (.slice R5 (k + 1) c5) (.slice R2 m c2) rfl rfl (HAL.out _ _ _ HO5.out) ?_; rintro v6 w6 ⟨R6, c6, rfl, ho6⟩; have HO6 := Lib.hid ho6; clear ho6))
      all_goals go_ret
      all_goals (have e6 := HM.out; subst e6; exact give_end EQ3.out HK.out HO6.out)
end Go.Proofs.Ytndeklmkhfopgaa
