/-
  The walk of the model's Alloc.
-/
import Derived.Test.YtndeklmkhfopgaaMeAlI
import Derived.Test.YtndeklmkhfopgaaMeWrS
namespace Go.Proofs.Ytndeklmkhfopgaa
open Go.ChangeShapes Go.WideShapes Go.ChangeAt Go.RowKit Go.Deep

theorem l10Up7 (x a : Int) (hx : 0 ≤ x) (hx' : x ≤ 1000000000) (ha : 1 ≤ a) (ha' : a ≤ 1000) (w : World) :
    Calls Try.prog 110 #[.int .i64 x, .int .i64 a] w fun e w' => e = .returned (.int .i64 (upTo x a)) ∧ Below w.heap.size w w' := by
  have hu := upTo_le hx ha
  have HU : Hid (upTo x a = Int.tdiv (x + a - 1) a * a) := Lib.hid (by unfold upTo; rw [Int.tdiv_eq_ediv_of_nonneg (by omega)])
  obtain ⟨U, hU⟩ : ∃ U, upTo x a = U := ⟨_, rfl⟩
  rw [hU] at hu HU
  rw [hU]
  have hd := Int.tdiv_le_self a (show 0 ≤ x + a - 1 by omega)
  have hd0 := Int.tdiv_nonneg (show 0 ≤ x + a - 1 by omega) (show 0 ≤ a by omega)
  obtain ⟨D, hD⟩ : ∃ D, Int.tdiv (x + a - 1) a = D := ⟨_, rfl⟩
  have ha0 : ¬ a = 0 := by omega
  have hm : D * a = U := by rw [← hD]; exact HU.out.symm
  rw [hD] at hd hd0
  have h0 : 0 ≤ U := by omega
  have h1 : U ≤ 1000002000 := by omega
  go_enter Try.func110, Try.ntmps110
  go_wp2_with fail
  go_ret
  exact ⟨rfl, Below.refl _ _⟩
theorem l00Has_any (l : List Int) (hl : l.length ≤ 1000) (g : Nat) (al : Int) (T : Bool) (hT : T = true ↔ al ∈ l) (w : World) (hc : ∀ (i : Nat) (v : Int), l[i]? = some v → w.cell? ⟨g, i, none⟩ = some (.int .i64 v)) :
    Calls Try.prog 74 #[.slice (some ⟨g, 0, none⟩) l.length l.length, .int .i64 al] w fun e w' => e = .returned (.bool T) ∧ Below w.heap.size w w' := by
  have HC := Lib.hid hc
  have HT := Lib.hid hT
  clear hc hT
  go_enter Try.func74, Try.ntmps74
  go_wp2_with fail
  go_loopw [5] (fun v wr => ∃ k : Nat, k ≤ l.length ∧ v = .int .i64 k ∧ Hid (al ∉ l.take k) ∧ wr = w) (fun v _ => l.length - (intOf v).toNat)
  case atStart => exact ⟨0, Nat.zero_le _, rfl, Lib.hid (by simp), by first | rfl | trivial⟩
  case round =>
    obtain ⟨k, hk, rfl, HN, rfl⟩ := hrel
    by_cases hlt : k < l.length
    · obtain ⟨y, hy⟩ : ∃ y, l[k]? = some y := ⟨_, List.getElem?_eq_getElem hlt⟩
      have c0 := HC.out k y hy
      have hli : (k : Int) < (l.length : Int) := by omega
      have HY := Lib.hid hy
      clear hy
      by_cases he : y = al
      · have HE : Hid (T = true) := Lib.hid (HT.out.2 (by rw [← he]; exact List.mem_of_getElem? HY.out))
        go_wp2_with fail
        go_ret
        exact ⟨by rw [HE.out]; rfl, Below.refl _ _⟩
      · go_wp2_with fail
        go_roundw
        case rel =>
          refine ⟨k + 1, hlt, by go_num, Lib.hid ?_, by first | rfl | trivial⟩
          obtain ⟨_, e2⟩ := List.getElem?_eq_some_iff.1 HY.out
          rw [List.take_succ_eq_append_getElem hlt, e2]
          intro hm
          rcases List.mem_append.1 hm with hm | hm
          · exact HN.out hm
          · exact he (List.mem_singleton.1 hm).symm
        case measure => simp [intOf]; omega
    · have hk' : k = l.length := by omega
      have hli : ¬ (k : Int) < (l.length : Int) := by omega
      have e := HN.out
      rw [hk', List.take_length] at e
      have HE : Hid (T = false) := Lib.hid (by
        cases hh : T with
        | false => rfl
        | true => exact absurd (HT.out.1 hh) e)
      clear e hk'
      go_wp2_with fail
      go_ret
      exact ⟨by rw [HE.out]; rfl, Below.refl _ _⟩
/-- The row that is built. -/
def Bg (w0 W : World) (xs : List Bk) (R : Option Addr) (n c : Nat) : Prop := Below w0.heap.size w0 W ∧ OwnBk W w0.heap.size xs R n c ∧ w0.heap.size ≤ W.heap.size
theorem Bg.drew {w0 W : World} {xs : List Bk} {R : Option Addr} {n c : Nat} (h : Bg w0 W xs R n c) : Bg w0 W.drew xs R n c := ⟨h.1.drew, h.2.1.keep (Below.refl _ _).drew, h.2.2⟩
theorem app1g {w0 W : World} {xs : List Bk} {R : Option Addr} {n c : Nat} (h : Bg w0 W xs R n c) (hn : n + 1 ≤ 1048576) (d : Bk) (g : Nat) (hg : W.heap.size = g) (ty : TypeId) :
    ∃ v' w', (Builtin.append_ #[48, 48] ty #[.slice R n c, .slice (some ⟨g, 0, none⟩) 1 1]).run Try.prog (W.alloc (.cells #[.int .i64 d.pos, .int .i64 d.size] 103)) = .ok v' w' ∧ ∃ (R' : Option Addr) (c' : Nat), v' = .slice R' (n + 1) c' ∧ Bg w0 w' (xs ++ [d]) R' (n + 1) c' := by
  obtain ⟨hW, ho, hb⟩ := h
  subst hg
  obtain ⟨v', w', h1, R', c', h2, h3, h4⟩ := appBk (ys := [d]) (R2 := some ⟨W.heap.size, 0, none⟩) (c2 := 1) (lo := 0) (ho.keep (below1 W (.cells #[.int .i64 d.pos, .int .i64 d.size] 103))) (fun _ => ⟨W.heap.size, 0, rfl, Nat.zero_le _, fun i x hx => by
    cases i with
    | zero =>
      obtain rfl : d = x := by simpa using hx
      exact ⟨by go_simp, by go_simp, Nat.le_refl _⟩
    | succ i => simp at hx⟩) (by simp; omega) (by simpa using hn) ty
  have hbl := (ho.keep (below1 W (.cells #[.int .i64 d.pos, .int .i64 d.size] 103))).blk
  have hB : Below w0.heap.size W w' := ((Below.refl _ W).alloc hb _).grown h4 (by simp; omega) hbl
  exact ⟨v', w', h1, R', c', h2, ⟨hW.trans hB, h3, Nat.le_trans hb hB.size⟩⟩
theorem appLg {w0 W : World} {xs ys : List Bk} {R R2 : Option Addr} {n c c2 : Nat} (h : Bg w0 W xs R n c) (hn : n + ys.length ≤ 1048576) (h2 : Bks W 0 ys R2) (ty : TypeId) :
    ∃ v' w', (Builtin.append_ #[48, 48] ty #[.slice R n c, .slice R2 ys.length c2]).run Try.prog W = .ok v' w' ∧ ∃ (R' : Option Addr) (c' : Nat), v' = .slice R' (n + ys.length) c' ∧ Bg w0 w' (xs ++ ys) R' (n + ys.length) c' := by
  obtain ⟨hW, ho, hb⟩ := h
  obtain ⟨v', w', h1, R', c', h3, h4, h5⟩ := appBk ho h2 hb hn ty (c2 := c2)
  have hB : Below w0.heap.size W w' := (Below.refl _ W).grown h5 hb ho.blk
  exact ⟨v', w', h1, R', c', h3, hW.trans hB, h4, Nat.le_trans hb hB.size⟩
/-- A row cut at its end. -/
theorem takeRun (xs : List Bk) (R : Option Addr) (c k : Nat) (hk : k ≤ xs.length) (hc : xs.length ≤ c) (W : World) :
    (Instr.slice 48 (.slice R xs.length c) none (some (.int .i64 (k : Int))) none).run Try.prog W = .ok (.slice R k c) W := by
  have he : Try.prog.elem 48 = 103 := by simp [Program.elem, Try.underlying48]
  have hu : Try.prog.underlying 48 = some (.slice (Try.prog.elem 48)) := by rw [he]; exact Try.underlying48
  rw [run_slice_h W _ R xs.length c hu .i64 (k : Int) (by omega) (by omega), he, sizeOfBk]
  simp only [Result.andThen, sliced, Int.toNat_natCast, Nat.sub_zero, Nat.zero_mul]
  cases R with
  | none => simp
  | some a => simp [Addr.add]

set_option maxRecDepth 100000 in
set_option maxHeartbeats 2000000 in
theorem l10Al_zero (x : Me) (_hT : x.wt ≤ 1048576) (_hfin : x.Fin) (R : Option Addr) (c : Nat) (s al : Int) (hok : memOk x = true) (hs : s = 0) (lo : Nat) (w : World) (h : Me.At w lo x R) :
    Calls Try.prog 75 #[.agg #[.string x.bytes, .slice R x.free.length c], .int .i64 s, .int .i64 al] w (MeAns3 x 0 0 w) := by
  have H := Lib.hid h
  have CC := Lib.hid (fun W (h : Me.At W lo x R) => l10Own_any x (by have := memOk_len hok; omega) R c lo W h)
  clear h hok
  subst hs
  go_enter Try.func75, Try.ntmps75
  go_wp2_with fail
  have F0 := Lib.hid (Fr.new w x R c)
  have k0 := F0.out.k0
  have k1 := F0.out.k1
  go_at_call 82
  refine (CC.out _ (Me.At.below H.out F0.out.hb)).mono ?_
  rintro e w2 ⟨R2, c2, rfl, ho2, hb2⟩
  have F2 := Lib.hid (F0.out.below hb2)
  have HO2 := Lib.hid ho2
  have HZ0 := Lib.hid F0.out.hz
  have q0 := F2.out.q0
  have q1 := F2.out.q1
  have qf := F2.out.qf
  clear ho2 k0 k1 hb2
  go_wp2_with fail
  obtain ⟨s0, s1, s2⟩ := F2.out.ret (.string x.bytes) (.slice R2 x.free.length c2)
  refine bodyPost_ret (v := .tuple #[.agg #[.string x.bytes, .slice R2 x.free.length c2], .int .i64 0, .int .i64 0]) (by simp [results, Try.results75, go_sem, s0, s1]) rfl ?_
  exact ⟨R2, c2, rfl, HO2.out.ret HZ0.out _ _, s2⟩
set_option maxRecDepth 100000 in
set_option maxHeartbeats 2000000 in
theorem l10Al_pos (x : Me) (_hT : x.wt ≤ 1048576) (_hfin : x.Fin) (R : Option Addr) (c : Nat) (s al : Int) (hok : memOk x = true) (hs : 0 < s) (hsx : s ≤ 9223372036854775807) (hal1 : 1 ≤ al) (hal2 : al ≤ 8) (hcap : x.free.length ≤ c) (lo : Nat) (w : World) (h : Me.At w lo x R) :
    Calls Try.prog 75 #[.agg #[.string x.bytes, .slice R x.free.length c], .int .i64 s, .int .i64 al] w (MeAns3 (alAns x s al).1 (alAns x s al).2.1 (alAns x s al).2.2 w) := by
  have hsm := ok_sm hok
  have hln := memOk_len hok
  have H := Lib.hid h
  have HSM := Lib.hid hsm
  have HD := Lib.hid (fun W hW k hk => dropRun W lo x.free R c k hk hcap hW)
  have HTK := Lib.hid (fun k hk => takeRun x.free R c k hk hcap)
  have hs1 : ¬ s = 0 := by omega
  clear h hok hsm hcap
  go_enter Try.func75, Try.ntmps75
  go_wp2_with fail
  have F0 := Lib.hid (Fr.new w x R c)
  have hs0 : (s == 0) = false := by simpa using hs1
  rw [hs0]
  clear hs0
  go_loopw [9] (fun v wr => ∃ k : Nat, k ≤ x.free.length ∧ v = .int .i64 k ∧ Hid (∀ z ∈ x.free.take k, ¬ fitsBk s al z) ∧ Hid (Fr w wr x R c)) (fun v _ => x.free.length - (intOf v).toNat)
  case atStart => exact ⟨0, Nat.zero_le _, rfl, Lib.hid (by simp), F0⟩
  case round =>
    obtain ⟨k, hk, rfl, hnf, F⟩ := hrel
    have k1 := F.out.k1
    by_cases hlt : k < x.free.length
    · obtain ⟨b1, o, y, rfl, _, hyk, hc⟩ := (Bks.below H.out F.out.hb).at_ hlt
      obtain ⟨c0, c1, _⟩ := hc
      obtain ⟨⟨⟨sd0, sd1⟩, sd2, sd3⟩, _, _, _⟩ := HSM.out y (List.mem_of_getElem? hyk)
      obtain ⟨hu0, hu1⟩ := upTo_le (x := y.pos) sd0 hal1
      have CU := fun W => l10Up7 y.pos al sd0 (by omega) hal1 (by omega) W
      have e1 : x.free = x.free.take k ++ y :: x.free.drop (k + 1) := by
        have := drop_cons hyk
        rw [← this, List.take_append_drop]
      have hfit : fitsBk s al y ↔ s ≤ y.pos + y.size - upTo y.pos al := Iff.rfl
      have hhit : fitsBk s al y → alAns x s al = (⟨x.bytes, x.free.take k ++ (splitBk (upTo y.pos al) s y ++ x.free.drop (k + 1))⟩, upTo y.pos al, 0) := fun hf => by
        have := allocL_hit hf (ys := x.free.drop (k + 1)) hnf.out
        rw [← e1] at this
        unfold alAns
        rw [this]
      obtain ⟨U, hU⟩ : ∃ U, upTo y.pos al = U := ⟨_, rfl⟩
      rw [hU] at hu0 hu1 CU hfit hhit
      have CU := Lib.hid CU
      have HHIT := Lib.hid hhit
      have HFIT := Lib.hid hfit
      have HY := Lib.hid hyk
      have hli : (k : Int) < (x.free.length : Int) := by omega
      have k1o := fun o => keepCell (below1 wr o) k1
      have bl := World.block_lt_of_cell? wr _ k1
      have hw1 : IntKind.i64.wrap (U - y.pos) = U - y.pos := IntWalk.i64_in _ (by omega)
      have hw2 : IntKind.i64.wrap (y.size - s) = y.size - s := IntWalk.i64_in _ (by omega)
      have hw3 : IntKind.i64.wrap (y.pos + y.size) = y.pos + y.size := IntWalk.i64_in _ (by omega)
      have hw4 : IntKind.i64.wrap (y.pos + y.size - U) = y.pos + y.size - U := IntWalk.i64_in _ (by omega)
      have hw6 : IntKind.i64.wrap ((k : Int) + 1) = (k : Int) + 1 := IntWalk.i64_in _ (by omega)
      have FA := Lib.hid (fun o => F.out.below (below1 wr o))
      clear hyk e1 hU hhit hfit
      go_wp2_with fail
      go_at_call 110
      refine (CU.out _).mono ?_
      rintro e w4 ⟨rfl, hb4⟩
      have bx0 := keepCell (a := ⟨wr.heap.size, 0, none⟩) (v := .int .i64 y.pos) hb4 (by go_simp)
      have bx1 := keepCell (a := ⟨wr.heap.size, 1, none⟩) (v := .int .i64 y.size) hb4 (by go_simp)
      have F4 := Lib.hid ((FA.out _).below hb4)
      replace k1 := F4.out.k1
      have e0 := fun o => keepCell (below1 w4 o) bx0
      have e1 := fun o => keepCell (below1 w4 o) bx1
      have e2 := fun o => keepCell (below1 w4 o) k1
      clear hb4 c0 c1 k1o bl
      by_cases hf : s ≤ y.pos + y.size - U
      · have hf1 : ¬ y.size < s := by omega
        have hf2 : ¬ y.size - s < U - y.pos := by omega
        have hw5 : IntKind.i64.wrap (y.pos + y.size - U - s) = y.pos + y.size - U - s := IntWalk.i64_in _ (by omega)
        have hw7 : IntKind.i64.wrap (U + s) = U + s := IntWalk.i64_in _ (by omega)
        have hsl9 := HTK.out k (by omega)
        obtain ⟨R2, c2, hsl0, hdr⟩ := HD.out w4 (Me.At.below H.out F4.out.hb) (k + 1) (by omega)
        have hsl := fun W => hsl0 ((k : Int) + 1) W (by omega)
        obtain ⟨m, hm⟩ : ∃ m, (x.free.drop (k + 1)).length = m := ⟨_, rfl⟩
        have hml : m ≤ 100000 := by rw [← hm, List.length_drop]; omega
        rw [hm] at hsl
        have HM := Lib.hid hm
        have HDR := Lib.hid hdr
        have HA9 : Hid (∀ ty, ∃ v' w', (Builtin.append_ #[48, 48] ty #[.slice (some ⟨w4.heap.size, 0, none⟩) 0 0, .slice (some ⟨b1, o, none⟩) k c]).run Try.prog (w4.alloc (.cells #[] 103)) = .ok v' w' ∧ ∃ (R' : Option Addr) (c' : Nat), v' = .slice R' k c' ∧ Bg w4 w' (x.free.take k) R' k c') := Lib.hid (fun ty => by
          have hbg : Bg w4 (w4.alloc (.cells #[] 103)) [] (some ⟨w4.heap.size, 0, none⟩) 0 0 := ⟨below1 _ _, ownBk_new w4 _ (Nat.le_refl _), by simp⟩
          have hb := Bks.below H.out (F4.out.hb.trans ((below1 w4 (.cells #[] 103)).mono (by have := F4.out.hz; omega)))
          have htk : (x.free.take k).length = k := by rw [List.length_take]; omega
          have hbt : Bks (w4.alloc (.cells #[] 103)) 0 (x.free.take k) (some ⟨b1, o, none⟩) := fun hp => by
            obtain ⟨b9, o9, e9, _, h9⟩ := hb (by omega)
            refine ⟨b9, o9, e9, Nat.zero_le _, fun i z hz => ?_⟩
            have hz2 : x.free[i]? = some z := by
              rw [List.getElem?_take] at hz
              split at hz
              · exact hz
              · cases hz
            have h10 := h9 i z hz2
            exact ⟨h10.c0_, h10.c1_, Nat.zero_le _⟩
          have := appLg hbg (ys := x.free.take k) (by rw [htk]; omega) hbt ty (c2 := c)
          rw [htk, Nat.zero_add, List.nil_append] at this
          exact this)
        clear hsl0 hdr hm HTK HD
        by_cases ha : y.pos < U
        · by_cases hb : 0 < y.pos + y.size - U - s
          · skip
            go_wp2_with (first | (at_builtin; refine wpAppEx7 _ rfl _ _ 48 rfl (.slice (some ⟨w4.heap.size, 0, none⟩) 0 0) (.slice (some ⟨b1, o, none⟩) k c) rfl rfl HA9.out ?_; rintro v5 w5 ⟨R5, c5, rfl, ho5⟩; have HO5 := Lib.hid ho5; have F5 := Lib.hid (F4.out.belowB ho5.1 F4.out.hz); have b5 := keepCell ho5.1 bx0; have b5s := keepCell ho5.1 bx1; clear ho5; have HA11 := Lib.hid (fun ty => app1g HO5.out (by omega) (⟨y.pos, U - y.pos⟩ : Bk) w5.heap.size rfl ty); have f5 := fun o => keepCell (below1 w5 o) b5; have f5s := fun o => keepCell (below1 w5 o) b5s; have f5n : wr.heap.size < w5.heap.size := World.block_lt_of_cell? _ _ b5; have f5m : wr.heap.size ≠ w5.heap.size := Nat.ne_of_lt f5n) | (at_builtin; refine wpAppEx7 _ rfl _ _ 48 rfl (.slice R5 k c5) (.slice (some ⟨w5.heap.size, 0, none⟩) 1 1) rfl rfl HA11.out ?_; rintro v6 w6 ⟨R6, c6, rfl, ho6⟩; have HO6 := Lib.hid ho6; have F6 := Lib.hid (F4.out.belowB ho6.1 F4.out.hz); have b6 := keepCell ho6.1 bx0; have b6s := keepCell ho6.1 bx1; clear ho6 f5 f5s f5n f5m b5 b5s; have HA14 := Lib.hid (fun ty => app1g HO6.out (by omega) (⟨U + s, y.pos + y.size - U - s⟩ : Bk) w6.heap.size rfl ty)) | (at_builtin; refine wpAppEx7 _ rfl _ _ 48 rfl (.slice R6 (k + 1) c6) (.slice (some ⟨w6.heap.size, 0, none⟩) 1 1) rfl rfl HA14.out ?_; rintro v7 w7 ⟨R7, c7, rfl, ho7⟩; have HO7 := Lib.hid ho7; have F7 := Lib.hid (F4.out.belowB ho7.1 F4.out.hz); clear ho7))
            have HA15 := Lib.hid (fun ty => appLg (c2 := c2) HO7.out.drew (ys := x.free.drop (k + 1)) (by rw [HM.out]; omega) (HDR.out _ HO7.out.drew.1) ty)
            rw [HM.out] at HA15
            have k0 := F7.out.k0
            have k1 := F7.out.k1
            have q0 := F7.out.q0
            have q1 := F7.out.q1
            have qf := F7.out.qf
            go_region_held3 (fun w' => w'.cell? ⟨w.heap.size, 0, none⟩ = some (.string x.bytes) ∧ w'.cell? ⟨w.heap.size, 1, none⟩ = some (.slice (some ⟨b1, o, none⟩) x.free.length c))
              (first | (with_reducible assumption) | (with_reducible exact ⟨k0, k1⟩) | (with_reducible exact ⟨keepCell (Below.refl _ _).drew k0, keepCell (Below.refl _ _).drew k1⟩) | (with_reducible exact ⟨p0, p1⟩) | (exact ⟨farSet7 (by dsimp only; omega) (farSet7 (by dsimp only; omega) p0), farSet7 (by dsimp only; omega) (farSet7 (by dsimp only; omega) p1)⟩) | fail)
              (first
                | (refine stepAppAt7 (w7.drew) rfl (by with_unfolding_all rfl) _ _ _ (by with_unfolding_all rfl) _ _ (by with_unfolding_all rfl) (by with_unfolding_all rfl) HA15.out ?_; rintro _ w8 ⟨R8, c8, rfl, ho8⟩; have HO8 := Lib.hid ho8; have F8 := Lib.hid (F4.out.belowB ho8.1 F4.out.hz); have p0 := F8.out.k0; have p1 := F8.out.k1; have r0 := F8.out.q0; have r1 := F8.out.q1; have rf := F8.out.qf))
            go_wp2_with fail
            obtain ⟨s0, s1, s2⟩ := F8.out.ret (.string x.bytes) (.slice R8 (k + 1 + 1 + m) c8)
            refine bodyPost_ret (v := .tuple #[.agg #[.string x.bytes, .slice R8 (k + 1 + 1 + m) c8], .int .i64 U, .int .i64 0]) (by simp [results, Try.results75, go_sem, s0, s1]) rfl ?_
            have hans : alAns x s al = (⟨x.bytes, ((x.free.take k ++ [(⟨y.pos, U - y.pos⟩ : Bk)]) ++ [(⟨U + s, y.pos + y.size - U - s⟩ : Bk)]) ++ x.free.drop (k + 1)⟩, U, 0) := by
              rw [HHIT.out (HFIT.out.2 (by omega))]
              unfold splitBk
              rw [if_pos (by omega), if_pos (by omega)]
              simp
            have hn : (((x.free.take k ++ [(⟨y.pos, U - y.pos⟩ : Bk)]) ++ [(⟨U + s, y.pos + y.size - U - s⟩ : Bk)]) ++ x.free.drop (k + 1)).length = k + 1 + 1 + m := by rw [← HM.out]; simp only [List.length_append, List.length_take, List.length_cons, List.length_nil]; omega
            rw [hans]
            refine ⟨R8, c8, by simp only [hn], ?_, s2⟩
            simp only [hn]
            have h9 := HO8.out.2.1.ret F4.out.hz (.string x.bytes) (.slice R8 (k + 1 + 1 + m) c8)
            exact h9
          · skip
            go_wp2_with (first | (at_builtin; refine wpAppEx7 _ rfl _ _ 48 rfl (.slice (some ⟨w4.heap.size, 0, none⟩) 0 0) (.slice (some ⟨b1, o, none⟩) k c) rfl rfl HA9.out ?_; rintro v5 w5 ⟨R5, c5, rfl, ho5⟩; have HO5 := Lib.hid ho5; have F5 := Lib.hid (F4.out.belowB ho5.1 F4.out.hz); have b5 := keepCell ho5.1 bx0; have b5s := keepCell ho5.1 bx1; clear ho5; have HA11 := Lib.hid (fun ty => app1g HO5.out (by omega) (⟨y.pos, U - y.pos⟩ : Bk) w5.heap.size rfl ty); have f5 := fun o => keepCell (below1 w5 o) b5; have f5s := fun o => keepCell (below1 w5 o) b5s; have f5n : wr.heap.size < w5.heap.size := World.block_lt_of_cell? _ _ b5; have f5m : wr.heap.size ≠ w5.heap.size := Nat.ne_of_lt f5n) | (at_builtin; refine wpAppEx7 _ rfl _ _ 48 rfl (.slice R5 k c5) (.slice (some ⟨w5.heap.size, 0, none⟩) 1 1) rfl rfl HA11.out ?_; rintro v6 w6 ⟨R6, c6, rfl, ho6⟩; have HO6 := Lib.hid ho6; have F6 := Lib.hid (F4.out.belowB ho6.1 F4.out.hz); have b6 := keepCell ho6.1 bx0; have b6s := keepCell ho6.1 bx1; clear ho6 f5 f5s f5n f5m b5 b5s))
            have HA15 := Lib.hid (fun ty => appLg (c2 := c2) HO6.out.drew (ys := x.free.drop (k + 1)) (by rw [HM.out]; omega) (HDR.out _ HO6.out.drew.1) ty)
            rw [HM.out] at HA15
            have k0 := F6.out.k0
            have k1 := F6.out.k1
            have q0 := F6.out.q0
            have q1 := F6.out.q1
            have qf := F6.out.qf
            go_region_held3 (fun w' => w'.cell? ⟨w.heap.size, 0, none⟩ = some (.string x.bytes) ∧ w'.cell? ⟨w.heap.size, 1, none⟩ = some (.slice (some ⟨b1, o, none⟩) x.free.length c))
              (first | (with_reducible assumption) | (with_reducible exact ⟨k0, k1⟩) | (with_reducible exact ⟨keepCell (Below.refl _ _).drew k0, keepCell (Below.refl _ _).drew k1⟩) | (with_reducible exact ⟨p0, p1⟩) | (exact ⟨farSet7 (by dsimp only; omega) (farSet7 (by dsimp only; omega) p0), farSet7 (by dsimp only; omega) (farSet7 (by dsimp only; omega) p1)⟩) | fail)
              (first
                | (refine stepAppAt7 (w6.drew) rfl (by with_unfolding_all rfl) _ _ _ (by with_unfolding_all rfl) _ _ (by with_unfolding_all rfl) (by with_unfolding_all rfl) HA15.out ?_; rintro _ w8 ⟨R8, c8, rfl, ho8⟩; have HO8 := Lib.hid ho8; have F8 := Lib.hid (F4.out.belowB ho8.1 F4.out.hz); have p0 := F8.out.k0; have p1 := F8.out.k1; have r0 := F8.out.q0; have r1 := F8.out.q1; have rf := F8.out.qf))
            go_wp2_with fail
            obtain ⟨s0, s1, s2⟩ := F8.out.ret (.string x.bytes) (.slice R8 (k + 1 + m) c8)
            refine bodyPost_ret (v := .tuple #[.agg #[.string x.bytes, .slice R8 (k + 1 + m) c8], .int .i64 U, .int .i64 0]) (by simp [results, Try.results75, go_sem, s0, s1]) rfl ?_
            have hans : alAns x s al = (⟨x.bytes, (x.free.take k ++ [(⟨y.pos, U - y.pos⟩ : Bk)]) ++ x.free.drop (k + 1)⟩, U, 0) := by
              rw [HHIT.out (HFIT.out.2 (by omega))]
              unfold splitBk
              rw [if_pos (by omega), if_neg (by omega)]
              simp
            have hn : ((x.free.take k ++ [(⟨y.pos, U - y.pos⟩ : Bk)]) ++ x.free.drop (k + 1)).length = k + 1 + m := by rw [← HM.out]; simp only [List.length_append, List.length_take, List.length_cons, List.length_nil]; omega
            rw [hans]
            refine ⟨R8, c8, by simp only [hn], ?_, s2⟩
            simp only [hn]
            have h9 := HO8.out.2.1.ret F4.out.hz (.string x.bytes) (.slice R8 (k + 1 + m) c8)
            exact h9
        · by_cases hb : 0 < y.pos + y.size - U - s
          · skip
            go_wp2_with (first | (at_builtin; refine wpAppEx7 _ rfl _ _ 48 rfl (.slice (some ⟨w4.heap.size, 0, none⟩) 0 0) (.slice (some ⟨b1, o, none⟩) k c) rfl rfl HA9.out ?_; rintro v5 w5 ⟨R5, c5, rfl, ho5⟩; have HO5 := Lib.hid ho5; have F5 := Lib.hid (F4.out.belowB ho5.1 F4.out.hz); have b5 := keepCell ho5.1 bx0; have b5s := keepCell ho5.1 bx1; clear ho5; have HA14 := Lib.hid (fun ty => app1g HO5.out (by omega) (⟨U + s, y.pos + y.size - U - s⟩ : Bk) w5.heap.size rfl ty)) | (at_builtin; refine wpAppEx7 _ rfl _ _ 48 rfl (.slice R5 (k) c5) (.slice (some ⟨w5.heap.size, 0, none⟩) 1 1) rfl rfl HA14.out ?_; rintro v7 w7 ⟨R7, c7, rfl, ho7⟩; have HO7 := Lib.hid ho7; have F7 := Lib.hid (F4.out.belowB ho7.1 F4.out.hz); clear ho7))
            have HA15 := Lib.hid (fun ty => appLg (c2 := c2) HO7.out.drew (ys := x.free.drop (k + 1)) (by rw [HM.out]; omega) (HDR.out _ HO7.out.drew.1) ty)
            rw [HM.out] at HA15
            have k0 := F7.out.k0
            have k1 := F7.out.k1
            have q0 := F7.out.q0
            have q1 := F7.out.q1
            have qf := F7.out.qf
            go_region_held3 (fun w' => w'.cell? ⟨w.heap.size, 0, none⟩ = some (.string x.bytes) ∧ w'.cell? ⟨w.heap.size, 1, none⟩ = some (.slice (some ⟨b1, o, none⟩) x.free.length c))
              (first | (with_reducible assumption) | (with_reducible exact ⟨k0, k1⟩) | (with_reducible exact ⟨keepCell (Below.refl _ _).drew k0, keepCell (Below.refl _ _).drew k1⟩) | (with_reducible exact ⟨p0, p1⟩) | (exact ⟨farSet7 (by dsimp only; omega) (farSet7 (by dsimp only; omega) p0), farSet7 (by dsimp only; omega) (farSet7 (by dsimp only; omega) p1)⟩) | fail)
              (first
                | (refine stepAppAt7 (w7.drew) rfl (by with_unfolding_all rfl) _ _ _ (by with_unfolding_all rfl) _ _ (by with_unfolding_all rfl) (by with_unfolding_all rfl) HA15.out ?_; rintro _ w8 ⟨R8, c8, rfl, ho8⟩; have HO8 := Lib.hid ho8; have F8 := Lib.hid (F4.out.belowB ho8.1 F4.out.hz); have p0 := F8.out.k0; have p1 := F8.out.k1; have r0 := F8.out.q0; have r1 := F8.out.q1; have rf := F8.out.qf))
            go_wp2_with fail
            obtain ⟨s0, s1, s2⟩ := F8.out.ret (.string x.bytes) (.slice R8 (k + 1 + m) c8)
            refine bodyPost_ret (v := .tuple #[.agg #[.string x.bytes, .slice R8 (k + 1 + m) c8], .int .i64 U, .int .i64 0]) (by simp [results, Try.results75, go_sem, s0, s1]) rfl ?_
            have hans : alAns x s al = (⟨x.bytes, (x.free.take k ++ [(⟨U + s, y.pos + y.size - U - s⟩ : Bk)]) ++ x.free.drop (k + 1)⟩, U, 0) := by
              rw [HHIT.out (HFIT.out.2 (by omega))]
              unfold splitBk
              rw [if_neg (by omega), if_pos (by omega)]
              simp
            have hn : ((x.free.take k ++ [(⟨U + s, y.pos + y.size - U - s⟩ : Bk)]) ++ x.free.drop (k + 1)).length = k + 1 + m := by rw [← HM.out]; simp only [List.length_append, List.length_take, List.length_cons, List.length_nil]; omega
            rw [hans]
            refine ⟨R8, c8, by simp only [hn], ?_, s2⟩
            simp only [hn]
            have h9 := HO8.out.2.1.ret F4.out.hz (.string x.bytes) (.slice R8 (k + 1 + m) c8)
            exact h9
          · skip
            go_wp2_with (first | (at_builtin; refine wpAppEx7 _ rfl _ _ 48 rfl (.slice (some ⟨w4.heap.size, 0, none⟩) 0 0) (.slice (some ⟨b1, o, none⟩) k c) rfl rfl HA9.out ?_; rintro v5 w5 ⟨R5, c5, rfl, ho5⟩; have HO5 := Lib.hid ho5; have F5 := Lib.hid (F4.out.belowB ho5.1 F4.out.hz); have b5 := keepCell ho5.1 bx0; have b5s := keepCell ho5.1 bx1; clear ho5))
            have HA15 := Lib.hid (fun ty => appLg (c2 := c2) HO5.out.drew (ys := x.free.drop (k + 1)) (by rw [HM.out]; omega) (HDR.out _ HO5.out.drew.1) ty)
            rw [HM.out] at HA15
            have k0 := F5.out.k0
            have k1 := F5.out.k1
            have q0 := F5.out.q0
            have q1 := F5.out.q1
            have qf := F5.out.qf
            go_region_held3 (fun w' => w'.cell? ⟨w.heap.size, 0, none⟩ = some (.string x.bytes) ∧ w'.cell? ⟨w.heap.size, 1, none⟩ = some (.slice (some ⟨b1, o, none⟩) x.free.length c))
              (first | (with_reducible assumption) | (with_reducible exact ⟨k0, k1⟩) | (with_reducible exact ⟨keepCell (Below.refl _ _).drew k0, keepCell (Below.refl _ _).drew k1⟩) | (with_reducible exact ⟨p0, p1⟩) | (exact ⟨farSet7 (by dsimp only; omega) (farSet7 (by dsimp only; omega) p0), farSet7 (by dsimp only; omega) (farSet7 (by dsimp only; omega) p1)⟩) | fail)
              (first
                | (refine stepAppAt7 (w5.drew) rfl (by with_unfolding_all rfl) _ _ _ (by with_unfolding_all rfl) _ _ (by with_unfolding_all rfl) (by with_unfolding_all rfl) HA15.out ?_; rintro _ w8 ⟨R8, c8, rfl, ho8⟩; have HO8 := Lib.hid ho8; have F8 := Lib.hid (F4.out.belowB ho8.1 F4.out.hz); have p0 := F8.out.k0; have p1 := F8.out.k1; have r0 := F8.out.q0; have r1 := F8.out.q1; have rf := F8.out.qf))
            go_wp2_with fail
            obtain ⟨s0, s1, s2⟩ := F8.out.ret (.string x.bytes) (.slice R8 (k + m) c8)
            refine bodyPost_ret (v := .tuple #[.agg #[.string x.bytes, .slice R8 (k + m) c8], .int .i64 U, .int .i64 0]) (by simp [results, Try.results75, go_sem, s0, s1]) rfl ?_
            have hans : alAns x s al = (⟨x.bytes, x.free.take k ++ x.free.drop (k + 1)⟩, U, 0) := by
              rw [HHIT.out (HFIT.out.2 (by omega))]
              unfold splitBk
              rw [if_neg (by omega), if_neg (by omega)]
              simp
            have hn : (x.free.take k ++ x.free.drop (k + 1)).length = k + m := by rw [← HM.out]; simp only [List.length_append, List.length_take]; omega
            rw [hans]
            refine ⟨R8, c8, by simp only [hn], ?_, s2⟩
            simp only [hn]
            have h9 := HO8.out.2.1.ret F4.out.hz (.string x.bytes) (.slice R8 (k + m) c8)
            exact h9
      · have hrel2 : ∀ z ∈ x.free.take (k + 1), ¬ fitsBk s al z := fun z hz => by
          obtain ⟨_, e2⟩ := List.getElem?_eq_some_iff.1 HY.out
          rw [List.take_succ_eq_append_getElem hlt, e2] at hz
          rcases List.mem_append.1 hz with hz | hz
          · exact hnf.out z hz
          · rw [List.mem_singleton] at hz
            subst hz
            exact fun h => hf (HFIT.out.1 h)
        have HR2 := Lib.hid hrel2
        clear hrel2
        by_cases hf1 : y.size < s
        · go_wp2_with fail
          go_roundw
          case rel => exact ⟨k + 1, hlt, by go_num, HR2, F4⟩
          case measure => simp [intOf]; omega
        · have hf2 : y.size - s < U - y.pos := by omega
          go_wp2_with fail
          go_roundw
          case rel => exact ⟨k + 1, hlt, by go_num, HR2, F4⟩
          case measure => simp [intOf]; omega
    · have hk' : k = x.free.length := by omega
      have hli : ¬ (k : Int) < (x.free.length : Int) := by omega
      have e := hnf.out
      rw [hk', List.take_length] at e
      have HE : Hid (alAns x s al = (noMe, 0, 4)) := Lib.hid (by
        unfold alAns
        have := allocL_miss e
        rw [this])
      have q0 := F.out.q0
      have q1 := F.out.q1
      have qf := F.out.qf
      clear e hk'
      go_wp2_with fail
      obtain ⟨s0, s1, s2⟩ := F.out.ret (.string ⟨#[]⟩) (.slice none 0 0)
      refine bodyPost_ret (v := .tuple #[.agg #[.string ⟨#[]⟩, .slice none 0 0], .int .i64 0, .int .i64 4]) (by simp [results, Try.results75, go_sem, s0, s1]) rfl ?_
      rw [HE.out]
      exact ⟨none, 0, rfl, ownBk_nil _ _, s2⟩
end Go.Proofs.Ytndeklmkhfopgaa
