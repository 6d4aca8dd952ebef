/-
  ShapeN, ShapeM, ShapeX, ShapeS, ShapeT, ShapeU, ShapeV: in one text.
-/
import Derived.Test.YtbjcldekapipaaaGreatDoorShapeI
import Derived.Test.YtbjcldekapipaaaGreatDoorAreDist
import Derived.Test.YtbjcldekapipaaaGreatDoorStWMoC
import Derived.OwnWalk
import Derived.Laws.AppendOwn
import Derived.Laws.OwnMore
import Derived.Deep.AppendLies
import Derived.BigQuiet
import Derived.Deep.RegionHeld3
namespace Go.Proofs.YtbjcldekapipaaaGreatDoor
open Go.ChangeShapes Go.WideShapes Go.ChangeAt Go.RowKit Go.Deep

theorem infoString15 : (Tryz.prog.info? 9).map (fun i => (i.zero, i.size, i.bytes)) = some (some (.string ⟨#[]⟩), 1, 16) := by kernel_rfl
/-- A row of texts of one's own. -/
def OwnS (W : World) (base : Nat) (xs : List ByteArray) (R : Option Addr) (n c : Nat) : Prop := xs.length = n ∧ W.ownsRow base 9 1 (.slice R n c) n (xs.map Value.string)
theorem OwnS.snoc2 {W wr w1 : World} {xs : List ByteArray} {m : ByteArray} {R3 : Option Addr} {c3 g cap n : Nat} {o o2 : Obj} (HO : OwnS wr W.heap.size xs R3 n c3) (HB : Below W.heap.size W wr)
    (hown : w1.ownsRow W.heap.size 9 1 (.slice (some ⟨g, 0, none⟩) (n + 1) cap) (n + 1) (xs.map Value.string ++ [.string m])) (hgrow : ((wr.alloc o).alloc o2).grownBy w1 (Value.slice R3 n c3).ownBlock) :
    OwnS w1 W.heap.size (xs ++ [m]) (some ⟨g, 0, none⟩) (n + 1) cap ∧ Below W.heap.size W w1 :=
  ⟨⟨by rw [List.length_append, HO.1]; rfl, by rw [List.map_append]; exact hown⟩, ((HB.alloc HB.size _).alloc (by have := HB.size; simp; omega) _).grown hgrow (by have := HB.size; simp; omega) (fun g hg => (HO.2.lt g hg).1)⟩
theorem OwnS.strs {w : World} {base : Nat} {xs : List ByteArray} {R : Option Addr} {c : Nat} (h : OwnS w base xs R xs.length c) : Strs w base xs R := by
  rcases h.2.2 with ⟨e, e2⟩ | ⟨g, cap', cur, e, hg, hb, h1, h2, h3, h4⟩
  · exact fun hp => by omega
  · injection e with e1 e2 e3
    subst e1
    refine fun hp => ⟨g, 0, rfl, hg, fun i n hn => ?_⟩
    have hi : i < xs.length := (List.getElem?_eq_some_iff.1 hn).1
    have hci : cur.toList[i]? = some (Value.string n) := by
      have h5 := congrArg (fun z => z[i]?) h4
      simp only [List.getElem?_take, Nat.mul_one, if_pos hi, List.getElem?_map, hn, Option.map_some] at h5
      exact h5
    simp only [World.cell?, hb, Nat.zero_add]
    rw [Array.getElem?_toList] at hci
    exact hci
theorem newsS (W : World) (o : Obj) (v : Value) (t : TypeId) : ∀ (j : Nat) (u : Value), [v][j]? = some u → ((W.alloc o).alloc (.cells #[v] t)).cell? ((⟨W.heap.size + 1, 0, none⟩ : Addr).add j) = some u := by
  intro j u hu
  cases j with
  | zero =>
    simp at hu
    subst hu
    simp [Addr.add]
  | succ n => simp at hu
theorem takeN {l : List ByteArray} {k : Nat} {s : ByteArray} (h : l[k]? = some s) : l.take (k + 1) = l.take k ++ [s] := by
  obtain ⟨hk, rfl⟩ := List.getElem?_eq_some_iff.1 h
  rw [List.take_succ_eq_append_getElem hk]
/-- The answer is a row of texts. -/
def AnsS (ls : List ByteArray) (w : World) (e : Ending) (w' : World) : Prop := ∃ (A : Option Addr) (c : Nat), e = .returned (.slice A ls.length c) ∧ Strs w' w.heap.size ls A ∧ Below w.heap.size w w'

set_option maxHeartbeats 2000000 in
set_option maxRecDepth 100000 in
theorem importNames_any (x : Mo) (hx : x.wt ≤ 1048576) (Rimports : Option Addr) (cimports : Nat) (Rcores : Option Addr) (ccores : Nat) (lo : Nat) (w : World) (h : Mo.At w lo x Rimports Rcores) :
    Calls Tryz.prog 63 #[.agg #[.int .i64 x.pages, .slice Rimports x.imports.length cimports, .slice Rcores x.cores.length ccores]] w (AnsS (imN x) w) := by
  obtain ⟨q_imports, q_cores, _⟩ := Mo.parts_le hx
  have hm : x.imports.length ≤ 1048576 := by have := Im.wts_nonneg x.imports; have := Co.wts_nonneg x.cores; omega
  have H := Lib.hid h
  obtain ⟨i0, hi0, hz0, hz1, hz2⟩ := info_parts infoString15
  clear h hx q_imports q_cores
  go_enter Tryz.func63, Tryz.ntmps63
  go_wp2_with fail
  go_loopw [3, 9] (fun v i wr => ∃ k : Nat, k ≤ x.imports.length ∧ i = .int .i64 k ∧ (∃ (R : Option Addr) (c : Nat), v = .slice R k c ∧ Hid (OwnS wr w.heap.size ((imN x).take k) R k c)) ∧ Hid (Below w.heap.size w wr)) (fun _ i _ => x.imports.length - (intOf i).toNat)
  case atStart => exact ⟨0, Nat.zero_le _, rfl, ⟨_, _, rfl, rfl, World.ownsRow_nil _ _ _ _⟩, below1 _ _⟩
  case round =>
    obtain ⟨k, hk, rfl, ⟨R3, c3, rfl, HO⟩, HB⟩ := hrel
    by_cases hlt : k < x.imports.length
    · obtain ⟨b, o, y, rfl, _, hyk, hc⟩ := (Ims.below H.out.1 HB.out).at_ hlt
      obtain ⟨c0_, c1_, c2_, _⟩ := hc
      have hz9 : b < wr.heap.size := World.block_lt_of_cell? wr _ c0_
      have hli : (k : Int) < (x.imports.length : Int) := by omega
      have hzi : w.heap.size ≤ wr.heap.size := HB.out.size
      have HTK : Hid ((imN x).take (k + 1) = (imN x).take k ++ [y.name]) := Lib.hid (takeN (by unfold imN; rw [List.getElem?_map, hyk]; rfl))
      clear hyk
      go_wp2_with (at_builtin; refine wpList_append_lies _ rfl _ _ _ rfl w.heap.size 9 i0 _ 1 16 Tryz.underlying106 hi0 hz0 hz1 hz2 rfl (by decide) (.slice R3 k c3) k (((imN x).take k).map Value.string) rfl ((HO.out.2.alloc _).alloc _) ⟨wr.heap.size + 1, 0, none⟩ 1 1 [.string y.name] rfl rfl (newsS _ _ _ _) (by simp [Value.oneCell']) (by omega) (by unfold maxLen; omega) (by omega) (by simp; omega) _ rfl ?_; intro g4 cap w4 hown4 hgrow4 hat4 hlt4; have HS4 := Lib.hid (HO.out.snoc2 (m := y.name) HB.out hown4 hgrow4); clear hown4 hgrow4 hat4 hlt4)
      go_roundw
      case rel => exact ⟨k + 1, by omega, by go_num, ⟨_, _, rfl, by rw [HTK.out]; exact HS4.out.1⟩, HS4.out.2⟩
      case measure => simp [intOf]; omega
    · obtain rfl : k = x.imports.length := by omega
      have hlti : ¬ (x.imports.length : Int) < (x.imports.length : Int) := by omega
      have hall : (imN x).take x.imports.length = imN x := List.take_of_length_le (by unfold imN; rw [List.length_map]; exact Nat.le_refl _)
      have HO' := HO.out
      rw [hall] at HO'
      have hln : (imN x).length = x.imports.length := by unfold imN; rw [List.length_map]
      have HA : Hid (AnsS (imN x) w (.returned (.slice R3 x.imports.length c3)) wr) := Lib.hid (by rw [← hln]; exact ⟨_, _, rfl, OwnS.strs (by rw [hln]; exact HO'), HB.out⟩)
      clear HO HO' hall hln
      go_wp2_with fail
      go_ret
      exact HA.out

set_option maxHeartbeats 2000000 in
set_option maxRecDepth 100000 in
theorem coreNames_any (x : Mo) (hx : x.wt ≤ 1048576) (Rimports : Option Addr) (cimports : Nat) (Rcores : Option Addr) (ccores : Nat) (lo : Nat) (w : World) (h : Mo.At w lo x Rimports Rcores) :
    Calls Tryz.prog 64 #[.agg #[.int .i64 x.pages, .slice Rimports x.imports.length cimports, .slice Rcores x.cores.length ccores]] w (AnsS (coN x) w) := by
  obtain ⟨q_imports, q_cores, _⟩ := Mo.parts_le hx
  have hm : x.cores.length ≤ 1048576 := by have := Im.wts_nonneg x.imports; have := Co.wts_nonneg x.cores; omega
  have H := Lib.hid h
  obtain ⟨i0, hi0, hz0, hz1, hz2⟩ := info_parts infoString15
  clear h hx q_imports q_cores
  go_enter Tryz.func64, Tryz.ntmps64
  go_wp2_with fail
  go_loopw [3, 9] (fun v i wr => ∃ k : Nat, k ≤ x.cores.length ∧ i = .int .i64 k ∧ (∃ (R : Option Addr) (c : Nat), v = .slice R k c ∧ Hid (OwnS wr w.heap.size ((coN x).take k) R k c)) ∧ Hid (Below w.heap.size w wr)) (fun _ i _ => x.cores.length - (intOf i).toNat)
  case atStart => exact ⟨0, Nat.zero_le _, rfl, ⟨_, _, rfl, rfl, World.ownsRow_nil _ _ _ _⟩, below1 _ _⟩
  case round =>
    obtain ⟨k, hk, rfl, ⟨R3, c3, rfl, HO⟩, HB⟩ := hrel
    by_cases hlt : k < x.cores.length
    · obtain ⟨b, o, y, R1, c1, rfl, _, hyk, hc⟩ := (Cos.below H.out.2 HB.out).at_ hlt
      obtain ⟨c0_, c1_, c2_, c3_, c4_, _⟩ := hc
      have hz9 : b < wr.heap.size := World.block_lt_of_cell? wr _ c0_
      have hli : (k : Int) < (x.cores.length : Int) := by omega
      have hzi : w.heap.size ≤ wr.heap.size := HB.out.size
      have HTK : Hid ((coN x).take (k + 1) = (coN x).take k ++ [y.name]) := Lib.hid (takeN (by unfold coN; rw [List.getElem?_map, hyk]; rfl))
      clear hyk
      go_wp2_with (at_builtin; refine wpList_append_lies _ rfl _ _ _ rfl w.heap.size 9 i0 _ 1 16 Tryz.underlying106 hi0 hz0 hz1 hz2 rfl (by decide) (.slice R3 k c3) k (((coN x).take k).map Value.string) rfl ((HO.out.2.alloc _).alloc _) ⟨wr.heap.size + 1, 0, none⟩ 1 1 [.string y.name] rfl rfl (newsS _ _ _ _) (by simp [Value.oneCell']) (by omega) (by unfold maxLen; omega) (by omega) (by simp; omega) _ rfl ?_; intro g4 cap w4 hown4 hgrow4 hat4 hlt4; have HS4 := Lib.hid (HO.out.snoc2 (m := y.name) HB.out hown4 hgrow4); clear hown4 hgrow4 hat4 hlt4)
      go_roundw
      case rel => exact ⟨k + 1, by omega, by go_num, ⟨_, _, rfl, by rw [HTK.out]; exact HS4.out.1⟩, HS4.out.2⟩
      case measure => simp [intOf]; omega
    · obtain rfl : k = x.cores.length := by omega
      have hlti : ¬ (x.cores.length : Int) < (x.cores.length : Int) := by omega
      have hall : (coN x).take x.cores.length = coN x := List.take_of_length_le (by unfold coN; rw [List.length_map]; exact Nat.le_refl _)
      have HO' := HO.out
      rw [hall] at HO'
      have hln : (coN x).length = x.cores.length := by unfold coN; rw [List.length_map]
      have HA : Hid (AnsS (coN x) w (.returned (.slice R3 x.cores.length c3)) wr) := Lib.hid (by rw [← hln]; exact ⟨_, _, rfl, OwnS.strs (by rw [hln]; exact HO'), HB.out⟩)
      clear HO HO' hall hln
      go_wp2_with fail
      go_ret
      exact HA.out

end Go.Proofs.YtbjcldekapipaaaGreatDoor

namespace Go.Proofs.YtbjcldekapipaaaGreatDoor
open Go.ChangeShapes Go.WideShapes Go.ChangeAt Go.RowKit Go.Deep

theorem im_wt {x : Mo} (hx : x.wt ≤ 1048576) : ∀ (i : Nat) (y : Im), x.imports[i]? = some y → y.wt ≤ 1048576 := fun i y hy => by
  have := Im.wt_mem hy
  have := Co.wts_nonneg x.cores
  unfold Mo.wt at hx
  omega
theorem co_wt {x : Mo} (hx : x.wt ≤ 1048576) : ∀ (i : Nat) (y : Co), x.cores[i]? = some y → y.wt ≤ 1048576 := fun i y hy => by
  have := Co.wt_mem hy
  have := Im.wts_nonneg x.imports
  unfold Mo.wt at hx
  omega
theorem imN_size {x : Mo} (hx : x.wt ≤ 1048576) : ∀ s ∈ imN x, s.size ≤ 1048576 := fun s hs => by
  obtain ⟨i, hi⟩ := List.getElem?_of_mem hs
  unfold imN at hi
  rw [List.getElem?_map] at hi
  cases hy : x.imports[i]? with
  | none => rw [hy] at hi; cases hi
  | some y =>
    rw [hy] at hi
    injection hi with hi
    have := im_wt hx i y hy
    unfold Im.wt at this
    rw [← hi]
    omega
theorem coN_size {x : Mo} (hx : x.wt ≤ 1048576) : ∀ s ∈ coN x, s.size ≤ 1048576 := fun s hs => by
  obtain ⟨i, hi⟩ := List.getElem?_of_mem hs
  unfold coN at hi
  rw [List.getElem?_map] at hi
  cases hy : x.cores[i]? with
  | none => rw [hy] at hi; cases hi
  | some y =>
    rw [hy] at hi
    injection hi with hi
    have := co_wt hx i y hy
    have := In.wts_nonneg y.code
    unfold Co.wt at *
    rw [← hi]
    omega

set_option maxHeartbeats 4000000 in
set_option maxRecDepth 100000 in
theorem implShape_any (x : Mo) (hx : x.wt ≤ 1048576) (Rimports : Option Addr) (cimports : Nat) (Rcores : Option Addr) (ccores : Nat) (lo : Nat) (w : World) (h : Mo.At w lo x Rimports Rcores) (ht : OpTab w) :
    Calls Tryz.prog 26 #[.agg #[.int .i64 x.pages, .slice Rimports x.imports.length cimports, .slice Rcores x.cores.length ccores]] w (SaysM (ShapeP x) w) := by
  obtain ⟨q_imports, q_cores, _⟩ := Mo.parts_le hx
  have hm1 : x.imports.length ≤ 1048576 := by have := Im.wts_nonneg x.imports; omega
  have hm2 : x.cores.length ≤ 1048576 := by have := Co.wts_nonneg x.cores; omega
  have CP := Lib.hid (fun W => has15_any 1 16 x.pages W)
  have CI := (fun W (hb : Below w.heap.size w W) => contIm_any x.imports hm1 (im_wt hx) Rimports cimports lo W (Ims.below h.1 hb) (ht.keep hb))
  have CC := (fun W (hb : Below w.heap.size w W) => contCo_any x.cores hm2 (co_wt hx) Rcores ccores lo W (Cos.below h.2 hb) (ht.keep hb))
  have CIN := Lib.hid (fun W (hb : Below w.heap.size w W) => importNames_any x hx Rimports cimports Rcores ccores lo W (h.below hb))
  have CCN := Lib.hid (fun W (hb : Below w.heap.size w W) => coreNames_any x hx Rimports cimports Rcores ccores lo W (h.below hb))
  have hn1 : (imN x).length ≤ 1048576 := by unfold imN; rw [List.length_map]; exact hm1
  have hn2 : (coN x).length ≤ 1048576 := by unfold coN; rw [List.length_map]; exact hm2
  have CD1 := (fun (A : Option Addr) (c l : Nat) (W : World) (hs : Strs W l (imN x) A) => areDistinct_any (imN x) (imN_size hx) hn1 A c l W hs)
  have CD2 := (fun (A : Option Addr) (c l : Nat) (W : World) (hs : Strs W l (coN x) A) => areDistinct_any (coN x) (coN_size hx) hn2 A c l W hs)
  have HT : Hid (ShapeP x ↔ ((1 ≤ x.pages ∧ x.pages ≤ 16) ∧ x.imports.length ≤ 12 ∧ x.cores.length ≤ 8 ∧ ¬ BadE imV x.imports x.imports.length ∧ ¬ BadE coV x.cores x.cores.length ∧ DistTo (imN x) (imN x).length ∧ DistTo (coN x) (coN x).length)) := Lib.hid (by
    unfold ShapeP
    constructor
    · rintro ⟨a, b, c, d, e, f, g⟩
      exact ⟨a, b, c, fun hb => BadE.not_all hb d, fun hb => BadE.not_all hb e, f, g⟩
    · rintro ⟨a, b, c, d, e, f, g⟩
      exact ⟨a, b, c, BadE.all d, BadE.all e, f, g⟩)
  generalize hT : ShapeP x = T at *
  clear h ht hx hT q_imports q_cores
  by_cases hp : 1 ≤ x.pages ∧ x.pages ≤ 16
  · rw [decide_eq_true hp] at CP
    have HP := Lib.hid hp
    clear hp
    by_cases h12 : x.imports.length ≤ 12
    · have g12 : ¬ 12 < (x.imports.length : Int) := by omega
      have d12 : decide (12 < (x.imports.length : Int)) = false := decide_eq_false g12
      have e12 : ¬ 12 < x.imports.length := by omega
      by_cases h8 : x.cores.length ≤ 8
      · have g8 : ¬ 8 < (x.cores.length : Int) := by omega
        have d8 : decide (8 < (x.cores.length : Int)) = false := decide_eq_false g8
        have e8 : ¬ 8 < x.cores.length := by omega
        have H12 := Lib.hid h12
        have H8 := Lib.hid h8
        clear h12 h8
        by_cases hbi : BadE imV x.imports x.imports.length
        · have CI := Lib.hid (fun W hb => (CI W hb).mono fun _ _ j => j.yes hbi)
          have HF : Hid (¬ T) := Lib.hid (fun h0 => (HT.out.mp h0).2.2.2.1 hbi)
          clear hbi CC CD1 CD2
          go_enter Tryz.func26, Tryz.ntmps26
          go_wp2_with (first
            | (go_at_call 57; (with_reducible refine (CP.out _).mono ?_); rintro e w1 ⟨rfl, h1⟩; have HB1 := Lib.hid (bnext (by first | exact below1 _ _ | exact below2 _ _ _) h1); have k0 := keepCell (a := ⟨w.heap.size, 0, none⟩) (v := .int .i64 x.pages) h1 (by go_simp); have k1 := keepCell (a := ⟨w.heap.size, 1, none⟩) (v := .slice Rimports x.imports.length cimports) h1 (by go_simp); have k2 := keepCell (a := ⟨w.heap.size, 2, none⟩) (v := .slice Rcores x.cores.length ccores) h1 (by go_simp); clear h1)
            | (go_at_call 58; (with_reducible refine (CI.out _ HB1.out).mono ?_); rintro e w2 ⟨rfl, h2⟩; have HB2 := Lib.hid (bnext HB1.out h2); have j0 := keepCell h2 k0; have j1 := keepCell h2 k1; have j2 := keepCell h2 k2; clear h2 k0 k1 k2)
            )
          go_ret
          exact ⟨false, rfl, iffM_F HF.out, HB2.out⟩

        · have CI := Lib.hid (fun W hb => (CI W hb).mono fun _ _ j => j.no hbi)
          have HBI := Lib.hid hbi
          clear hbi
          by_cases hbc : BadE coV x.cores x.cores.length
          · have CC := Lib.hid (fun W hb => (CC W hb).mono fun _ _ j => j.yes hbc)
            have HF : Hid (¬ T) := Lib.hid (fun h0 => (HT.out.mp h0).2.2.2.2.1 hbc)
            clear hbc CD1 CD2
            go_enter Tryz.func26, Tryz.ntmps26
            go_wp2_with (first
              | (go_at_call 57; (with_reducible refine (CP.out _).mono ?_); rintro e w1 ⟨rfl, h1⟩; have HB1 := Lib.hid (bnext (by first | exact below1 _ _ | exact below2 _ _ _) h1); have k0 := keepCell (a := ⟨w.heap.size, 0, none⟩) (v := .int .i64 x.pages) h1 (by go_simp); have k1 := keepCell (a := ⟨w.heap.size, 1, none⟩) (v := .slice Rimports x.imports.length cimports) h1 (by go_simp); have k2 := keepCell (a := ⟨w.heap.size, 2, none⟩) (v := .slice Rcores x.cores.length ccores) h1 (by go_simp); clear h1)
              | (go_at_call 58; (with_reducible refine (CI.out _ HB1.out).mono ?_); rintro e w2 ⟨rfl, h2⟩; have HB2 := Lib.hid (bnext HB1.out h2); have j0 := keepCell h2 k0; have j1 := keepCell h2 k1; have j2 := keepCell h2 k2; clear h2 k0 k1 k2)
              | (go_at_call 60; (with_reducible refine (CC.out _ HB2.out).mono ?_); rintro e w3 ⟨rfl, h3⟩; have HB3 := Lib.hid (bnext HB2.out h3); have i0 := keepCell h3 j0; have i1 := keepCell h3 j1; have i2 := keepCell h3 j2; clear h3 j0 j1 j2)
              )
            go_ret
            exact ⟨false, rfl, iffM_F HF.out, HB3.out⟩

          · have CC := Lib.hid (fun W hb => (CC W hb).mono fun _ _ j => j.no hbc)
            have HBC := Lib.hid hbc
            clear hbc
            by_cases hd1 : DistTo (imN x) (imN x).length
            · have CD1 := Lib.hid (fun A c l W hs => (CD1 A c l W hs).mono fun _ _ j => j.yes hd1)
              have HD1 := Lib.hid hd1
              clear hd1
              by_cases hd2 : DistTo (coN x) (coN x).length
              · have CD2 := Lib.hid (fun A c l W hs => (CD2 A c l W hs).mono fun _ _ j => j.yes hd2)
                have HE : Hid T := Lib.hid (HT.out.mpr ⟨HP.out, H12.out, H8.out, HBI.out, HBC.out, HD1.out, hd2⟩)
                clear hd2
                go_enter Tryz.func26, Tryz.ntmps26
                go_wp2_with (first
                  | (go_at_call 57; (with_reducible refine (CP.out _).mono ?_); rintro e w1 ⟨rfl, h1⟩; have HB1 := Lib.hid (bnext (by first | exact below1 _ _ | exact below2 _ _ _) h1); have k0 := keepCell (a := ⟨w.heap.size, 0, none⟩) (v := .int .i64 x.pages) h1 (by go_simp); have k1 := keepCell (a := ⟨w.heap.size, 1, none⟩) (v := .slice Rimports x.imports.length cimports) h1 (by go_simp); have k2 := keepCell (a := ⟨w.heap.size, 2, none⟩) (v := .slice Rcores x.cores.length ccores) h1 (by go_simp); clear h1)
                  | (go_at_call 58; (with_reducible refine (CI.out _ HB1.out).mono ?_); rintro e w2 ⟨rfl, h2⟩; have HB2 := Lib.hid (bnext HB1.out h2); have j0 := keepCell h2 k0; have j1 := keepCell h2 k1; have j2 := keepCell h2 k2; clear h2 k0 k1 k2)
                  | (go_at_call 60; (with_reducible refine (CC.out _ HB2.out).mono ?_); rintro e w3 ⟨rfl, h3⟩; have HB3 := Lib.hid (bnext HB2.out h3); have i0 := keepCell h3 j0; have i1 := keepCell h3 j1; have i2 := keepCell h3 j2; clear h3 j0 j1 j2)
                  | (go_at_call 63; (with_reducible refine (CIN.out _ HB3.out).mono ?_); rintro e w4 ⟨A4, c4, rfl, hs4, h4⟩; have HS4 := Lib.hid hs4; have HL4 := Lib.hid h4; have HB4 := Lib.hid (bnext HB3.out h4); have m0 := keepCell h4 i0; have m1 := keepCell h4 i1; have m2 := keepCell h4 i2; clear h4 hs4 i0 i1 i2)
                  | (go_at_call 64; (with_reducible refine (CCN.out _ HB5.out).mono ?_); rintro e w6 ⟨A6, c6, rfl, hs6, h6⟩; have HS6 := Lib.hid hs6; have HB6 := Lib.hid (bnext HB5.out h6); clear h6 hs6)
                  | (go_at_call 62; (with_reducible refine (CD2.out _ _ _ _ HS6.out).mono ?_); rintro e w7 ⟨rfl, h7⟩; have HB7 := Lib.hid (bnext HB6.out h7); clear h7)
                  | (go_at_call 62; (with_reducible refine (CD1.out _ _ _ _ HS4.out).mono ?_); rintro e w5 ⟨rfl, h5⟩; have HB5 := Lib.hid (bnext HB4.out h5); have n0 := keepCell h5 m0; have n1 := keepCell h5 m1; have n2 := keepCell h5 m2; clear h5 m0 m1 m2)
                  )
                go_ret
                exact ⟨true, rfl, iffM_T HE.out, HB7.out⟩

              · have CD2 := Lib.hid (fun A c l W hs => (CD2 A c l W hs).mono fun _ _ j => j.no hd2)
                have HF : Hid (¬ T) := Lib.hid (fun h0 => hd2 (HT.out.mp h0).2.2.2.2.2.2)
                clear hd2
                go_enter Tryz.func26, Tryz.ntmps26
                go_wp2_with (first
                  | (go_at_call 57; (with_reducible refine (CP.out _).mono ?_); rintro e w1 ⟨rfl, h1⟩; have HB1 := Lib.hid (bnext (by first | exact below1 _ _ | exact below2 _ _ _) h1); have k0 := keepCell (a := ⟨w.heap.size, 0, none⟩) (v := .int .i64 x.pages) h1 (by go_simp); have k1 := keepCell (a := ⟨w.heap.size, 1, none⟩) (v := .slice Rimports x.imports.length cimports) h1 (by go_simp); have k2 := keepCell (a := ⟨w.heap.size, 2, none⟩) (v := .slice Rcores x.cores.length ccores) h1 (by go_simp); clear h1)
                  | (go_at_call 58; (with_reducible refine (CI.out _ HB1.out).mono ?_); rintro e w2 ⟨rfl, h2⟩; have HB2 := Lib.hid (bnext HB1.out h2); have j0 := keepCell h2 k0; have j1 := keepCell h2 k1; have j2 := keepCell h2 k2; clear h2 k0 k1 k2)
                  | (go_at_call 60; (with_reducible refine (CC.out _ HB2.out).mono ?_); rintro e w3 ⟨rfl, h3⟩; have HB3 := Lib.hid (bnext HB2.out h3); have i0 := keepCell h3 j0; have i1 := keepCell h3 j1; have i2 := keepCell h3 j2; clear h3 j0 j1 j2)
                  | (go_at_call 63; (with_reducible refine (CIN.out _ HB3.out).mono ?_); rintro e w4 ⟨A4, c4, rfl, hs4, h4⟩; have HS4 := Lib.hid hs4; have HL4 := Lib.hid h4; have HB4 := Lib.hid (bnext HB3.out h4); have m0 := keepCell h4 i0; have m1 := keepCell h4 i1; have m2 := keepCell h4 i2; clear h4 hs4 i0 i1 i2)
                  | (go_at_call 64; (with_reducible refine (CCN.out _ HB5.out).mono ?_); rintro e w6 ⟨A6, c6, rfl, hs6, h6⟩; have HS6 := Lib.hid hs6; have HB6 := Lib.hid (bnext HB5.out h6); clear h6 hs6)
                  | (go_at_call 62; (with_reducible refine (CD2.out _ _ _ _ HS6.out).mono ?_); rintro e w7 ⟨rfl, h7⟩; have HB7 := Lib.hid (bnext HB6.out h7); clear h7)
                  | (go_at_call 62; (with_reducible refine (CD1.out _ _ _ _ HS4.out).mono ?_); rintro e w5 ⟨rfl, h5⟩; have HB5 := Lib.hid (bnext HB4.out h5); have n0 := keepCell h5 m0; have n1 := keepCell h5 m1; have n2 := keepCell h5 m2; clear h5 m0 m1 m2)
                  )
                go_ret
                exact ⟨false, rfl, iffM_F HF.out, HB7.out⟩

            · have CD1 := Lib.hid (fun A c l W hs => (CD1 A c l W hs).mono fun _ _ j => j.no hd1)
              have HF : Hid (¬ T) := Lib.hid (fun h0 => hd1 (HT.out.mp h0).2.2.2.2.2.1)
              clear hd1 CD2
              go_enter Tryz.func26, Tryz.ntmps26
              go_wp2_with (first
                | (go_at_call 57; (with_reducible refine (CP.out _).mono ?_); rintro e w1 ⟨rfl, h1⟩; have HB1 := Lib.hid (bnext (by first | exact below1 _ _ | exact below2 _ _ _) h1); have k0 := keepCell (a := ⟨w.heap.size, 0, none⟩) (v := .int .i64 x.pages) h1 (by go_simp); have k1 := keepCell (a := ⟨w.heap.size, 1, none⟩) (v := .slice Rimports x.imports.length cimports) h1 (by go_simp); have k2 := keepCell (a := ⟨w.heap.size, 2, none⟩) (v := .slice Rcores x.cores.length ccores) h1 (by go_simp); clear h1)
                | (go_at_call 58; (with_reducible refine (CI.out _ HB1.out).mono ?_); rintro e w2 ⟨rfl, h2⟩; have HB2 := Lib.hid (bnext HB1.out h2); have j0 := keepCell h2 k0; have j1 := keepCell h2 k1; have j2 := keepCell h2 k2; clear h2 k0 k1 k2)
                | (go_at_call 60; (with_reducible refine (CC.out _ HB2.out).mono ?_); rintro e w3 ⟨rfl, h3⟩; have HB3 := Lib.hid (bnext HB2.out h3); have i0 := keepCell h3 j0; have i1 := keepCell h3 j1; have i2 := keepCell h3 j2; clear h3 j0 j1 j2)
                | (go_at_call 63; (with_reducible refine (CIN.out _ HB3.out).mono ?_); rintro e w4 ⟨A4, c4, rfl, hs4, h4⟩; have HS4 := Lib.hid hs4; have HL4 := Lib.hid h4; have HB4 := Lib.hid (bnext HB3.out h4); have m0 := keepCell h4 i0; have m1 := keepCell h4 i1; have m2 := keepCell h4 i2; clear h4 hs4 i0 i1 i2)
                | (go_at_call 62; (with_reducible refine (CD1.out _ _ _ _ HS4.out).mono ?_); rintro e w5 ⟨rfl, h5⟩; have HB5 := Lib.hid (bnext HB4.out h5); have n0 := keepCell h5 m0; have n1 := keepCell h5 m1; have n2 := keepCell h5 m2; clear h5 m0 m1 m2)
                )
              go_ret
              exact ⟨false, rfl, iffM_F HF.out, HB5.out⟩

      · have g8 : 8 < (x.cores.length : Int) := by omega
        have d8 : decide (8 < (x.cores.length : Int)) = true := decide_eq_true g8
        have e8 : 8 < x.cores.length := by omega
        have HF : Hid (¬ T) := Lib.hid (fun h0 => h8 (HT.out.mp h0).2.2.1)
        clear h8 CI CC CD1 CD2
        go_enter Tryz.func26, Tryz.ntmps26
        go_wp2_with (first
          | (go_at_call 57; (with_reducible refine (CP.out _).mono ?_); rintro e w1 ⟨rfl, h1⟩; have HB1 := Lib.hid (bnext (by first | exact below1 _ _ | exact below2 _ _ _) h1); have k0 := keepCell (a := ⟨w.heap.size, 0, none⟩) (v := .int .i64 x.pages) h1 (by go_simp); have k1 := keepCell (a := ⟨w.heap.size, 1, none⟩) (v := .slice Rimports x.imports.length cimports) h1 (by go_simp); have k2 := keepCell (a := ⟨w.heap.size, 2, none⟩) (v := .slice Rcores x.cores.length ccores) h1 (by go_simp); clear h1)
          )
        go_ret
        exact ⟨false, rfl, iffM_F HF.out, HB1.out⟩

    · have g12 : 12 < (x.imports.length : Int) := by omega
      have d12 : decide (12 < (x.imports.length : Int)) = true := decide_eq_true g12
      have e12 : 12 < x.imports.length := by omega
      have HF : Hid (¬ T) := Lib.hid (fun h0 => h12 (HT.out.mp h0).2.1)
      clear h12 CI CC CD1 CD2
      go_enter Tryz.func26, Tryz.ntmps26
      go_wp2_with (first
        | (go_at_call 57; (with_reducible refine (CP.out _).mono ?_); rintro e w1 ⟨rfl, h1⟩; have HB1 := Lib.hid (bnext (by first | exact below1 _ _ | exact below2 _ _ _) h1); have k0 := keepCell (a := ⟨w.heap.size, 0, none⟩) (v := .int .i64 x.pages) h1 (by go_simp); have k1 := keepCell (a := ⟨w.heap.size, 1, none⟩) (v := .slice Rimports x.imports.length cimports) h1 (by go_simp); have k2 := keepCell (a := ⟨w.heap.size, 2, none⟩) (v := .slice Rcores x.cores.length ccores) h1 (by go_simp); clear h1)
        )
      go_ret
      exact ⟨false, rfl, iffM_F HF.out, HB1.out⟩

  · rw [decide_eq_false hp] at CP
    have HF : Hid (¬ T) := Lib.hid (fun h0 => hp (HT.out.mp h0).1)
    clear hp CI CC CD1 CD2
    go_enter Tryz.func26, Tryz.ntmps26
    go_wp2_with (first
      | (go_at_call 57; (with_reducible refine (CP.out _).mono ?_); rintro e w1 ⟨rfl, h1⟩; have HB1 := Lib.hid (bnext (by first | exact below1 _ _ | exact below2 _ _ _) h1); have k0 := keepCell (a := ⟨w.heap.size, 0, none⟩) (v := .int .i64 x.pages) h1 (by go_simp); have k1 := keepCell (a := ⟨w.heap.size, 1, none⟩) (v := .slice Rimports x.imports.length cimports) h1 (by go_simp); have k2 := keepCell (a := ⟨w.heap.size, 2, none⟩) (v := .slice Rcores x.cores.length ccores) h1 (by go_simp); clear h1)
      )
    go_ret
    exact ⟨false, rfl, iffM_F HF.out, HB1.out⟩

end Go.Proofs.YtbjcldekapipaaaGreatDoor

namespace Go.Proofs.YtbjcldekapipaaaGreatDoor
open Go.ChangeShapes Go.WideShapes Go.ChangeAt Go.RowKit Go.Deep

/-- The first place of a text in a row, or -1. -/
def ixGo : List ByteArray → ByteArray → Nat → Int
  | [], _, _ => -1
  | a :: l, s, k => if a = s then (k : Int) else ixGo l s (k + 1)
theorem ixGo_at {l : List ByteArray} {k j : Nat} {a s : ByteArray} (h : l[k]? = some a) : ixGo (l.drop k) s j = if a = s then (j : Int) else ixGo (l.drop (k + 1)) s (j + 1) := by
  obtain ⟨hk, rfl⟩ := List.getElem?_eq_some_iff.1 h
  rw [List.drop_eq_getElem_cons hk]
  rfl
theorem ixGo_ge : ∀ (l : List ByteArray) (s : ByteArray) (k : Nat), -1 ≤ ixGo l s k
  | [], _, _ => by simp [ixGo]
  | a :: l, s, k => by
    rw [ixGo]
    split
    · omega
    · exact ixGo_ge l s (k + 1)

set_option maxHeartbeats 1000000 in
theorem l15ImportAt_any (xs : List Im) (s : ByteArray) (hl : xs.length ≤ 1048576) (R : Option Addr) (c lo : Nat) (w : World) (h : Ims w lo xs R) :
    Calls Tryz.prog 77 #[.slice R xs.length c, .string s] w fun e w' => e = .returned (.int .i64 (ixGo (xs.map Im.name) s 0)) ∧ w = w' := by
  have H := Lib.hid h
  have HV0 : Hid (ixGo ((xs.map Im.name).drop 0) s 0 = ixGo (xs.map Im.name) s 0) := Lib.hid rfl
  generalize ixGo (xs.map Im.name) s 0 = V at *
  clear h
  go_enter Tryz.func77, Tryz.ntmps77
  go_wp2_with fail
  go_loopw [5] (fun i wr => ∃ k : Nat, k ≤ xs.length ∧ i = .int .i64 k ∧ Hid (ixGo ((xs.map Im.name).drop k) s k = V) ∧ wr = w) (fun i _ => xs.length - (intOf i).toNat)
  case atStart => exact ⟨0, Nat.zero_le _, rfl, HV0, rfl⟩
  case round =>
    obtain ⟨k, hk, rfl, HV, rfl⟩ := hrel
    clear HV0
    by_cases hlt : k < xs.length
    · obtain ⟨b, o, y, rfl, _, hyk, hc⟩ := Ims.at_ H.out hlt
      obtain ⟨c0_, c1_, c2_, _⟩ := hc
      have hli : (k : Int) < (xs.length : Int) := by omega
      have hstep : ixGo ((xs.map Im.name).drop k) s k = if y.name = s then (k : Int) else ixGo ((xs.map Im.name).drop (k + 1)) s (k + 1) := ixGo_at (by rw [List.getElem?_map, hyk]; rfl)
      rw [hstep] at HV
      clear hstep hyk
      by_cases he : y.name = s
      · rw [if_pos he] at HV
        have e0 : (y.name.toList == s.toList) = true := by rw [he, beq_iff_eq]
        clear he
        go_wp2_with fail
        go_ret
        exact ⟨by rw [← HV.out]; rfl, by first | trivial | rfl⟩
      · rw [if_neg he] at HV
        have e0 := text_neM he
        clear he
        go_wp2_with fail
        go_roundw
        case rel => exact ⟨k + 1, by omega, by go_num, HV, by first | trivial | rfl⟩
        case measure => simp [intOf]; omega
    · obtain rfl : k = xs.length := by omega
      have HE : Hid (V = -1) := Lib.hid (by rw [← HV.out, List.drop_of_length_le (by rw [List.length_map]; exact Nat.le_refl _)]; rfl)
      clear HV
      go_wp2_with fail
      go_ret
      exact ⟨by rw [HE.out]; rfl, by first | trivial | rfl⟩

set_option maxHeartbeats 1000000 in
theorem l15CoreAt_any (xs : List Co) (s : ByteArray) (hl : xs.length ≤ 1048576) (R : Option Addr) (c lo : Nat) (w : World) (h : Cos w lo xs R) :
    Calls Tryz.prog 79 #[.slice R xs.length c, .string s] w fun e w' => e = .returned (.int .i64 (ixGo (xs.map Co.name) s 0)) ∧ w = w' := by
  have H := Lib.hid h
  have HV0 : Hid (ixGo ((xs.map Co.name).drop 0) s 0 = ixGo (xs.map Co.name) s 0) := Lib.hid rfl
  generalize ixGo (xs.map Co.name) s 0 = V at *
  clear h
  go_enter Tryz.func79, Tryz.ntmps79
  go_wp2_with fail
  go_loopw [5] (fun i wr => ∃ k : Nat, k ≤ xs.length ∧ i = .int .i64 k ∧ Hid (ixGo ((xs.map Co.name).drop k) s k = V) ∧ wr = w) (fun i _ => xs.length - (intOf i).toNat)
  case atStart => exact ⟨0, Nat.zero_le _, rfl, HV0, rfl⟩
  case round =>
    obtain ⟨k, hk, rfl, HV, rfl⟩ := hrel
    clear HV0
    by_cases hlt : k < xs.length
    · obtain ⟨b, o, y, R1, c1, rfl, _, hyk, hc⟩ := Cos.at_ H.out hlt
      obtain ⟨c0_, c1_, c2_, c3_, c4_, _⟩ := hc
      have hli : (k : Int) < (xs.length : Int) := by omega
      have hstep : ixGo ((xs.map Co.name).drop k) s k = if y.name = s then (k : Int) else ixGo ((xs.map Co.name).drop (k + 1)) s (k + 1) := ixGo_at (by rw [List.getElem?_map, hyk]; rfl)
      rw [hstep] at HV
      clear hstep hyk
      by_cases he : y.name = s
      · rw [if_pos he] at HV
        have e0 : (y.name.toList == s.toList) = true := by rw [he, beq_iff_eq]
        clear he
        go_wp2_with fail
        go_ret
        exact ⟨by rw [← HV.out]; rfl, by first | trivial | rfl⟩
      · rw [if_neg he] at HV
        have e0 := text_neM he
        clear he
        go_wp2_with fail
        go_roundw
        case rel => exact ⟨k + 1, by omega, by go_num, HV, by first | trivial | rfl⟩
        case measure => simp [intOf]; omega
    · obtain rfl : k = xs.length := by omega
      have HE : Hid (V = -1) := Lib.hid (by rw [← HV.out, List.drop_of_length_le (by rw [List.length_map]; exact Nat.le_refl _)]; rfl)
      clear HV
      go_wp2_with fail
      go_ret
      exact ⟨by rw [HE.out]; rfl, by first | trivial | rfl⟩

end Go.Proofs.YtbjcldekapipaaaGreatDoor

namespace Go.Proofs.YtbjcldekapipaaaGreatDoor
open Go.ChangeShapes Go.WideShapes Go.ChangeAt Go.RowKit Go.Deep

theorem l00In_any (n l h : Int) (w : World) :
    Calls Tryz.prog 40 #[.int .i64 n, .int .i64 l, .int .i64 h] w fun e w' => e = .returned (.bool (decide (l ≤ n ∧ n ≤ h))) ∧ w = w' := by
  by_cases hc : l ≤ n ∧ n ≤ h
  · rw [decide_eq_true hc]
    exact l00In_yes n l h w hc.1 hc.2
  · rw [decide_eq_false hc]
    exact l00In_no n l h w (by omega)
theorem l15In_any (x : In) (w : World) :
    Calls Tryz.prog 110 #[.agg #[.int .i64 x.op, .int .i64 x.a]] w fun e w' => e = .returned (.bool (inV x)) ∧ Below w.heap.size w w' := l15Ins_any x.op x.a w

set_option maxHeartbeats 2000000 in
set_option maxRecDepth 100000 in
theorem l15Core_any (x : Co) (hx : x.wt ≤ 1048576) (R : Option Addr) (c lo : Nat) (w : World) (h : Co.At w lo x R) :
    Calls Tryz.prog 78 #[.agg #[.string x.name, .int .i64 x.params, .int .i64 x.locals, .bool x.result, .slice R x.code.length c]] w fun e w' => e = .returned (.bool (coV x)) ∧ Below w.heap.size w w' := by
  have hs : x.name.size ≤ 1048576 := by have := In.wts_nonneg x.code; unfold Co.wt at hx; omega
  have hl : x.code.length ≤ 1048576 := by have := In.wts_nonneg x.code; unfold Co.wt at hx; omega
  have CW := Lib.hid (fun W => l15Word_any x.name hs W)
  have CP := Lib.hid (fun W => l00In_any x.params 0 8 W)
  have CL := Lib.hid (fun W => l00In_any x.locals 0 8 W)
  have H := Lib.hid h
  unfold coV
  generalize wordV x.name = a at *
  generalize decide (0 ≤ x.params ∧ x.params ≤ 8) = p at *
  generalize decide (0 ≤ x.locals ∧ x.locals ≤ 8) = q at *
  clear hx hs h
  cases a with
  | false =>
    go_enter Tryz.func78, Tryz.ntmps78
    go_wp2_with (first | (go_at_call 76; (with_reducible refine (CW.out _).mono ?_); rintro e w1 ⟨rfl, rfl⟩))
    go_ret
    exact ⟨rfl, below1 _ _⟩
  | true =>
    cases p with
    | false =>
      go_enter Tryz.func78, Tryz.ntmps78
      go_wp2_with (first | (go_at_call 76; (with_reducible refine (CW.out _).mono ?_); rintro e w1 ⟨rfl, rfl⟩) | (go_at_call 40; first | ((with_reducible refine (CP.out _).mono ?_); rintro e w2 ⟨rfl, rfl⟩) | ((with_reducible refine (CL.out _).mono ?_); rintro e w2 ⟨rfl, rfl⟩)))
      go_ret
      exact ⟨rfl, below1 _ _⟩
    | true =>
      cases q with
      | false =>
        go_enter Tryz.func78, Tryz.ntmps78
        go_wp2_with (first | (go_at_call 76; (with_reducible refine (CW.out _).mono ?_); rintro e w1 ⟨rfl, rfl⟩) | (go_at_call 40; first | ((with_reducible refine (CP.out _).mono ?_); rintro e w2 ⟨rfl, rfl⟩) | ((with_reducible refine (CL.out _).mono ?_); rintro e w2 ⟨rfl, rfl⟩)))
        go_ret
        exact ⟨rfl, below1 _ _⟩
      | true =>
        by_cases h120 : x.code.length ≤ 120
        · have g1 : ¬ 120 < (x.code.length : Int) := by omega
          have g2 : decide (120 < (x.code.length : Int)) = false := decide_eq_false g1
          have g3 : ¬ 120 < x.code.length := by omega
          rw [decide_eq_true h120]
          obtain ⟨G, hG⟩ : ∃ G, x.code.all inV = G := ⟨_, rfl⟩
          have HG := Lib.hid hG
          have hgoal : (true && (true && (true && (true && x.code.all inV)))) = G := by rw [hG]; rfl
          rw [hgoal]
          clear hG hgoal h120
          go_enter Tryz.func78, Tryz.ntmps78
          go_wp2_with (first | (go_at_call 76; (with_reducible refine (CW.out _).mono ?_); rintro e w1 ⟨rfl, rfl⟩) | (go_at_call 40; first | ((with_reducible refine (CP.out _).mono ?_); rintro e w2 ⟨rfl, rfl⟩) | ((with_reducible refine (CL.out _).mono ?_); rintro e w2 ⟨rfl, rfl⟩)))
          clear g1 g2 g3
          go_loopw [3] (fun i wr => ∃ k : Nat, k ≤ x.code.length ∧ i = .int .i64 k ∧ Hid (¬ BadE inV x.code k) ∧ wr.cell? ⟨w.heap.size, 4, none⟩ = some (.slice R x.code.length c) ∧ Hid (Below w.heap.size w wr)) (fun i _ => x.code.length - (intOf i).toNat)
          case atStart => exact ⟨0, Nat.zero_le _, rfl, (fun ⟨i, u, hi, _⟩ => by omega), by go_simp, below1 _ _⟩
          case round =>
            obtain ⟨k, hk, rfl, hno, k4, HB⟩ := hrel
            by_cases hlt : k < x.code.length
            · obtain ⟨b, o, y, rfl, _, hyk, hc⟩ := (Ins.below H.out HB.out).at_ hlt
              have C := Lib.hid (fun W => l15In_any y W)
              obtain ⟨c0_, c1_, _⟩ := hc
              have HY := Lib.hid hyk
              have hli : (k : Int) < (x.code.length : Int) := by omega
              clear hyk
              cases hv : inV y with
              | true =>
                rw [hv] at C
                have HV := Lib.hid hv
                clear hv
                go_wp2_with (go_at_call 110; (with_reducible refine (C.out _).mono ?_); rintro e w2 ⟨rfl, h2⟩; have k5 := keepCell h2 k4; have HB2 := Lib.hid (bnext HB.out h2); clear h2)
                go_roundw
                case rel => exact ⟨k + 1, by omega, by go_num, BadE.no_step hno.out HY.out HV.out, k5, HB2⟩
                case measure => simp [intOf]; omega
              | false =>
                rw [hv] at C
                have HE : Hid (G = false) := Lib.hid (by
                  rw [← HG.out, Bool.eq_false_iff]
                  exact BadE.not_all (k := k + 1) ⟨k, y, by omega, HY.out, hv⟩)
                clear hv
                go_wp2_with (go_at_call 110; (with_reducible refine (C.out _).mono ?_); rintro e w2 ⟨rfl, h2⟩; have k5 := keepCell h2 k4; have HB2 := Lib.hid (bnext HB.out h2); clear h2)
                go_ret
                exact ⟨by rw [HE.out]; rfl, HB2.out⟩
            · obtain rfl : k = x.code.length := by omega
              have HE : Hid (G = true) := Lib.hid (by rw [← HG.out]; exact BadE.all hno.out)
              have hlti : ¬ (x.code.length : Int) < (x.code.length : Int) := by omega
              go_wp2_with fail
              go_ret
              exact ⟨by rw [HE.out]; rfl, HB.out⟩
        · have g1 : 120 < (x.code.length : Int) := by omega
          have g2 : decide (120 < (x.code.length : Int)) = true := decide_eq_true g1
          have g3 : 120 < x.code.length := by omega
          rw [decide_eq_false h120]
          go_enter Tryz.func78, Tryz.ntmps78
          go_wp2_with (first | (go_at_call 76; (with_reducible refine (CW.out _).mono ?_); rintro e w1 ⟨rfl, rfl⟩) | (go_at_call 40; first | ((with_reducible refine (CP.out _).mono ?_); rintro e w2 ⟨rfl, rfl⟩) | ((with_reducible refine (CL.out _).mono ?_); rintro e w2 ⟨rfl, rfl⟩)))
          go_ret
          exact ⟨rfl, below1 _ _⟩
end Go.Proofs.YtbjcldekapipaaaGreatDoor

namespace Go.Proofs.YtbjcldekapipaaaGreatDoor
open Go.ChangeShapes Go.WideShapes Go.ChangeAt Go.RowKit Go.Deep

theorem Ims.take {w : World} {lo : Nat} {xs : List Im} {R : Option Addr} (h : Ims w lo xs R) (k : Nat) : Ims w lo (xs.take k) R := fun hp => by
  have hl : 0 < xs.length := by rw [List.length_take] at hp; omega
  obtain ⟨b, o, e, hlo, hc⟩ := h hl
  refine ⟨b, o, e, hlo, fun i x hx => hc i x ?_⟩
  rw [List.getElem?_take] at hx
  split at hx
  · exact hx
  · cases hx
theorem Cos.take {w : World} {lo : Nat} {xs : List Co} {R : Option Addr} (h : Cos w lo xs R) (k : Nat) : Cos w lo (xs.take k) R := fun hp => by
  have hl : 0 < xs.length := by rw [List.length_take] at hp; omega
  obtain ⟨b, o, e, hlo, hc⟩ := h hl
  refine ⟨b, o, e, hlo, fun i x hx => hc i x ?_⟩
  rw [List.getElem?_take] at hx
  split at hx
  · exact hx
  · cases hx
/-- Not found among the first so many: just where none of them is it. -/
theorem ixGo_neg : ∀ (l : List ByteArray) (s : ByteArray) (j : Nat), ixGo l s j < 0 ↔ NotIn l l.length s
  | [], s, j => ⟨fun _ i t hi => by simp at hi, fun _ => by simp [ixGo]⟩
  | a :: l, s, j => by
    rw [ixGo]
    by_cases h : a = s
    · rw [if_pos h]
      exact ⟨fun e => by omega, fun e => absurd h (e 0 a (by simp) rfl)⟩
    · rw [if_neg h, ixGo_neg l s (j + 1)]
      constructor
      · intro e i t hi ht
        cases i with
        | zero => simp at ht; rw [← ht]; exact h
        | succ i => exact e i t (by simpa using hi) (by simpa using ht)
      · intro e i t hi ht
        exact e (i + 1) t (by simpa using hi) (by simpa using ht)
theorem notIn_take {l : List ByteArray} {k : Nat} {s : ByteArray} (hk : k ≤ l.length) : NotIn (l.take k) (l.take k).length s ↔ NotIn l k s := by
  have hl : (l.take k).length = k := by rw [List.length_take]; omega
  rw [hl]
  constructor
  · intro h i t hi ht
    exact h i t hi (by rw [List.getElem?_take, if_pos hi]; exact ht)
  · intro h i t hi ht
    rw [List.getElem?_take, if_pos hi] at ht
    exact h i t hi ht
theorem importAt_take (xs : List Im) (k : Nat) (hk : k ≤ xs.length) (s : ByteArray) (hl : xs.length ≤ 1048576) (R : Option Addr) (c lo : Nat) (w : World) (h : Ims w lo xs R) :
    Calls Tryz.prog 77 #[.slice R k c, .string s] w fun e w' => e = .returned (.int .i64 (ixGo ((xs.map Im.name).take k) s 0)) ∧ w = w' := by
  have h1 := l15ImportAt_any (xs.take k) s (by rw [List.length_take]; omega) R c lo w (h.take k)
  rw [List.length_take, Nat.min_eq_left hk, List.map_take] at h1
  exact h1
theorem coreAt_take (xs : List Co) (k : Nat) (hk : k ≤ xs.length) (s : ByteArray) (hl : xs.length ≤ 1048576) (R : Option Addr) (c lo : Nat) (w : World) (h : Cos w lo xs R) :
    Calls Tryz.prog 79 #[.slice R k c, .string s] w fun e w' => e = .returned (.int .i64 (ixGo ((xs.map Co.name).take k) s 0)) ∧ w = w' := by
  have h1 := l15CoreAt_any (xs.take k) s (by rw [List.length_take]; omega) R c lo w (h.take k)
  rw [List.length_take, Nat.min_eq_left hk, List.map_take] at h1
  exact h1
theorem belowN15 {W a : World} (h : Below W.heap.size W a) (n : Nat) : Below W.heap.size W (a.drewN n) := ⟨h.os, h.tape, h.output, h.size, h.block⟩
theorem below_drewN_alloc {W a : World} (h : Below W.heap.size W a) (n : Nat) (o : Obj) : Below W.heap.size W ((a.alloc o).drewN n) := belowN15 (h.alloc h.size _) n
/-- What the first loop has seen. -/
def ImTo (x : Mo) (k : Nat) : Prop := ¬ BadE imV x.imports k ∧ DistTo (imN x) k
def CoTo (x : Mo) (k : Nat) : Prop := ¬ BadE coV x.cores k ∧ DistTo (coN x) k
theorem ImTo.step {x : Mo} {k : Nat} {y : Im} (h : ImTo x k) (hy : x.imports[k]? = some y) (hv : imV y = true) (hn : ixGo ((imN x).take k) y.name 0 < 0) : ImTo x (k + 1) := by
  have hk : k < (imN x).length := by unfold imN; rw [List.length_map]; exact (List.getElem?_eq_some_iff.1 hy).1
  exact ⟨BadE.no_step h.1 hy hv, h.2.step (by unfold imN; rw [List.getElem?_map, hy]; rfl) ((notIn_take (by omega)).mp ((ixGo_neg _ _ _).mp hn))⟩
theorem CoTo.step {x : Mo} {k : Nat} {y : Co} (h : CoTo x k) (hy : x.cores[k]? = some y) (hv : coV y = true) (hn : ixGo ((coN x).take k) y.name 0 < 0) : CoTo x (k + 1) := by
  have hk : k < (coN x).length := by unfold coN; rw [List.length_map]; exact (List.getElem?_eq_some_iff.1 hy).1
  exact ⟨BadE.no_step h.1 hy hv, h.2.step (by unfold coN; rw [List.getElem?_map, hy]; rfl) ((notIn_take (by omega)).mp ((ixGo_neg _ _ _).mp hn))⟩
theorem shape_not_im {x : Mo} {k : Nat} {y : Im} (hy : x.imports[k]? = some y) (h : imV y = false ∨ ¬ ixGo ((imN x).take k) y.name 0 < 0) : ¬ ShapeP x := fun hs => by
  have hk : k < (imN x).length := by unfold imN; rw [List.length_map]; exact (List.getElem?_eq_some_iff.1 hy).1
  rcases h with h | h
  · have := List.all_eq_true.mp hs.2.2.2.1 y (List.mem_of_getElem? hy)
    rw [h] at this
    cases this
  · exact h ((ixGo_neg _ _ _).mpr ((notIn_take (by omega)).mpr (hs.2.2.2.2.2.1 k y.name hk (by unfold imN; rw [List.getElem?_map, hy]; rfl))))
theorem shape_not_co {x : Mo} {k : Nat} {y : Co} (hy : x.cores[k]? = some y) (h : coV y = false ∨ ¬ ixGo ((coN x).take k) y.name 0 < 0) : ¬ ShapeP x := fun hs => by
  have hk : k < (coN x).length := by unfold coN; rw [List.length_map]; exact (List.getElem?_eq_some_iff.1 hy).1
  rcases h with h | h
  · have := List.all_eq_true.mp hs.2.2.2.2.1 y (List.mem_of_getElem? hy)
    rw [h] at this
    cases this
  · exact h ((ixGo_neg _ _ _).mpr ((notIn_take (by omega)).mpr (hs.2.2.2.2.2.2 k y.name hk (by unfold coN; rw [List.getElem?_map, hy]; rfl))))
end Go.Proofs.YtbjcldekapipaaaGreatDoor

namespace Go.Proofs.YtbjcldekapipaaaGreatDoor
open Go.ChangeShapes Go.WideShapes Go.ChangeAt Go.RowKit Go.Deep

set_option maxHeartbeats 8000000 in
set_option maxRecDepth 100000 in
theorem specShape_any (x : Mo) (hx : x.wt ≤ 1048576) (Rimports : Option Addr) (cimports : Nat) (Rcores : Option Addr) (ccores : Nat) (hcap : x.imports.length ≤ cimports ∧ x.cores.length ≤ ccores) (_hcm : True) (lo : Nat) (w : World) (h : Mo.At w lo x Rimports Rcores) :
    Calls Tryz.prog 34 #[.agg #[.int .i64 x.pages, .slice Rimports x.imports.length cimports, .slice Rcores x.cores.length ccores]] w (SaysM (ShapeP x) w) := by
  obtain ⟨q_imports, q_cores, _⟩ := Mo.parts_le hx
  have hm1 : x.imports.length ≤ 1048576 := by have := Im.wts_nonneg x.imports; omega
  have hm2 : x.cores.length ≤ 1048576 := by have := Co.wts_nonneg x.cores; omega
  have CP := Lib.hid (fun W => l00In_any x.pages 1 16 W)
  have H := Lib.hid h
  have HWI := Lib.hid (im_wt hx)
  have HWC := Lib.hid (co_wt hx)
  have HSI := Lib.hid (fun (k : Nat) (y : Im) hy hn => shape_not_im (x := x) (k := k) (y := y) hy hn)
  have HSC := Lib.hid (fun (k : Nat) (y : Co) hy hn => shape_not_co (x := x) (k := k) (y := y) hy hn)
  have HT : Hid (ShapeP x ↔ ((1 ≤ x.pages ∧ x.pages ≤ 16) ∧ x.imports.length ≤ 12 ∧ x.cores.length ≤ 8 ∧ ImTo x x.imports.length ∧ CoTo x x.cores.length)) := Lib.hid (by
    have n1 : (imN x).length = x.imports.length := by unfold imN; rw [List.length_map]
    have n2 : (coN x).length = x.cores.length := by unfold coN; rw [List.length_map]
    unfold ShapeP ImTo CoTo
    rw [n1, n2]
    constructor
    · rintro ⟨a, b, c, d, e, f, g⟩
      exact ⟨a, b, c, ⟨fun hb => BadE.not_all hb d, f⟩, ⟨fun hb => BadE.not_all hb e, g⟩⟩
    · rintro ⟨a, b, c, ⟨d, f⟩, ⟨e, g⟩⟩
      exact ⟨a, b, c, BadE.all d, BadE.all e, f, g⟩)
  obtain ⟨hcap1, hcap2⟩ := hcap
  generalize hT : ShapeP x = T at *
  clear h hx hT q_imports q_cores
  by_cases hp : 1 ≤ x.pages ∧ x.pages ≤ 16
  · rw [decide_eq_true hp] at CP
    have HP := Lib.hid hp
    clear hp
    by_cases h12 : x.imports.length ≤ 12
    · have g12 : ¬ 12 < (x.imports.length : Int) := by omega
      have d12 : decide (12 < (x.imports.length : Int)) = false := decide_eq_false g12
      have e12 : ¬ 12 < x.imports.length := by omega
      by_cases h8 : x.cores.length ≤ 8
      · have g8 : ¬ 8 < (x.cores.length : Int) := by omega
        have d8 : decide (8 < (x.cores.length : Int)) = false := decide_eq_false g8
        have e8 : ¬ 8 < x.cores.length := by omega
        go_enter Tryz.func34, Tryz.ntmps34
        go_wp2_with (first | (go_at_call 40; (with_reducible refine (CP.out _).mono ?_); rintro e w2 ⟨rfl, rfl⟩))
        clear g12 d12 e12 g8 d8 e8
        go_loopw [3] (fun i wr => ∃ k : Nat, k ≤ x.imports.length ∧ i = .int .i64 k ∧ Hid (ImTo x k) ∧ wr.cell? ⟨w.heap.size, 0, none⟩ = some (.int .i64 x.pages) ∧ wr.cell? ⟨w.heap.size, 1, none⟩ = some (.slice Rimports x.imports.length cimports) ∧ wr.cell? ⟨w.heap.size, 2, none⟩ = some (.slice Rcores x.cores.length ccores) ∧ Hid (Below w.heap.size w wr)) (fun i _ => x.imports.length - (intOf i).toNat)
        case atStart => exact ⟨0, Nat.zero_le _, rfl, ⟨(fun ⟨i, u, hi, _⟩ => by omega), (fun i s hi => by omega)⟩, by go_simp, by go_simp, by go_simp, below1 _ _⟩
        case round =>
          obtain ⟨k, hk, rfl, hno, ka, kb, kc, HB⟩ := hrel
          by_cases hlt : k < x.imports.length
          · obtain ⟨b, o, y, rfl, _, hyk, hc⟩ := (Ims.below H.out.1 HB.out).at_ hlt
            obtain ⟨c0, c1_, c2, _⟩ := hc
            have hz9 : b < wr.heap.size := World.block_lt_of_cell? wr _ c0
            have hz8 : w.heap.size < wr.heap.size := World.block_lt_of_cell? wr _ ka
            have hsz : y.name.size ≤ 1048576 := by have := HWI.out k y hyk; unfold Im.wt at this; omega
            have CW := Lib.hid (fun W => l15Word_any y.name hsz W)
            have CQ := Lib.hid (fun W => l00In_any y.params 0 8 W)
            have CA := Lib.hid (fun n => importAt_take x.imports k (by omega) y.name (by omega) _ cimports lo ((wr.alloc (.cells #[.string y.name, .int .i64 y.params, .bool y.result] 52)).drewN n) (Ims.below H.out.1 (below_drewN_alloc HB.out n _)))
            have hva : imV y = (wordV y.name && decide (0 ≤ y.params ∧ y.params ≤ 8)) := rfl
            have hnm : x.imports.map Im.name = imN x := rfl
            rw [hnm] at CA
            have HSTEP := Lib.hid (fun hv hn => hno.out.step (y := y) hyk hv hn)
            have HNOT := Lib.hid (HSI.out k y hyk)
            rw [hva] at HSTEP HNOT
            have hli : (k : Int) < (x.imports.length : Int) := by omega
            have hkc : k ≤ cimports := by omega
            have hkci : (k : Int) ≤ (cimports : Int) := by omega
            have hk0i : (0 : Int) ≤ (k : Int) := by omega
            clear hyk hva hnm hno hsz
            generalize wordV y.name = a at *
            generalize decide (0 ≤ y.params ∧ y.params ≤ 8) = p at *
            generalize ixGo ((imN x).take k) y.name 0 = V at *
            cases a with
            | false =>
              have HF := Lib.hid (HNOT.out (Or.inl rfl))
              go_wp2_with fail
              go_quiet (first | (go_at_call 76; refine Calls.quiet_of_same ((CW.out _).mono fun _ _ h => ⟨h.1, h.2.symm⟩)))
              go_wp2_with fail
              go_ret
              exact ⟨false, rfl, iffM_F HF.out, belowN15 (HB.out.alloc HB.out.size _) _⟩
            | true =>
              cases p with
              | false =>
                have HF := Lib.hid (HNOT.out (Or.inl rfl))
                go_wp2_with fail
                go_quiet (first | (go_at_call 76; refine Calls.quiet_of_same ((CW.out _).mono fun _ _ h => ⟨h.1, h.2.symm⟩)) | (go_at_call 40; refine Calls.quiet_of_same ((CQ.out _).mono fun _ _ h => ⟨h.1, h.2.symm⟩)))
                go_wp2_with fail
                go_ret
                exact ⟨false, rfl, iffM_F HF.out, belowN15 (HB.out.alloc HB.out.size _) _⟩
              | true =>
                by_cases hV : V < 0
                · have HS := Lib.hid (HSTEP.out rfl hV)
                  have dV : decide (0 ≤ V) = false := decide_eq_false (by omega)
                  have gV : ¬ 0 ≤ V := by omega
                  go_wp2_with fail
                  go_quiet (first | (go_at_call 76; refine Calls.quiet_of_same ((CW.out _).mono fun _ _ h => ⟨h.1, h.2.symm⟩)) | (go_at_call 40; refine Calls.quiet_of_same ((CQ.out _).mono fun _ _ h => ⟨h.1, h.2.symm⟩)) | (go_at_call 77; refine Calls.quiet_of_same ((CA.out _).mono fun _ _ h => ⟨h.1, h.2.symm⟩)))
                  go_wp2_with fail
                  go_roundw
                  case rel => exact ⟨k + 1, by omega, by go_num, HS.out, keepCell (belowN15 (below1 _ _) _) ka, keepCell (belowN15 (below1 _ _) _) kb, keepCell (belowN15 (below1 _ _) _) kc, belowN15 (HB.out.alloc HB.out.size _) _⟩
                  case measure => simp [intOf]; omega
                · have HF := Lib.hid (HNOT.out (Or.inr (by omega)))
                  have dV : decide (0 ≤ V) = true := decide_eq_true (by omega)
                  have gV : 0 ≤ V := by omega
                  go_wp2_with fail
                  go_quiet (first | (go_at_call 76; refine Calls.quiet_of_same ((CW.out _).mono fun _ _ h => ⟨h.1, h.2.symm⟩)) | (go_at_call 40; refine Calls.quiet_of_same ((CQ.out _).mono fun _ _ h => ⟨h.1, h.2.symm⟩)) | (go_at_call 77; refine Calls.quiet_of_same ((CA.out _).mono fun _ _ h => ⟨h.1, h.2.symm⟩)))
                  go_wp2_with fail
                  go_ret
                  exact ⟨false, rfl, iffM_F HF.out, belowN15 (HB.out.alloc HB.out.size _) _⟩
          · obtain rfl : k = x.imports.length := by omega
            have HI := Lib.hid hno.out
            have hlti : ¬ (x.imports.length : Int) < (x.imports.length : Int) := by omega
            have hbel := HB.out
            clear hno
            go_wp2_with fail
            go_loopw [5] (fun i wr => ∃ k : Nat, k ≤ x.cores.length ∧ i = .int .i64 k ∧ Hid (CoTo x k) ∧ wr.cell? ⟨w.heap.size, 0, none⟩ = some (.int .i64 x.pages) ∧ wr.cell? ⟨w.heap.size, 1, none⟩ = some (.slice Rimports x.imports.length cimports) ∧ wr.cell? ⟨w.heap.size, 2, none⟩ = some (.slice Rcores x.cores.length ccores) ∧ Hid (Below w.heap.size w wr)) (fun i _ => x.cores.length - (intOf i).toNat)
            case atStart => exact ⟨0, Nat.zero_le _, rfl, ⟨(fun ⟨i, u, hi, _⟩ => by omega), (fun i s hi => by omega)⟩, ka, kb, kc, hbel⟩
            case round =>
              clear ka kb kc hbel HB hlti hlt hk
              obtain ⟨k, hk, rfl, hno, ka, kb, kc, HB⟩ := hrel
              by_cases hlt : k < x.cores.length
              · obtain ⟨b, o, y, R1, c1, rfl, _, hyk, hc⟩ := (Cos.below H.out.2 HB.out).at_ hlt
                have HA := Lib.hid hc.at_
                obtain ⟨c0, c1_, c2, c3, c4, _⟩ := hc
                have C := Lib.hid (fun W ha => l15Core_any y (HWC.out k y hyk) R1 c1 lo W ha)
                have CA := Lib.hid (fun W (hb : Below wr.heap.size wr W) => coreAt_take x.cores k (by omega) y.name (by omega) _ ccores lo W (Cos.below H.out.2 (bnext HB.out hb)))
                have hnm : x.cores.map Co.name = coN x := rfl
                rw [hnm] at CA
                have HSTEP := Lib.hid (fun hv hn => hno.out.step (y := y) hyk hv hn)
                have HNOT := Lib.hid (HSC.out k y hyk)
                have hli : (k : Int) < (x.cores.length : Int) := by omega
                have hkc : k ≤ ccores := by omega
                have hkci : (k : Int) ≤ (ccores : Int) := by omega
                have hk0i : (0 : Int) ≤ (k : Int) := by omega
                clear hyk hnm hno
                generalize coV y = v at *
                generalize ixGo ((coN x).take k) y.name 0 = V at *
                cases v with
                | false =>
                  have HF := Lib.hid (HNOT.out (Or.inl rfl))
                  clear HNOT HSTEP CA
                  go_wp2_with fail
                  refine wp_region_held_drew (S := (fun w' => w'.cell? ⟨w.heap.size, 2, none⟩ = some (.slice (some ⟨b, o, none⟩) x.cores.length ccores) ∧ w'.cell? ⟨b, o + k * 5, none⟩ = some (.string y.name) ∧ w'.cell? ⟨b, o + k * 5 + 1, none⟩ = some (.int .i64 y.params) ∧ w'.cell? ⟨b, o + k * 5 + 2, none⟩ = some (.int .i64 y.locals) ∧ w'.cell? ⟨b, o + k * 5 + 3, none⟩ = some (.bool y.result) ∧ w'.cell? ⟨b, o + k * 5 + 4, none⟩ = some (.slice R1 y.code.length c1) ∧ Below wr.heap.size wr w')) (by kernel_rfl) ?_ (fun hHeld => ?_)
                  · exact ⟨kc, c0, c1_, c2, c3, c4, (Below.refl _ _).drew⟩
                  refine wpAnyH_take (i := 0) (oi := { dst := some 61, op := Go.Op.fieldAddr 31 (Go.Operand.tmp 1) 2, type := 0, pos := "l15_code.go:181", after := #[], guard := none }) (v := ?_) rfl (by kernel_rfl) (by kernel_rfl) (by kernel_rfl) (fun _ _ _ h => h) (Or.inl ⟨by rfl, ?hy0⟩) (by assumption) ?rest0
                  case hy0 => (intro w hSw; (try dsimp only at hSw); go_simp; try with_reducible rfl)
                  case' rest0 => (simp only [Act.put, List.setIfInBounds_toArray, List.set_cons_zero, List.set_cons_succ])
                  refine wpAnyH_take (i := 1) (oi := { dst := some 62, op := Go.Op.load 29 (Go.Operand.tmp 61), type := 29, pos := "l15_code.go:181", after := #[{ on := 0, ground := Go.Ground.data }], guard := none }) (v := ?_) rfl (by kernel_rfl) (by kernel_rfl) (by kernel_rfl) (fun _ _ _ h => h) (Or.inl ⟨by rfl, ?hy1⟩) (by assumption) ?rest1
                  case hy1 => (intro w hSw; (try dsimp only at hSw); go_simp; try with_reducible rfl)
                  case' rest1 => (simp only [Act.put, List.setIfInBounds_toArray, List.set_cons_zero, List.set_cons_succ])
                  refine wpAnyH_take (i := 2) (oi := { dst := some 63, op := Go.Op.move (Go.Operand.tmp 5), type := 3, pos := "l15_code.go:181", after := #[], guard := none }) (v := ?_) rfl (by kernel_rfl) (by kernel_rfl) (by kernel_rfl) (fun _ _ _ h => h) (Or.inl ⟨by rfl, ?hy2⟩) (by assumption) ?rest2
                  case hy2 => (intro w hSw; (try dsimp only at hSw); go_simp; try with_reducible rfl)
                  case' rest2 => (simp only [Act.put, List.setIfInBounds_toArray, List.set_cons_zero, List.set_cons_succ])
                  refine wpAnyH_take (i := 3) (oi := { dst := some 64, op := Go.Op.indexAddr 29 (Go.Operand.tmp 62) (Go.Operand.tmp 63), type := 0, pos := "l15_code.go:181", after := #[{ on := 1, ground := Go.Ground.data }, { on := 2, ground := Go.Ground.data }], guard := none }) (v := ?_) rfl (by kernel_rfl) (by kernel_rfl) (by kernel_rfl) (fun _ _ _ h => h) (Or.inl ⟨by rfl, ?hy3⟩) (by assumption) ?rest3
                  case hy3 => (intro w hSw; (try dsimp only at hSw); go_simp; try with_reducible rfl)
                  case' rest3 => (simp only [Act.put, List.setIfInBounds_toArray, List.set_cons_zero, List.set_cons_succ])
                  refine wpAnyH_take (i := 4) (oi := { dst := some 65, op := Go.Op.load 56 (Go.Operand.tmp 64), type := 56, pos := "l15_code.go:181", after := #[{ on := 3, ground := Go.Ground.data }], guard := none }) (v := ?_) rfl (by kernel_rfl) (by kernel_rfl) (by kernel_rfl) (fun _ _ _ h => h) (Or.inl ⟨by rfl, ?hy4⟩) (by assumption) ?rest4
                  case hy4 => (intro w hSw; (try dsimp only at hSw); go_simp; try with_reducible rfl)
                  case' rest4 => (simp only [Act.put, List.setIfInBounds_toArray, List.set_cons_zero, List.set_cons_succ])
                  refine wpAnyH_ready (rs := [5]) (by kernel_rfl) (by simp) ?_
                  refine AllReadyH.cons (o := { dst := some 66, op := Go.Op.call { callee := Go.Callee.value (Go.Operand.func 78), args := #[Go.Operand.tmp 65], argTypes := #[56] }, type := 4, pos := "l15_code.go:181", after := #[{ on := 4, ground := Go.Ground.data }], guard := none }) rfl (fun K hK => ?_) AllReadyH.nil
                  go_simp
                  (go_at_call 78; refine (C.out _ (Co.At.below HA.out (Below.refl _ _).drew)).mono ?_; rintro e wx ⟨rfl, hbx⟩; have hbw : Below wr.heap.size wr wx := (Below.refl wr.heap.size wr).drew.trans hbx; have ua := keepCell hbw ka; have ub := keepCell hbw kb; have uc := keepCell hbw kc; have u0 := keepCell hbw c0; have u1 := keepCell hbw c1_; have u2 := keepCell hbw c2; have u3 := keepCell hbw c3; have u4 := keepCell hbw c4)
                  refine hK.out _ _ ?_ (fun hHeld => ?_)
                  · exact ⟨uc, u0, u1, u2, u3, u4, hbw⟩
                  clear hK K
                  refine wpAnyH_take (i := 6) (oi := { dst := some 67, op := Go.Op.unOp Go.UnOp.not 4 (Go.Operand.tmp 66), type := 4, pos := "l15_code.go:181", after := #[{ on := 5, ground := Go.Ground.data }], guard := none }) (v := ?_) rfl (by kernel_rfl) (by kernel_rfl) (by kernel_rfl) (fun _ _ _ h => h) (Or.inl ⟨by rfl, ?hy6⟩) (by assumption) ?rest6
                  case hy6 => (intro w hSw; (try dsimp only at hSw); go_simp; try with_reducible rfl)
                  case' rest6 => (simp only [Act.put, List.setIfInBounds_toArray, List.set_cons_zero, List.set_cons_succ])
                  refine wpAnyH_take (i := 7) (oi := { dst := some 68, op := Go.Op.move (Go.Operand.tmp 67), type := 4, pos := "l15_code.go:181", after := #[{ on := 6, ground := Go.Ground.data }, { on := 5, ground := Go.Ground.chain }], guard := none }) (v := ?_) rfl (by kernel_rfl) (by kernel_rfl) (by kernel_rfl) (fun _ _ _ h => h) (Or.inl ⟨by rfl, ?hy7⟩) (by assumption) ?rest7
                  case hy7 => (intro w hSw; (try dsimp only at hSw); go_simp; try with_reducible rfl)
                  case' rest7 => (simp only [Act.put, List.setIfInBounds_toArray, List.set_cons_zero, List.set_cons_succ])
                  refine wpAnyH_take (i := 8) (oi := { dst := some 69, op := Go.Op.fieldAddr 31 (Go.Operand.tmp 1) 2, type := 0, pos := "l15_code.go:181", after := #[{ on := 7, ground := Go.Ground.guard }], guard := some (7, false) }) (v := undef) rfl (by kernel_rfl) (by kernel_rfl) (by kernel_rfl) (fun _ _ _ h => h) (Or.inr ⟨by rfl, rfl⟩) (by assumption) ?_
                  (simp only [Act.put, List.setIfInBounds_toArray, List.set_cons_zero, List.set_cons_succ])
                  refine wpAnyH_take (i := 9) (oi := { dst := some 70, op := Go.Op.load 29 (Go.Operand.tmp 69), type := 29, pos := "l15_code.go:181", after := #[{ on := 8, ground := Go.Ground.data }, { on := 7, ground := Go.Ground.guard }], guard := some (7, false) }) (v := undef) rfl (by kernel_rfl) (by kernel_rfl) (by kernel_rfl) (fun _ _ _ h => h) (Or.inr ⟨by rfl, rfl⟩) (by assumption) ?_
                  (simp only [Act.put, List.setIfInBounds_toArray, List.set_cons_zero, List.set_cons_succ])
                  refine wpAnyH_take (i := 10) (oi := { dst := some 71, op := Go.Op.move (Go.Operand.tmp 5), type := 3, pos := "l15_code.go:181", after := #[{ on := 7, ground := Go.Ground.guard }], guard := some (7, false) }) (v := undef) rfl (by kernel_rfl) (by kernel_rfl) (by kernel_rfl) (fun _ _ _ h => h) (Or.inr ⟨by rfl, rfl⟩) (by assumption) ?_
                  (simp only [Act.put, List.setIfInBounds_toArray, List.set_cons_zero, List.set_cons_succ])
                  refine wpAnyH_take (i := 11) (oi := { dst := some 72, op := Go.Op.slice 29 (Go.Operand.tmp 70) none (some (Go.Operand.tmp 71)) none, type := 29, pos := "l15_code.go:181", after := #[{ on := 9, ground := Go.Ground.data }, { on := 10, ground := Go.Ground.data }, { on := 7, ground := Go.Ground.guard }], guard := some (7, false) }) (v := undef) rfl (by kernel_rfl) (by kernel_rfl) (by kernel_rfl) (fun _ _ _ h => h) (Or.inr ⟨by rfl, rfl⟩) (by assumption) ?_
                  (simp only [Act.put, List.setIfInBounds_toArray, List.set_cons_zero, List.set_cons_succ])
                  refine wpAnyH_take (i := 12) (oi := { dst := some 73, op := Go.Op.fieldAddr 31 (Go.Operand.tmp 1) 2, type := 0, pos := "l15_code.go:181", after := #[{ on := 7, ground := Go.Ground.guard }], guard := some (7, false) }) (v := undef) rfl (by kernel_rfl) (by kernel_rfl) (by kernel_rfl) (fun _ _ _ h => h) (Or.inr ⟨by rfl, rfl⟩) (by assumption) ?_
                  (simp only [Act.put, List.setIfInBounds_toArray, List.set_cons_zero, List.set_cons_succ])
                  refine wpAnyH_take (i := 13) (oi := { dst := some 74, op := Go.Op.load 29 (Go.Operand.tmp 73), type := 29, pos := "l15_code.go:181", after := #[{ on := 12, ground := Go.Ground.data }, { on := 7, ground := Go.Ground.guard }], guard := some (7, false) }) (v := undef) rfl (by kernel_rfl) (by kernel_rfl) (by kernel_rfl) (fun _ _ _ h => h) (Or.inr ⟨by rfl, rfl⟩) (by assumption) ?_
                  (simp only [Act.put, List.setIfInBounds_toArray, List.set_cons_zero, List.set_cons_succ])
                  refine wpAnyH_take (i := 14) (oi := { dst := some 75, op := Go.Op.move (Go.Operand.tmp 5), type := 3, pos := "l15_code.go:181", after := #[{ on := 7, ground := Go.Ground.guard }], guard := some (7, false) }) (v := undef) rfl (by kernel_rfl) (by kernel_rfl) (by kernel_rfl) (fun _ _ _ h => h) (Or.inr ⟨by rfl, rfl⟩) (by assumption) ?_
                  (simp only [Act.put, List.setIfInBounds_toArray, List.set_cons_zero, List.set_cons_succ])
                  refine wpAnyH_take (i := 15) (oi := { dst := some 76, op := Go.Op.indexAddr 29 (Go.Operand.tmp 74) (Go.Operand.tmp 75), type := 0, pos := "l15_code.go:181", after := #[{ on := 13, ground := Go.Ground.data }, { on := 14, ground := Go.Ground.data }, { on := 7, ground := Go.Ground.guard }], guard := some (7, false) }) (v := undef) rfl (by kernel_rfl) (by kernel_rfl) (by kernel_rfl) (fun _ _ _ h => h) (Or.inr ⟨by rfl, rfl⟩) (by assumption) ?_
                  (simp only [Act.put, List.setIfInBounds_toArray, List.set_cons_zero, List.set_cons_succ])
                  refine wpAnyH_take (i := 16) (oi := { dst := some 77, op := Go.Op.fieldAddr 56 (Go.Operand.tmp 76) 0, type := 0, pos := "l15_code.go:181", after := #[{ on := 15, ground := Go.Ground.data }, { on := 7, ground := Go.Ground.guard }], guard := some (7, false) }) (v := undef) rfl (by kernel_rfl) (by kernel_rfl) (by kernel_rfl) (fun _ _ _ h => h) (Or.inr ⟨by rfl, rfl⟩) (by assumption) ?_
                  (simp only [Act.put, List.setIfInBounds_toArray, List.set_cons_zero, List.set_cons_succ])
                  refine wpAnyH_take (i := 17) (oi := { dst := some 78, op := Go.Op.load 9 (Go.Operand.tmp 77), type := 9, pos := "l15_code.go:181", after := #[{ on := 16, ground := Go.Ground.data }, { on := 7, ground := Go.Ground.guard }], guard := some (7, false) }) (v := undef) rfl (by kernel_rfl) (by kernel_rfl) (by kernel_rfl) (fun _ _ _ h => h) (Or.inr ⟨by rfl, rfl⟩) (by assumption) ?_
                  (simp only [Act.put, List.setIfInBounds_toArray, List.set_cons_zero, List.set_cons_succ])
                  refine wpAnyH_take (i := 18) (oi := { dst := some 79, op := Go.Op.call { callee := Go.Callee.value (Go.Operand.func 79), args := #[Go.Operand.tmp 72, Go.Operand.tmp 78], argTypes := #[29, 9] }, type := 2, pos := "l15_code.go:181", after := #[{ on := 11, ground := Go.Ground.data }, { on := 17, ground := Go.Ground.data }, { on := 7, ground := Go.Ground.chain }, { on := 7, ground := Go.Ground.guard }], guard := some (7, false) }) (v := undef) rfl (by kernel_rfl) (by kernel_rfl) (by kernel_rfl) (fun _ _ _ h => h) (Or.inr ⟨by rfl, rfl⟩) (by assumption) ?_
                  (simp only [Act.put, List.setIfInBounds_toArray, List.set_cons_zero, List.set_cons_succ])
                  refine wpAnyH_take (i := 19) (oi := { dst := some 80, op := Go.Op.binOp Go.BinOp.geq 2 (Go.Operand.tmp 79) (Go.Operand.const (Go.Value.int Go.IntKind.i64 0)) 2, type := 4, pos := "l15_code.go:181", after := #[{ on := 18, ground := Go.Ground.data }, { on := 7, ground := Go.Ground.guard }], guard := some (7, false) }) (v := undef) rfl (by kernel_rfl) (by kernel_rfl) (by kernel_rfl) (fun _ _ _ h => h) (Or.inr ⟨by rfl, rfl⟩) (by assumption) ?_
                  (simp only [Act.put, List.setIfInBounds_toArray, List.set_cons_zero, List.set_cons_succ])
                  refine wpAnyH_take (i := 20) (oi := { dst := some 81, op := Go.Op.pick (Go.Operand.tmp 68) (Go.Operand.const (Go.Value.bool true)) (Go.Operand.tmp 80), type := 4, pos := "l15_code.go:181", after := #[{ on := 7, ground := Go.Ground.data }, { on := 19, ground := Go.Ground.data }], guard := none }) (v := ?_) rfl (by kernel_rfl) (by kernel_rfl) (by kernel_rfl) (fun _ _ _ h => h) (Or.inl ⟨by rfl, ?hy20⟩) (by assumption) ?rest20
                  case hy20 => (intro w hSw; (try dsimp only at hSw); go_simp; try with_reducible rfl)
                  case' rest20 => (simp only [Act.put, List.setIfInBounds_toArray, List.set_cons_zero, List.set_cons_succ])
                  refine wpAnyH_done (by kernel_rfl) ?_ _
                  go_wp2_with fail
                  go_ret
                  exact ⟨false, rfl, iffM_F HF.out, bnext HB.out hbw⟩
                | true =>
                  by_cases hV : V < 0
                  · have HS := Lib.hid (HSTEP.out rfl hV)
                    have dV : decide (0 ≤ V) = false := decide_eq_false (by omega)
                    have gV : ¬ 0 ≤ V := by omega
                    go_wp2_with fail
                    go_region_held3 (fun w' => w'.cell? ⟨w.heap.size, 2, none⟩ = some (.slice (some ⟨b, o, none⟩) x.cores.length ccores) ∧ w'.cell? ⟨b, o + k * 5, none⟩ = some (.string y.name) ∧ w'.cell? ⟨b, o + k * 5 + 1, none⟩ = some (.int .i64 y.params) ∧ w'.cell? ⟨b, o + k * 5 + 2, none⟩ = some (.int .i64 y.locals) ∧ w'.cell? ⟨b, o + k * 5 + 3, none⟩ = some (.bool y.result) ∧ w'.cell? ⟨b, o + k * 5 + 4, none⟩ = some (.slice R1 y.code.length c1) ∧ Below wr.heap.size wr w')
                      (first | assumption | (exact ⟨kc, c0, c1_, c2, c3, c4, Below.refl _ _⟩) | (exact ⟨kc, c0, c1_, c2, c3, c4, (Below.refl _ _).drew⟩) | (exact ⟨uc, u0, u1, u2, u3, u4, hbw⟩))
                      (first | (go_at_call 78; refine (C.out _ (Co.At.below HA.out (Below.refl _ _).drew)).mono ?_; rintro e wx ⟨rfl, hbx⟩; have hbw : Below wr.heap.size wr wx := (Below.refl wr.heap.size wr).drew.trans hbx; have ua := keepCell hbw ka; have ub := keepCell hbw kb; have uc := keepCell hbw kc; have u0 := keepCell hbw c0; have u1 := keepCell hbw c1_; have u2 := keepCell hbw c2; have u3 := keepCell hbw c3; have u4 := keepCell hbw c4) | (go_at_call 79; refine (CA.out _ hbw).mono ?_; rintro e wz ⟨rfl, rfl⟩))
                    all_goals
                      go_wp2_with fail
                      go_roundw
                      case rel => exact ⟨k + 1, by omega, by go_num, HS.out, ua, ub, uc, bnext HB.out hbw⟩
                      case measure => simp [intOf]; omega
                  · have HF := Lib.hid (HNOT.out (Or.inr (by omega)))
                    have dV : decide (0 ≤ V) = true := decide_eq_true (by omega)
                    have gV : 0 ≤ V := by omega
                    go_wp2_with fail
                    go_region_held3 (fun w' => w'.cell? ⟨w.heap.size, 2, none⟩ = some (.slice (some ⟨b, o, none⟩) x.cores.length ccores) ∧ w'.cell? ⟨b, o + k * 5, none⟩ = some (.string y.name) ∧ w'.cell? ⟨b, o + k * 5 + 1, none⟩ = some (.int .i64 y.params) ∧ w'.cell? ⟨b, o + k * 5 + 2, none⟩ = some (.int .i64 y.locals) ∧ w'.cell? ⟨b, o + k * 5 + 3, none⟩ = some (.bool y.result) ∧ w'.cell? ⟨b, o + k * 5 + 4, none⟩ = some (.slice R1 y.code.length c1) ∧ Below wr.heap.size wr w')
                      (first | assumption | (exact ⟨kc, c0, c1_, c2, c3, c4, Below.refl _ _⟩) | (exact ⟨kc, c0, c1_, c2, c3, c4, (Below.refl _ _).drew⟩) | (exact ⟨uc, u0, u1, u2, u3, u4, hbw⟩))
                      (first | (go_at_call 78; refine (C.out _ (Co.At.below HA.out (Below.refl _ _).drew)).mono ?_; rintro e wx ⟨rfl, hbx⟩; have hbw : Below wr.heap.size wr wx := (Below.refl wr.heap.size wr).drew.trans hbx; have ua := keepCell hbw ka; have ub := keepCell hbw kb; have uc := keepCell hbw kc; have u0 := keepCell hbw c0; have u1 := keepCell hbw c1_; have u2 := keepCell hbw c2; have u3 := keepCell hbw c3; have u4 := keepCell hbw c4) | (go_at_call 79; refine (CA.out _ hbw).mono ?_; rintro e wz ⟨rfl, rfl⟩))
                    all_goals
                      go_wp2_with fail
                      go_ret
                      exact ⟨false, rfl, iffM_F HF.out, bnext HB.out hbw⟩
              · obtain rfl : k = x.cores.length := by omega
                have HE : Hid T := Lib.hid (HT.out.mpr ⟨HP.out, h12, h8, HI.out, hno.out⟩)
                have hlti : ¬ (x.cores.length : Int) < (x.cores.length : Int) := by omega
                clear hno
                go_wp2_with fail
                go_ret
                exact ⟨true, rfl, iffM_T HE.out, HB.out⟩
      · have g8 : 8 < (x.cores.length : Int) := by omega
        have d8 : decide (8 < (x.cores.length : Int)) = true := decide_eq_true g8
        have e8 : 8 < x.cores.length := by omega
        have HF : Hid (¬ T) := Lib.hid (fun h0 => h8 (HT.out.mp h0).2.2.1)
        go_enter Tryz.func34, Tryz.ntmps34
        go_wp2_with (first | (go_at_call 40; (with_reducible refine (CP.out _).mono ?_); rintro e w2 ⟨rfl, rfl⟩))
        go_ret
        exact ⟨false, rfl, iffM_F HF.out, below1 _ _⟩
    · have g12 : 12 < (x.imports.length : Int) := by omega
      have d12 : decide (12 < (x.imports.length : Int)) = true := decide_eq_true g12
      have e12 : 12 < x.imports.length := by omega
      have HF : Hid (¬ T) := Lib.hid (fun h0 => h12 (HT.out.mp h0).2.1)
      go_enter Tryz.func34, Tryz.ntmps34
      go_wp2_with (first | (go_at_call 40; (with_reducible refine (CP.out _).mono ?_); rintro e w2 ⟨rfl, rfl⟩))
      go_ret
      exact ⟨false, rfl, iffM_F HF.out, below1 _ _⟩
  · rw [decide_eq_false hp] at CP
    have HF : Hid (¬ T) := Lib.hid (fun h0 => hp (HT.out.mp h0).1)
    go_enter Tryz.func34, Tryz.ntmps34
    go_wp2_with (first | (go_at_call 40; (with_reducible refine (CP.out _).mono ?_); rintro e w2 ⟨rfl, rfl⟩))
    go_ret
    exact ⟨false, rfl, iffM_F HF.out, below1 _ _⟩
end Go.Proofs.YtbjcldekapipaaaGreatDoor

namespace Go.Proofs.YtbjcldekapipaaaGreatDoor
open Go.ChangeShapes Go.WideShapes Go.ChangeAt Go.RowKit Go.Deep

/-- Is a module in order? -/
noncomputable def shapeV (x : Mo) : Bool := @decide (ShapeP x) (Classical.propDecidable _)
theorem shapeV_iff (x : Mo) : shapeV x = true ↔ ShapeP x := by
  unfold shapeV
  exact @decide_eq_true_iff (ShapeP x) (Classical.propDecidable _)
/-- A name's place, as CoreOf and ImportOf answer it. -/
def ofI (ls : List ByteArray) (s : ByteArray) (t : Bool) : Int := if t = true then (if 0 ≤ ixGo ls s 0 then ixGo ls s 0 else 0) else 0
def ofB (ls : List ByteArray) (s : ByteArray) (t : Bool) : Bool := t && decide (0 ≤ ixGo ls s 0)
theorem SaysM.val {p : Prop} {w : World} {e : Ending} {w' : World} (h : SaysM p w e w') {v : Bool} (hv : v = true ↔ p) : e = .returned (.bool v) ∧ Below w.heap.size w w' := by
  obtain ⟨u, rfl, hu, hb⟩ := h
  obtain rfl : u = v := Bool.eq_iff_iff.mpr (hu.trans hv.symm)
  exact ⟨rfl, hb⟩
theorem l15Shape_val (x : Mo) (hx : x.wt ≤ 1048576) (Rimports : Option Addr) (cimports : Nat) (Rcores : Option Addr) (ccores : Nat) (hc : (x.imports.length ≤ cimports ∧ x.cores.length ≤ ccores)) (lo : Nat) (w : World) (h : Mo.At w lo x Rimports Rcores) :
    Calls Tryz.prog 34 #[.agg #[.int .i64 x.pages, .slice Rimports x.imports.length cimports, .slice Rcores x.cores.length ccores]] w fun e w' => e = .returned (.bool (shapeV x)) ∧ Below w.heap.size w w' :=
  (specShape_any x hx Rimports cimports Rcores ccores hc trivial lo w h).mono fun _ _ j => j.val (shapeV_iff x)
theorem specModuleShape_any (x : Mo) (hx : x.wt ≤ 1048576) (_hf : x.Fin) (Rimports : Option Addr) (cimports : Nat) (Rcores : Option Addr) (ccores : Nat) (lo : Nat) (w : World) (h : Mo.At w lo x Rimports Rcores) (hc : (x.imports.length ≤ cimports ∧ x.cores.length ≤ ccores)) :
    Calls Tryz.prog 21 #[.agg #[.int .i64 x.pages, .slice Rimports x.imports.length cimports, .slice Rcores x.cores.length ccores]] w fun e w' => e = .returned (.bool (shapeV x)) ∧ Below w.heap.size w w' := by
  have C := Lib.hid (fun W hb => l15Shape_val x hx Rimports cimports Rcores ccores hc lo W (h.below (w' := W) hb))
  generalize shapeV x = T at *
  clear h hc hx
  go_enter Tryz.func21, Tryz.ntmps21
  go_wp2_with (go_at_call 34; (with_reducible refine (C.out _ (below1 _ _)).mono ?_); rintro e w2 ⟨rfl, h2⟩; have HB2 := Lib.hid (bnext (below1 _ _) h2); clear h2)
  go_ret
  exact ⟨rfl, HB2.out⟩
theorem implModuleShape2_any (x : Mo) (hx : x.wt ≤ 1048576) (_hf : x.Fin) (Rimports : Option Addr) (cimports : Nat) (Rcores : Option Addr) (ccores : Nat) (lo : Nat) (w : World) (h : Mo.At w lo x Rimports Rcores) (ht : OpTab w) :
    Calls Tryz.prog 26 #[.agg #[.int .i64 x.pages, .slice Rimports x.imports.length cimports, .slice Rcores x.cores.length ccores]] w fun e w' => e = .returned (.bool (shapeV x)) ∧ Below w.heap.size w w' :=
  (implShape_any x hx Rimports cimports Rcores ccores lo w h ht).mono fun _ _ j => j.val (shapeV_iff x)

end Go.Proofs.YtbjcldekapipaaaGreatDoor

