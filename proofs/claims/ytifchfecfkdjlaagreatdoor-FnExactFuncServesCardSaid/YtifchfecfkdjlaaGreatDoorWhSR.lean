/-
  The walk of the model's l08Record.
-/
import Derived.Test.YtifchfecfkdjlaaGreatDoorMG
import Derived.Test.YtifchfecfkdjlaaGreatDoorML
import Derived.Deep.RegionHeld3
namespace Go.Proofs.YtifchfecfkdjlaaGreatDoor
open Go.ChangeShapes Go.WideShapes Go.ChangeAt Go.RowKit Go.Deep

set_option maxHeartbeats 8000000 in
set_option maxRecDepth 100000 in
theorem rec_any (n : Nat) (hn : n ≤ 3) (SP : SpTy n) (a b : Ty) (ga : Gd (n + 1) a) (gb : Gd (n + 1) b) (hka : a.kind = 16) (hkb : b.kind = 16) (A B A' B' : Option Addr) (ca cb ca' cb' : Nat) (lo lo' : Nat) (pt : ByteArray) (hpt : pt.size + (n + 1) * 1048577 ≤ 100000000) (w : World) (hat : Ty.At w lo a A B) (hbt : Ty.At w lo' b A' B') :
    Calls Tryz.prog 46 #[.agg #[.int .i64 a.kind, .string a.name, .slice A a.labels.length ca, .slice B a.kids.length cb], .agg #[.int .i64 b.kind, .string b.name, .slice A' b.labels.length ca', .slice B' b.kids.length cb'], .string pt] w (RsnS (scanR (recF (Ty.why n) a b) b.labels.length) pt w) := by
  obtain ⟨qa1, qa2, qa3, _, qa5⟩ := Ty.len_le ga.1
  obtain ⟨qb1, qb2, qb3, _, qb5⟩ := Ty.len_le gb.1
  have la := ga.shape.lab (by omega)
  have lb := gb.shape.lab (by omega)
  have CL := Lib.hid (fun l W h1 => label_any a.labels l qa1 A ca lo W h1)
  have CW : Hid (∀ (i j : Nat) (x y : Ty), a.kids[i]? = some x → b.kids[j]? = some y → ∀ (l : ByteArray), l.size ≤ 1048576 → ∀ (A1 B1 A2 B2 : Option Addr) (c1 d1 c2 d2 : Nat) (W : World), Ty.At W lo x A1 B1 → Ty.At W lo' y A2 B2 → Calls Tryz.prog 31 #[.agg #[.int .i64 x.kind, .string x.name, .slice A1 x.labels.length c1, .slice B1 x.kids.length d1], .agg #[.int .i64 y.kind, .string y.name, .slice A2 y.labels.length c2, .slice B2 y.kids.length d2], .string (pt ++ ⟨#[46]⟩ ++ l)] W (RsnS (Ty.why n x y) (pt ++ ⟨#[46]⟩ ++ l) W)) := Lib.hid (fun i j x y hx hy l hl A1 B1 A2 B2 c1 d1 c2 d2 W h1 h2 => SP x y (ga.kid hx) (gb.kid hy) A1 B1 A2 B2 c1 d1 c2 d2 lo lo' _ (by rw [appS_size, appS_size]; have : (⟨#[46]⟩ : ByteArray).size = 1 := rfl; omega) W h1 h2)
  have RS : Hid (∀ (i j : Nat) (x y : Ty), a.kids[i]? = some x → b.kids[j]? = some y → RsnOk 5000000 (Ty.why n x y)) := Lib.hid (fun i j x y hx hy => Ty.why_small (by omega) (ga.kid hx) (gb.kid hy))
  have LA := Lib.hid la
  have LB := Lib.hid lb
  have HLR := Lib.hid qb5
  have HSO := Lib.hid hat.strs
  have HSR := Lib.hid hbt.strs
  have HRA := Lib.hid hat.rowAt
  have HRB := Lib.hid hbt.rowAt
  have hlr := qb1
  have hps : pt.size ≤ 100000000 := by omega
  clear SP ga gb hat hbt hn hka hkb qa1 qa2 qa3 qa5 qb1 qb2 qb3 qb5 la lb hpt
  go_enter Tryz.func46, Tryz.ntmps46
  go_wp2_with fail
  go_loopw [8] (fun i wr => ∃ k : Nat, k ≤ b.labels.length ∧ i = .int .i64 k ∧ Hid (scanR (recF (Ty.why n) a b) k = none) ∧ Hid (Below w.heap.size w wr) ∧ wr.cell? ⟨w.heap.size, 0, none⟩ = some (.int .i64 a.kind) ∧ wr.cell? ⟨w.heap.size, 1, none⟩ = some (.string a.name) ∧ wr.cell? ⟨w.heap.size, 2, none⟩ = some (.slice A a.labels.length ca) ∧ wr.cell? ⟨w.heap.size, 3, none⟩ = some (.slice B a.kids.length cb) ∧ wr.cell? ⟨w.heap.size + 1, 0, none⟩ = some (.int .i64 b.kind) ∧ wr.cell? ⟨w.heap.size + 1, 1, none⟩ = some (.string b.name) ∧ wr.cell? ⟨w.heap.size + 1, 2, none⟩ = some (.slice A' b.labels.length ca') ∧ wr.cell? ⟨w.heap.size + 1, 3, none⟩ = some (.slice B' b.kids.length cb') ∧ wr.cell? ⟨w.heap.size + 1 + 1, 0, none⟩ = some (.int .i64 0) ∧ wr.cell? ⟨w.heap.size + 1 + 1, 1, none⟩ = some (.string ⟨#[]⟩) ∧ wr.frozen? ⟨w.heap.size + 1 + 1, 0, none⟩ = false ∧ wr.frozen? ⟨w.heap.size + 1 + 1, 1, none⟩ = false) (fun i _ => b.labels.length - (intOf i).toNat)
  case atStart => exact ⟨0, Nat.zero_le _, rfl, rfl, below3 _ _ _ _, by go_simp, by go_simp, by go_simp, by go_simp, by go_simp, by go_simp, by go_simp, by go_simp, by go_simp, by go_simp, by go_simp, by go_simp⟩
  case round =>
    obtain ⟨k, hk, rfl, hno, hbel, a0_, a1_, a2_, a3_, b0_, b1_, b2_, b3_, r0, r1, rf0, rf1⟩ := hrel
    have hz : w.heap.size + 1 + 1 < wr.heap.size := World.block_lt_of_cell? wr _ r0
    by_cases hlt : k < b.labels.length
    · obtain ⟨b0, o0, l, rfl, _, hlk, hcl⟩ := (HSR.out.below hbel.out).at_ hlt
      have hls := HLR.out l (List.mem_of_getElem? hlk)
      have hli : (k : Int) < (b.labels.length : Int) := by omega
      have HLK := Lib.hid hlk
      have HLT := Lib.hid hlt
      have C1 := CL.out l
      cases hp : place l a.labels with
      | none =>
        have HRS : Hid (scanR (recF (Ty.why n) a b) b.labels.length = some (4, ⟨#[46]⟩ ++ l)) := Lib.hid (scanR_of hno.out (by rw [recF_eq HLK.out, recL_no hp]; rfl) HLT.out)
        rw [hp] at C1
        have C1 := Lib.hid (fun W h1 => (C1 W h1).mono fun e w' h => (show e = .returned (.int .i64 (-1)) ∧ W = w' from h))
        clear hp hlk hlt CL CW RS HRA HRB
        go_wp2_with fail
        go_region_held3 (fun w' => w'.cell? ⟨w.heap.size, 2, none⟩ = some (.slice A a.labels.length ca) ∧ w'.cell? ⟨w.heap.size + 1, 2, none⟩ = some (.slice (some ⟨b0, o0, none⟩) b.labels.length ca') ∧ w'.cell? ⟨b0, o0 + k, none⟩ = some (.string l))
          (first | assumption | (with_reducible exact ⟨a2_, b2_, hcl⟩) | (with_reducible exact ⟨keepCell (Below.refl _ _).drew a2_, keepCell (Below.refl _ _).drew b2_, keepCell (Below.refl _ _).drew hcl⟩))
          (first | (go_at_call 48; refine (C1.out _ (HSO.out.below hbel.out.drew)).mono ?_; rintro e w' ⟨rfl, rfl⟩))
        obtain ⟨wq, hwq, hbq⟩ : ∃ wq, wr.drew = wq ∧ Below wr.heap.size wr wq := ⟨_, rfl, (Below.refl _ _).drew⟩
        rw [hwq]
        have hzq : w.heap.size + 1 + 1 < wq.heap.size := Nat.lt_of_lt_of_le hz hbq.size
        replace a0_ := keepCell hbq a0_; replace a1_ := keepCell hbq a1_; replace a2_ := keepCell hbq a2_; replace a3_ := keepCell hbq a3_; replace b0_ := keepCell hbq b0_; replace b1_ := keepCell hbq b1_; replace b2_ := keepCell hbq b2_; replace b3_ := keepCell hbq b3_; replace r0 := keepCell hbq r0; replace r1 := keepCell hbq r1
        replace hcl := keepCell hbq hcl
        replace rf0 : wq.frozen? ⟨w.heap.size + 1 + 1, 0, none⟩ = false := ((bcell hbq).2 _ _ hz).trans rf0
        replace rf1 : wq.frozen? ⟨w.heap.size + 1 + 1, 1, none⟩ = false := ((bcell hbq).2 _ _ hz).trans rf1
        have HBQ := Lib.hid (bnext hbel.out hbq)
        clear hwq hbq C1
        go_wp2_with fail
        go_at_call 44
        refine (no_any _ _ _).mono ?_
        rintro e w3 ⟨rfl, hb3⟩
        replace r0 := keepCell hb3 r0; replace r1 := keepCell hb3 r1
        replace rf0 : w3.frozen? ⟨w.heap.size + 1 + 1, 0, none⟩ = false := ((bcell hb3).2 _ _ hzq).trans rf0
        replace rf1 : w3.frozen? ⟨w.heap.size + 1 + 1, 1, none⟩ = false := ((bcell hb3).2 _ _ hzq).trans rf1
        have HB3 := Lib.hid (bnext HBQ.out hb3)
        clear hb3
        go_wp2_with fail
        exact bodyPost_ret (v := .tuple #[.agg #[.int .i64 4, .string (pt ++ ⟨#[46]⟩ ++ l)], .bool true]) (by simp [results, Tryz.results46, go_sem, r0, r1]) rfl ⟨by rw [HRS.out, ByteArray.append_assoc]; rfl, by (first | (with_reducible exact HB3.out) | ((with_reducible refine Below.setCell (HB3.out) ?_ _) <;> (first | exact Nat.le_refl _ | exact Nat.le_add_right _ _ | (dsimp only; omega) | (simp; omega))) | ((with_reducible refine Below.setCell (Below.setCell (HB3.out) ?_ _) ?_ _) <;> (first | exact Nat.le_refl _ | exact Nat.le_add_right _ _ | (dsimp only; omega) | (simp; omega))) | ((with_reducible refine Below.setCell (Below.setCell (Below.setCell (HB3.out) ?_ _) ?_ _) ?_ _) <;> (first | exact Nat.le_refl _ | exact Nat.le_add_right _ _ | (dsimp only; omega) | (simp; omega))))⟩
      | some q =>
        have hq := place_lt hp
        obtain ⟨x, hx⟩ : ∃ x, a.kids[q]? = some x := ⟨_, List.getElem?_eq_getElem (by have := LA.out; have := LB.out; omega)⟩
        obtain ⟨y, hy⟩ : ∃ y, b.kids[k]? = some y := ⟨_, List.getElem?_eq_getElem (by have := LA.out; have := LB.out; omega)⟩
        have HFK : Hid (recF (Ty.why n) a b k = preR (⟨#[46]⟩ ++ l) (Ty.why n x y)) := Lib.hid (by rw [recF_eq HLK.out, recL_at hp hx hy]; rfl)
        have HRO := RS.out _ _ x y hx hy
        have qa_ : (q : Int) < (a.kids.length : Int) := by have := (List.getElem?_eq_some_iff.1 hx).1; omega
        have qb_ : (k : Int) < (b.kids.length : Int) := by have := (List.getElem?_eq_some_iff.1 hy).1; omega
        have CWxy := CW.out _ _ x y hx hy l hls
        rw [hp] at C1
        have C1 := Lib.hid (fun W h1 => (C1 W h1).mono fun e w' h => (show e = .returned (.int .i64 (q : Int)) ∧ W = w' from h))
        have hsa : ¬ 9223372036854775807 < pt.size + (⟨#[46]⟩ : ByteArray).size := by have : (⟨#[46]⟩ : ByteArray).size = 1 := rfl; omega
        have hsb : ¬ 9223372036854775807 < pt.size + 1 := by omega
        have hsc : ¬ 9223372036854775807 < (pt ++ (⟨#[46]⟩ : ByteArray)).size + l.size := by rw [appS_size]; have : (⟨#[46]⟩ : ByteArray).size = 1 := rfl; omega
        have hsd : ¬ 9223372036854775807 < pt.size + 1 + l.size := by omega
        clear hp hlk hlt hq CL CW RS
        go_wp2_with fail
        go_region_held3 (fun w' => w'.cell? ⟨w.heap.size, 2, none⟩ = some (.slice A a.labels.length ca) ∧ w'.cell? ⟨w.heap.size + 1, 2, none⟩ = some (.slice (some ⟨b0, o0, none⟩) b.labels.length ca') ∧ w'.cell? ⟨b0, o0 + k, none⟩ = some (.string l))
          (first | assumption | (with_reducible exact ⟨a2_, b2_, hcl⟩) | (with_reducible exact ⟨keepCell (Below.refl _ _).drew a2_, keepCell (Below.refl _ _).drew b2_, keepCell (Below.refl _ _).drew hcl⟩))
          (first | (go_at_call 48; refine (C1.out _ (HSO.out.below hbel.out.drew)).mono ?_; rintro e w' ⟨rfl, rfl⟩))
        obtain ⟨wq, hwq, hbq⟩ : ∃ wq, wr.drew = wq ∧ Below wr.heap.size wr wq := ⟨_, rfl, (Below.refl _ _).drew⟩
        rw [hwq]
        replace a0_ := keepCell hbq a0_; replace a1_ := keepCell hbq a1_; replace a2_ := keepCell hbq a2_; replace a3_ := keepCell hbq a3_; replace b0_ := keepCell hbq b0_; replace b1_ := keepCell hbq b1_; replace b2_ := keepCell hbq b2_; replace b3_ := keepCell hbq b3_; replace r0 := keepCell hbq r0; replace r1 := keepCell hbq r1
        replace hcl := keepCell hbq hcl
        replace rf0 : wq.frozen? ⟨w.heap.size + 1 + 1, 0, none⟩ = false := ((bcell hbq).2 _ _ hz).trans rf0
        replace rf1 : wq.frozen? ⟨w.heap.size + 1 + 1, 1, none⟩ = false := ((bcell hbq).2 _ _ hz).trans rf1
        have HBQ := Lib.hid (bnext hbel.out hbq)
        replace hz : w.heap.size + 1 + 1 < wq.heap.size := World.block_lt_of_cell? wq _ r0
        clear hwq hbq C1 hbel
        obtain ⟨b1, o1, x', A1, B1, c1, d1, rfl, _, hx', hc⟩ := (HRA.out.below HBQ.out).at_ (k := q) (List.getElem?_eq_some_iff.1 hx).1
        obtain ⟨b2, o2, y', A2, B2, c2, d2, rfl, _, hy', hd⟩ := (HRB.out.below HBQ.out).at_ (k := k) (List.getElem?_eq_some_iff.1 hy).1
        obtain rfl : x = x' := Option.some.inj (hx.symm.trans hx')
        obtain rfl : y = y' := Option.some.inj (hy.symm.trans hy')
        have HX := Lib.hid hc.tree
        have HY := Lib.hid hd.tree
        have l1 : b1 < wq.heap.size := World.block_lt_of_cell? wq _ hc.kind
        have l2 : b2 < wq.heap.size := World.block_lt_of_cell? wq _ hd.kind
        obtain ⟨c0, c1h, c2h, c3, _⟩ := hc
        obtain ⟨e0, e1, e2, e3, _⟩ := hd

        have hb0 : b0 < wq.heap.size := World.block_lt_of_cell? wq _ hcl
        have hbq0 : w.heap.size ≠ wq.heap.size := by omega
        have hbq1 : w.heap.size + 1 ≠ wq.heap.size := by omega
        have hbqc : b0 ≠ wq.heap.size := by omega
        have hbqx : b1 ≠ wq.heap.size := by omega
        have hbqy : b2 ≠ wq.heap.size := by omega
        have CWs := CWxy A1 B1 A2 B2 c1 d1 c2 d2
        clear hx' hy' hx hy HRA HRB CWxy
        cases hr : Ty.why n x y with
        | none =>
          rw [hr, preR_none] at HFK
          rw [hr] at CWs
          have C := Lib.hid (fun W h1 h2 => (CWs W h1 h2).mono fun e w' h => (show e = .returned (.tuple #[.agg #[.int .i64 0, .string ⟨#[]⟩], .bool false]) ∧ Below W.heap.size W w' from h))
          have HSC : Hid (scanR (recF (Ty.why n) a b) (k + 1) = none) := Lib.hid (by rw [scanR_step hno.out, HFK.out])
          clear hr HRO HFK CWs
          go_wp2_with fail
          go_region_held3 (fun w' => w'.cell? ⟨w.heap.size, 3, none⟩ = some (.slice (some ⟨b1, o1, none⟩) a.kids.length cb) ∧ w'.cell? ⟨w.heap.size + 1, 3, none⟩ = some (.slice (some ⟨b2, o2, none⟩) b.kids.length cb') ∧ w'.cell? ⟨w.heap.size + 1, 2, none⟩ = some (.slice (some ⟨b0, o0, none⟩) b.labels.length ca') ∧ w'.cell? ⟨b0, o0 + k, none⟩ = some (.string l) ∧ w'.cell? ⟨b1, o1 + q * 4, none⟩ = some (.int .i64 x.kind) ∧ w'.cell? ⟨b1, o1 + q * 4 + 1, none⟩ = some (.string x.name) ∧ w'.cell? ⟨b1, o1 + q * 4 + 2, none⟩ = some (.slice A1 x.labels.length c1) ∧ w'.cell? ⟨b1, o1 + q * 4 + 3, none⟩ = some (.slice B1 x.kids.length d1) ∧ w'.cell? ⟨b2, o2 + k * 4, none⟩ = some (.int .i64 y.kind) ∧ w'.cell? ⟨b2, o2 + k * 4 + 1, none⟩ = some (.string y.name) ∧ w'.cell? ⟨b2, o2 + k * 4 + 2, none⟩ = some (.slice A2 y.labels.length c2) ∧ w'.cell? ⟨b2, o2 + k * 4 + 3, none⟩ = some (.slice B2 y.kids.length d2))
            (first | assumption | (with_reducible exact ⟨a3_, b3_, b2_, hcl, c0, c1h, c2h, c3, e0, e1, e2, e3⟩) | (with_reducible exact ⟨keepCell (Below.refl _ _).drew a3_, keepCell (Below.refl _ _).drew b3_, keepCell (Below.refl _ _).drew b2_, keepCell (Below.refl _ _).drew hcl, keepCell (Below.refl _ _).drew c0, keepCell (Below.refl _ _).drew c1h, keepCell (Below.refl _ _).drew c2h, keepCell (Below.refl _ _).drew c3, keepCell (Below.refl _ _).drew e0, keepCell (Below.refl _ _).drew e1, keepCell (Below.refl _ _).drew e2, keepCell (Below.refl _ _).drew e3⟩) | (with_reducible exact ⟨keepCell (below1 _ _) a3_, keepCell (below1 _ _) b3_, keepCell (below1 _ _) b2_, keepCell (below1 _ _) hcl, keepCell (below1 _ _) c0, keepCell (below1 _ _) c1h, keepCell (below1 _ _) c2h, keepCell (below1 _ _) c3, keepCell (below1 _ _) e0, keepCell (below1 _ _) e1, keepCell (below1 _ _) e2, keepCell (below1 _ _) e3⟩) | (with_reducible exact ⟨keepCell (below1 _ _).drew a3_, keepCell (below1 _ _).drew b3_, keepCell (below1 _ _).drew b2_, keepCell (below1 _ _).drew hcl, keepCell (below1 _ _).drew c0, keepCell (below1 _ _).drew c1h, keepCell (below1 _ _).drew c2h, keepCell (below1 _ _).drew c3, keepCell (below1 _ _).drew e0, keepCell (below1 _ _).drew e1, keepCell (below1 _ _).drew e2, keepCell (below1 _ _).drew e3⟩) | (with_reducible exact ⟨keepCell (bnext (Below.refl _ _).drew (below1 _ _)) a3_, keepCell (bnext (Below.refl _ _).drew (below1 _ _)) b3_, keepCell (bnext (Below.refl _ _).drew (below1 _ _)) b2_, keepCell (bnext (Below.refl _ _).drew (below1 _ _)) hcl, keepCell (bnext (Below.refl _ _).drew (below1 _ _)) c0, keepCell (bnext (Below.refl _ _).drew (below1 _ _)) c1h, keepCell (bnext (Below.refl _ _).drew (below1 _ _)) c2h, keepCell (bnext (Below.refl _ _).drew (below1 _ _)) c3, keepCell (bnext (Below.refl _ _).drew (below1 _ _)) e0, keepCell (bnext (Below.refl _ _).drew (below1 _ _)) e1, keepCell (bnext (Below.refl _ _).drew (below1 _ _)) e2, keepCell (bnext (Below.refl _ _).drew (below1 _ _)) e3⟩) | (with_reducible exact ⟨ua3_, ub3_, ub2_, uhcl, uc0, uc1h, uc2h, uc3, ue0, ue1, ue2, ue3⟩) | (with_reducible exact ⟨keepCell (Below.refl _ _).drew ua3_, keepCell (Below.refl _ _).drew ub3_, keepCell (Below.refl _ _).drew ub2_, keepCell (Below.refl _ _).drew uhcl, keepCell (Below.refl _ _).drew uc0, keepCell (Below.refl _ _).drew uc1h, keepCell (Below.refl _ _).drew uc2h, keepCell (Below.refl _ _).drew uc3, keepCell (Below.refl _ _).drew ue0, keepCell (Below.refl _ _).drew ue1, keepCell (Below.refl _ _).drew ue2, keepCell (Below.refl _ _).drew ue3⟩) | (with_reducible exact ⟨keepCell (below1 _ _) ua3_, keepCell (below1 _ _) ub3_, keepCell (below1 _ _) ub2_, keepCell (below1 _ _) uhcl, keepCell (below1 _ _) uc0, keepCell (below1 _ _) uc1h, keepCell (below1 _ _) uc2h, keepCell (below1 _ _) uc3, keepCell (below1 _ _) ue0, keepCell (below1 _ _) ue1, keepCell (below1 _ _) ue2, keepCell (below1 _ _) ue3⟩) | (with_reducible exact ⟨keepCell (below1 _ _).drew ua3_, keepCell (below1 _ _).drew ub3_, keepCell (below1 _ _).drew ub2_, keepCell (below1 _ _).drew uhcl, keepCell (below1 _ _).drew uc0, keepCell (below1 _ _).drew uc1h, keepCell (below1 _ _).drew uc2h, keepCell (below1 _ _).drew uc3, keepCell (below1 _ _).drew ue0, keepCell (below1 _ _).drew ue1, keepCell (below1 _ _).drew ue2, keepCell (below1 _ _).drew ue3⟩) | (with_reducible exact ⟨keepCell (bnext (Below.refl _ _).drew (below1 _ _)) ua3_, keepCell (bnext (Below.refl _ _).drew (below1 _ _)) ub3_, keepCell (bnext (Below.refl _ _).drew (below1 _ _)) ub2_, keepCell (bnext (Below.refl _ _).drew (below1 _ _)) uhcl, keepCell (bnext (Below.refl _ _).drew (below1 _ _)) uc0, keepCell (bnext (Below.refl _ _).drew (below1 _ _)) uc1h, keepCell (bnext (Below.refl _ _).drew (below1 _ _)) uc2h, keepCell (bnext (Below.refl _ _).drew (below1 _ _)) uc3, keepCell (bnext (Below.refl _ _).drew (below1 _ _)) ue0, keepCell (bnext (Below.refl _ _).drew (below1 _ _)) ue1, keepCell (bnext (Below.refl _ _).drew (below1 _ _)) ue2, keepCell (bnext (Below.refl _ _).drew (below1 _ _)) ue3⟩) | (with_reducible exact ⟨(cells_far2 hbq0).trans ua3_, (cells_far2 hbq1).trans ub3_, (cells_far2 hbq1).trans ub2_, (cells_far2 hbqc).trans uhcl, (cells_far2 hbqx).trans uc0, (cells_far2 hbqx).trans uc1h, (cells_far2 hbqx).trans uc2h, (cells_far2 hbqx).trans uc3, (cells_far2 hbqy).trans ue0, (cells_far2 hbqy).trans ue1, (cells_far2 hbqy).trans ue2, (cells_far2 hbqy).trans ue3⟩) | (refine ⟨?_, ?_, ?_, ?_, ?_, ?_, ?_, ?_, ?_, ?_, ?_, ?_⟩ <;> first | assumption | (exact (cells_far2 (by omega)).trans (keepCell (below1 _ _) (by assumption)))))
            (first | (go_at_call 31; (first | ((with_reducible refine (C.out _ (HX.out.below (Below.refl _ _).drew) (HY.out.below (Below.refl _ _).drew)).mono ?_); rintro e w4 ⟨rfl, hb4⟩; have hbw : Below wq.heap.size wq w4 := (Below.refl wq.heap.size wq).drew.trans hb4; have ua3_ := keepCell hbw a3_; have ub3_ := keepCell hbw b3_; have ub2_ := keepCell hbw b2_; have uhcl := keepCell hbw hcl; have uc0 := keepCell hbw c0; have uc1h := keepCell hbw c1h; have uc2h := keepCell hbw c2h; have uc3 := keepCell hbw c3; have ue0 := keepCell hbw e0; have ue1 := keepCell hbw e1; have ue2 := keepCell hbw e2; have ue3 := keepCell hbw e3; have ua0_ := keepCell hbw a0_; have ua1_ := keepCell hbw a1_; have ua2_ := keepCell hbw a2_; have ub0_ := keepCell hbw b0_; have ub1_ := keepCell hbw b1_; have ur0 := keepCell hbw r0; have ur1 := keepCell hbw r1; have urf0 : w4.frozen? ⟨w.heap.size + 1 + 1, 0, none⟩ = false := ((bcell hbw).2 _ _ hz).trans rf0; have urf1 : w4.frozen? ⟨w.heap.size + 1 + 1, 1, none⟩ = false := ((bcell hbw).2 _ _ hz).trans rf1; have hz4 : w.heap.size + 1 + 1 < w4.heap.size := World.block_lt_of_cell? w4 _ ur0; have hne4 : w.heap.size ≠ w4.heap.size := by omega) | ((with_reducible refine (C.out _ (HX.out.below (below1 _ _).drew) (HY.out.below (below1 _ _).drew)).mono ?_); rintro e w4 ⟨rfl, hb4⟩; have hbw : Below wq.heap.size wq w4 := (below1 wq _).drew.trans (hb4.mono (by simp)); have ua3_ := keepCell hbw a3_; have ub3_ := keepCell hbw b3_; have ub2_ := keepCell hbw b2_; have uhcl := keepCell hbw hcl; have uc0 := keepCell hbw c0; have uc1h := keepCell hbw c1h; have uc2h := keepCell hbw c2h; have uc3 := keepCell hbw c3; have ue0 := keepCell hbw e0; have ue1 := keepCell hbw e1; have ue2 := keepCell hbw e2; have ue3 := keepCell hbw e3; have ua0_ := keepCell hbw a0_; have ua1_ := keepCell hbw a1_; have ua2_ := keepCell hbw a2_; have ub0_ := keepCell hbw b0_; have ub1_ := keepCell hbw b1_; have ur0 := keepCell hbw r0; have ur1 := keepCell hbw r1; have urf0 : w4.frozen? ⟨w.heap.size + 1 + 1, 0, none⟩ = false := ((bcell hbw).2 _ _ hz).trans rf0; have urf1 : w4.frozen? ⟨w.heap.size + 1 + 1, 1, none⟩ = false := ((bcell hbw).2 _ _ hz).trans rf1; have hz4 : w.heap.size + 1 + 1 < w4.heap.size := World.block_lt_of_cell? w4 _ ur0; have uz0 := keepCell (a := ⟨wq.heap.size, 0, none⟩) (v := .int .i64 0) hb4 (by go_simp); have uz1 := keepCell (a := ⟨wq.heap.size, 1, none⟩) (v := .string ⟨#[]⟩) hb4 (by go_simp); have ug0 : w4.frozen? ⟨wq.heap.size, 0, none⟩ = false := ((bcell hb4).2 _ _ (by simp)).trans (by go_simp); have ug1 : w4.frozen? ⟨wq.heap.size, 1, none⟩ = false := ((bcell hb4).2 _ _ (by simp)).trans (by go_simp)))))
          all_goals
            have HB4 := Lib.hid (bnext HBQ.out hbw)
            have hz5 : wq.heap.size ≤ w4.heap.size := hbw.size
            clear hbw hb4 C
            go_wp2_with fail
            go_roundw
            case rel =>
              refine ⟨k + 1, by omega, by go_num, HSC.out, ?_, ?_, ?_, ?_, ?_, ?_, ?_, ?_, ?_, ?_, ?_, ?_, ?_⟩
              · first | exact bnext HB4.out (below1 _ _) | exact (HB4.out.setCell (by first | exact Nat.le_refl _ | exact Nat.le_add_right _ _ | (dsimp only; omega) | (simp; omega)) _).setCell (by first | exact Nat.le_refl _ | exact Nat.le_add_right _ _ | (dsimp only; omega) | (simp; omega)) _
              all_goals first | (with_reducible assumption) | (exact keepCell (below1 _ _) (by assumption)) | (exact (cells_far2 (by omega)).trans (by assumption)) | go_simp
            case measure => simp [intOf]; omega
        | some v =>
          obtain ⟨z, p⟩ := v
          rw [hr, preR_some] at HFK
          rw [hr] at CWs
          have C := Lib.hid (fun W h1 h2 => (CWs W h1 h2).mono fun e w' h => (show e = .returned (.tuple #[.agg #[.int .i64 z, .string (pt ++ ⟨#[46]⟩ ++ l ++ p)], .bool true]) ∧ Below W.heap.size W w' from h))
          have HRS : Hid (scanR (recF (Ty.why n) a b) b.labels.length = some (z, ⟨#[46]⟩ ++ l ++ p)) := Lib.hid (scanR_of hno.out HFK.out HLT.out)
          clear hr HRO HFK CWs
          go_wp2_with fail
          go_region_held3 (fun w' => w'.cell? ⟨w.heap.size, 3, none⟩ = some (.slice (some ⟨b1, o1, none⟩) a.kids.length cb) ∧ w'.cell? ⟨w.heap.size + 1, 3, none⟩ = some (.slice (some ⟨b2, o2, none⟩) b.kids.length cb') ∧ w'.cell? ⟨w.heap.size + 1, 2, none⟩ = some (.slice (some ⟨b0, o0, none⟩) b.labels.length ca') ∧ w'.cell? ⟨b0, o0 + k, none⟩ = some (.string l) ∧ w'.cell? ⟨b1, o1 + q * 4, none⟩ = some (.int .i64 x.kind) ∧ w'.cell? ⟨b1, o1 + q * 4 + 1, none⟩ = some (.string x.name) ∧ w'.cell? ⟨b1, o1 + q * 4 + 2, none⟩ = some (.slice A1 x.labels.length c1) ∧ w'.cell? ⟨b1, o1 + q * 4 + 3, none⟩ = some (.slice B1 x.kids.length d1) ∧ w'.cell? ⟨b2, o2 + k * 4, none⟩ = some (.int .i64 y.kind) ∧ w'.cell? ⟨b2, o2 + k * 4 + 1, none⟩ = some (.string y.name) ∧ w'.cell? ⟨b2, o2 + k * 4 + 2, none⟩ = some (.slice A2 y.labels.length c2) ∧ w'.cell? ⟨b2, o2 + k * 4 + 3, none⟩ = some (.slice B2 y.kids.length d2))
            (first | assumption | (with_reducible exact ⟨a3_, b3_, b2_, hcl, c0, c1h, c2h, c3, e0, e1, e2, e3⟩) | (with_reducible exact ⟨keepCell (Below.refl _ _).drew a3_, keepCell (Below.refl _ _).drew b3_, keepCell (Below.refl _ _).drew b2_, keepCell (Below.refl _ _).drew hcl, keepCell (Below.refl _ _).drew c0, keepCell (Below.refl _ _).drew c1h, keepCell (Below.refl _ _).drew c2h, keepCell (Below.refl _ _).drew c3, keepCell (Below.refl _ _).drew e0, keepCell (Below.refl _ _).drew e1, keepCell (Below.refl _ _).drew e2, keepCell (Below.refl _ _).drew e3⟩) | (with_reducible exact ⟨keepCell (below1 _ _) a3_, keepCell (below1 _ _) b3_, keepCell (below1 _ _) b2_, keepCell (below1 _ _) hcl, keepCell (below1 _ _) c0, keepCell (below1 _ _) c1h, keepCell (below1 _ _) c2h, keepCell (below1 _ _) c3, keepCell (below1 _ _) e0, keepCell (below1 _ _) e1, keepCell (below1 _ _) e2, keepCell (below1 _ _) e3⟩) | (with_reducible exact ⟨keepCell (below1 _ _).drew a3_, keepCell (below1 _ _).drew b3_, keepCell (below1 _ _).drew b2_, keepCell (below1 _ _).drew hcl, keepCell (below1 _ _).drew c0, keepCell (below1 _ _).drew c1h, keepCell (below1 _ _).drew c2h, keepCell (below1 _ _).drew c3, keepCell (below1 _ _).drew e0, keepCell (below1 _ _).drew e1, keepCell (below1 _ _).drew e2, keepCell (below1 _ _).drew e3⟩) | (with_reducible exact ⟨keepCell (bnext (Below.refl _ _).drew (below1 _ _)) a3_, keepCell (bnext (Below.refl _ _).drew (below1 _ _)) b3_, keepCell (bnext (Below.refl _ _).drew (below1 _ _)) b2_, keepCell (bnext (Below.refl _ _).drew (below1 _ _)) hcl, keepCell (bnext (Below.refl _ _).drew (below1 _ _)) c0, keepCell (bnext (Below.refl _ _).drew (below1 _ _)) c1h, keepCell (bnext (Below.refl _ _).drew (below1 _ _)) c2h, keepCell (bnext (Below.refl _ _).drew (below1 _ _)) c3, keepCell (bnext (Below.refl _ _).drew (below1 _ _)) e0, keepCell (bnext (Below.refl _ _).drew (below1 _ _)) e1, keepCell (bnext (Below.refl _ _).drew (below1 _ _)) e2, keepCell (bnext (Below.refl _ _).drew (below1 _ _)) e3⟩) | (with_reducible exact ⟨ua3_, ub3_, ub2_, uhcl, uc0, uc1h, uc2h, uc3, ue0, ue1, ue2, ue3⟩) | (with_reducible exact ⟨keepCell (Below.refl _ _).drew ua3_, keepCell (Below.refl _ _).drew ub3_, keepCell (Below.refl _ _).drew ub2_, keepCell (Below.refl _ _).drew uhcl, keepCell (Below.refl _ _).drew uc0, keepCell (Below.refl _ _).drew uc1h, keepCell (Below.refl _ _).drew uc2h, keepCell (Below.refl _ _).drew uc3, keepCell (Below.refl _ _).drew ue0, keepCell (Below.refl _ _).drew ue1, keepCell (Below.refl _ _).drew ue2, keepCell (Below.refl _ _).drew ue3⟩) | (with_reducible exact ⟨keepCell (below1 _ _) ua3_, keepCell (below1 _ _) ub3_, keepCell (below1 _ _) ub2_, keepCell (below1 _ _) uhcl, keepCell (below1 _ _) uc0, keepCell (below1 _ _) uc1h, keepCell (below1 _ _) uc2h, keepCell (below1 _ _) uc3, keepCell (below1 _ _) ue0, keepCell (below1 _ _) ue1, keepCell (below1 _ _) ue2, keepCell (below1 _ _) ue3⟩) | (with_reducible exact ⟨keepCell (below1 _ _).drew ua3_, keepCell (below1 _ _).drew ub3_, keepCell (below1 _ _).drew ub2_, keepCell (below1 _ _).drew uhcl, keepCell (below1 _ _).drew uc0, keepCell (below1 _ _).drew uc1h, keepCell (below1 _ _).drew uc2h, keepCell (below1 _ _).drew uc3, keepCell (below1 _ _).drew ue0, keepCell (below1 _ _).drew ue1, keepCell (below1 _ _).drew ue2, keepCell (below1 _ _).drew ue3⟩) | (with_reducible exact ⟨keepCell (bnext (Below.refl _ _).drew (below1 _ _)) ua3_, keepCell (bnext (Below.refl _ _).drew (below1 _ _)) ub3_, keepCell (bnext (Below.refl _ _).drew (below1 _ _)) ub2_, keepCell (bnext (Below.refl _ _).drew (below1 _ _)) uhcl, keepCell (bnext (Below.refl _ _).drew (below1 _ _)) uc0, keepCell (bnext (Below.refl _ _).drew (below1 _ _)) uc1h, keepCell (bnext (Below.refl _ _).drew (below1 _ _)) uc2h, keepCell (bnext (Below.refl _ _).drew (below1 _ _)) uc3, keepCell (bnext (Below.refl _ _).drew (below1 _ _)) ue0, keepCell (bnext (Below.refl _ _).drew (below1 _ _)) ue1, keepCell (bnext (Below.refl _ _).drew (below1 _ _)) ue2, keepCell (bnext (Below.refl _ _).drew (below1 _ _)) ue3⟩) | (with_reducible exact ⟨(cells_far2 hbq0).trans ua3_, (cells_far2 hbq1).trans ub3_, (cells_far2 hbq1).trans ub2_, (cells_far2 hbqc).trans uhcl, (cells_far2 hbqx).trans uc0, (cells_far2 hbqx).trans uc1h, (cells_far2 hbqx).trans uc2h, (cells_far2 hbqx).trans uc3, (cells_far2 hbqy).trans ue0, (cells_far2 hbqy).trans ue1, (cells_far2 hbqy).trans ue2, (cells_far2 hbqy).trans ue3⟩) | (refine ⟨?_, ?_, ?_, ?_, ?_, ?_, ?_, ?_, ?_, ?_, ?_, ?_⟩ <;> first | assumption | (exact (cells_far2 (by omega)).trans (keepCell (below1 _ _) (by assumption)))))
            (first | (go_at_call 31; (first | ((with_reducible refine (C.out _ (HX.out.below (Below.refl _ _).drew) (HY.out.below (Below.refl _ _).drew)).mono ?_); rintro e w4 ⟨rfl, hb4⟩; have hbw : Below wq.heap.size wq w4 := (Below.refl wq.heap.size wq).drew.trans hb4; have ua3_ := keepCell hbw a3_; have ub3_ := keepCell hbw b3_; have ub2_ := keepCell hbw b2_; have uhcl := keepCell hbw hcl; have uc0 := keepCell hbw c0; have uc1h := keepCell hbw c1h; have uc2h := keepCell hbw c2h; have uc3 := keepCell hbw c3; have ue0 := keepCell hbw e0; have ue1 := keepCell hbw e1; have ue2 := keepCell hbw e2; have ue3 := keepCell hbw e3; have ua0_ := keepCell hbw a0_; have ua1_ := keepCell hbw a1_; have ua2_ := keepCell hbw a2_; have ub0_ := keepCell hbw b0_; have ub1_ := keepCell hbw b1_; have ur0 := keepCell hbw r0; have ur1 := keepCell hbw r1; have urf0 : w4.frozen? ⟨w.heap.size + 1 + 1, 0, none⟩ = false := ((bcell hbw).2 _ _ hz).trans rf0; have urf1 : w4.frozen? ⟨w.heap.size + 1 + 1, 1, none⟩ = false := ((bcell hbw).2 _ _ hz).trans rf1; have hz4 : w.heap.size + 1 + 1 < w4.heap.size := World.block_lt_of_cell? w4 _ ur0; have hne4 : w.heap.size ≠ w4.heap.size := by omega) | ((with_reducible refine (C.out _ (HX.out.below (below1 _ _).drew) (HY.out.below (below1 _ _).drew)).mono ?_); rintro e w4 ⟨rfl, hb4⟩; have hbw : Below wq.heap.size wq w4 := (below1 wq _).drew.trans (hb4.mono (by simp)); have ua3_ := keepCell hbw a3_; have ub3_ := keepCell hbw b3_; have ub2_ := keepCell hbw b2_; have uhcl := keepCell hbw hcl; have uc0 := keepCell hbw c0; have uc1h := keepCell hbw c1h; have uc2h := keepCell hbw c2h; have uc3 := keepCell hbw c3; have ue0 := keepCell hbw e0; have ue1 := keepCell hbw e1; have ue2 := keepCell hbw e2; have ue3 := keepCell hbw e3; have ua0_ := keepCell hbw a0_; have ua1_ := keepCell hbw a1_; have ua2_ := keepCell hbw a2_; have ub0_ := keepCell hbw b0_; have ub1_ := keepCell hbw b1_; have ur0 := keepCell hbw r0; have ur1 := keepCell hbw r1; have urf0 : w4.frozen? ⟨w.heap.size + 1 + 1, 0, none⟩ = false := ((bcell hbw).2 _ _ hz).trans rf0; have urf1 : w4.frozen? ⟨w.heap.size + 1 + 1, 1, none⟩ = false := ((bcell hbw).2 _ _ hz).trans rf1; have hz4 : w.heap.size + 1 + 1 < w4.heap.size := World.block_lt_of_cell? w4 _ ur0; have uz0 := keepCell (a := ⟨wq.heap.size, 0, none⟩) (v := .int .i64 0) hb4 (by go_simp); have uz1 := keepCell (a := ⟨wq.heap.size, 1, none⟩) (v := .string ⟨#[]⟩) hb4 (by go_simp); have ug0 : w4.frozen? ⟨wq.heap.size, 0, none⟩ = false := ((bcell hb4).2 _ _ (by simp)).trans (by go_simp); have ug1 : w4.frozen? ⟨wq.heap.size, 1, none⟩ = false := ((bcell hb4).2 _ _ (by simp)).trans (by go_simp)))))
          all_goals
            have HB4 := Lib.hid (bnext HBQ.out hbw)
            have hz5 : wq.heap.size ≤ w4.heap.size := hbw.size
            clear hbw hb4 C
            go_wp2_with fail
            refine bodyPost_ret (v := .tuple #[.agg #[.int .i64 z, .string (pt ++ ⟨#[46]⟩ ++ l ++ p)], .bool true]) ?_ rfl ⟨by rw [HRS.out]; simp only [ByteArray.append_assoc]; rfl, ?_⟩
            · first | (simp [results, Tryz.results46, go_sem, ur0, ur1, hz4]; done) | (simp [results, Tryz.results46, go_sem, ur0, ur1, hz4, uz0, uz1, hz5])
            · first | exact ((bnext HB4.out (below1 _ _)).setCell (by first | exact Nat.le_refl _ | exact Nat.le_add_right _ _ | (dsimp only; omega) | (simp; omega)) _).setCell (by first | exact Nat.le_refl _ | exact Nat.le_add_right _ _ | (dsimp only; omega) | (simp; omega)) _ | exact (Below.alloc ((HB4.out.setCell (by first | exact Nat.le_refl _ | exact Nat.le_add_right _ _ | (dsimp only; omega) | (simp; omega)) _).setCell (by first | exact Nat.le_refl _ | exact Nat.le_add_right _ _ | (dsimp only; omega) | (simp; omega)) _) (by first | (simp only [World.setCell_size]; omega) | (simp; omega)) _) | exact (((HB4.out.setCell (by first | exact Nat.le_refl _ | exact Nat.le_add_right _ _ | (dsimp only; omega) | (simp; omega)) _).setCell (by first | exact Nat.le_refl _ | exact Nat.le_add_right _ _ | (dsimp only; omega) | (simp; omega)) _).setCell (by first | exact Nat.le_refl _ | exact Nat.le_add_right _ _ | (dsimp only; omega) | (simp; omega)) _).setCell (by first | exact Nat.le_refl _ | exact Nat.le_add_right _ _ | (dsimp only; omega) | (simp; omega)) _
    · have hk' : k = b.labels.length := by omega
      have h9 := hno.out
      rw [hk'] at h9
      have HRS := Lib.hid h9
      clear h9 hk' CL CW RS HRA HRB
      go_wp2_with fail
      exact bodyPost_ret (v := .tuple #[.agg #[.int .i64 0, .string ⟨#[]⟩], .bool false]) (by simp [results, Tryz.results46, go_sem, r0, r1]) rfl ⟨by rw [HRS.out]; rfl, by (first | (with_reducible exact hbel.out) | ((with_reducible refine Below.setCell (hbel.out) ?_ _) <;> (first | exact Nat.le_refl _ | exact Nat.le_add_right _ _ | (dsimp only; omega) | (simp; omega))) | ((with_reducible refine Below.setCell (Below.setCell (hbel.out) ?_ _) ?_ _) <;> (first | exact Nat.le_refl _ | exact Nat.le_add_right _ _ | (dsimp only; omega) | (simp; omega))) | ((with_reducible refine Below.setCell (Below.setCell (Below.setCell (hbel.out) ?_ _) ?_ _) ?_ _) <;> (first | exact Nat.le_refl _ | exact Nat.le_add_right _ _ | (dsimp only; omega) | (simp; omega))))⟩
end Go.Proofs.YtifchfecfkdjlaaGreatDoor
