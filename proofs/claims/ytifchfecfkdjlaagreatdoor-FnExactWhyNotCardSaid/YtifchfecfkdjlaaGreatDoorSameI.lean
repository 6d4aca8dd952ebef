/-
  The walk of the program's sameTypes.
-/
import Derived.Test.YtifchfecfkdjlaaGreatDoorPairMap
import Derived.RegionTactic
import Derived.ChangeAlike
import Derived.BigRegion
namespace Go.Proofs.YtifchfecfkdjlaaGreatDoor
open Go.ChangeShapes Go.WideShapes Go.ChangeAt Go.RowKit Go.Deep

/-- Nothing has turned but block m and new memory. -/
def Gm (m : Nat) (w w' : World) : Prop := w.grownBy w' (some m)
theorem Gm.refl (m : Nat) (w : World) : Gm m w w := ⟨rfl, rfl, rfl, Nat.le_refl _, fun _ _ _ => rfl⟩
theorem Gm.trans {m : Nat} {a b c : World} (h : Gm m a b) (k : Gm m b c) : Gm m a c :=
  ⟨k.os.trans h.os, k.tape.trans h.tape, k.output.trans h.output, Nat.le_trans h.size k.size, fun i hi hn => (k.block i (Nat.lt_of_lt_of_le hi h.size) hn).trans (h.block i hi hn)⟩
theorem Gm.of_below {m : Nat} {w w' : World} (h : Below w.heap.size w w') : Gm m w w' := ⟨h.os, h.tape, h.output, h.size, fun i hi _ => h.block i hi⟩
theorem Gm.kp {m : Nat} {w w' : World} (h : Gm m w w') (hp : Pairs w m) : Kp w w' := hp.kp h

theorem SameAll.nil (d : Nat) : SameAll [] [] d := ⟨rfl, by simp [Ty.depths]⟩
theorem SameAll.len {ks us : List Ty} {d : Nat} (h : SameAll ks us d) : ks.length = us.length := by rw [h.1]
theorem SameAll.zero {ks us : List Ty} (h : SameAll ks us 0) : ks = [] := by
  obtain ⟨_, h2⟩ := h
  cases ks with
  | nil => rfl
  | cons x xs =>
    simp only [Ty.depths] at h2
    have := x.depth_pos
    omega
/-- Each of the first so many is alike. -/
def AllTo (ks us : List Ty) (d k : Nat) : Prop := ∀ (i : Nat) (t u : Ty), i < k → ks[i]? = some t → us[i]? = some u → t = u ∧ t.depth ≤ d
theorem AllTo.step {ks us : List Ty} {d k : Nat} {t u : Ty} (h : AllTo ks us d k) (ht : ks[k]? = some t) (hu : us[k]? = some u) (e : t = u ∧ t.depth ≤ d) : AllTo ks us d (k + 1) := fun i x y hi hx hy => by
  by_cases e2 : i = k
  · subst e2
    rw [ht] at hx
    rw [hu] at hy
    cases hx
    cases hy
    exact e
  · exact h i x y (by omega) hx hy
theorem AllTo.all {ks us : List Ty} {d : Nat} (hl : ks.length = us.length) (h : AllTo ks us d ks.length) : SameAll ks us d := by
  have key : ∀ (i : Nat) (t : Ty), ks[i]? = some t → us[i]? = some t ∧ t.depth ≤ d := fun i t ht => by
    have hi := (List.getElem?_eq_some_iff.1 ht).1
    have hu : us[i]? = some (us[i]'(by omega)) := List.getElem?_eq_getElem (by omega)
    obtain ⟨e1, e2⟩ := h i t _ hi ht hu
    rw [hu, ← e1]
    exact ⟨rfl, e2⟩
  refine ⟨List.ext_getElem? fun i => ?_, Ty.depths_le_of fun i t ht => (key i t ht).2⟩
  by_cases hi : i < ks.length
  · rw [(key i _ (List.getElem?_eq_getElem hi)).1, List.getElem?_eq_getElem hi]
  · rw [List.getElem?_eq_none (by omega), List.getElem?_eq_none (by omega)]
theorem SameAll.at_ {ks us : List Ty} {d k : Nat} {t u : Ty} (h : SameAll ks us d) (ht : ks[k]? = some t) (hu : us[k]? = some u) : t = u ∧ t.depth ≤ d := by
  obtain ⟨rfl, h2⟩ := h
  rw [ht] at hu
  cases hu
  exact ⟨rfl, Nat.le_trans (Ty.depths_get ht) h2⟩

def SamePost (ks us : List Ty) (d m : Nat) (w : World) (e : Ending) (w' : World) : Prop := ∃ v : Bool, e = .returned (.bool v) ∧ (v = true ↔ SameAll ks us d) ∧ Pairs w' m ∧ Gm m w w'
theorem SamePost.yes {ks us : List Ty} {d m : Nat} {w w' : World} {e : Ending} (h : SamePost ks us d m w e w') (hs : SameAll ks us d) : e = .returned (.bool true) ∧ Pairs w' m ∧ Gm m w w' := by
  obtain ⟨v, rfl, hv, h1, h2⟩ := h
  rw [hv.mpr hs]
  exact ⟨rfl, h1, h2⟩
theorem SamePost.no {ks us : List Ty} {d m : Nat} {w w' : World} {e : Ending} (h : SamePost ks us d m w e w') (hs : ¬ SameAll ks us d) : e = .returned (.bool false) ∧ Pairs w' m ∧ Gm m w w' := by
  obtain ⟨v, rfl, hv, h1, h2⟩ := h
  cases v
  · exact ⟨rfl, h1, h2⟩
  · exact absurd (hv.mp rfl) hs

def SameTs (d : Nat) : Prop := ∀ (ks us : List Ty), ks.length ≤ 1048576 → us.length ≤ 1048576 → (∀ (i : Nat) (t : Ty), ks[i]? = some t → t.wt ≤ 1048576) → (∀ (i : Nat) (t : Ty), us[i]? = some t → t.wt ≤ 1048576) →
  ∀ (A B : Option Addr) (ca cb m : Nat) (w : World), Ty.RowP w ks A → Ty.RowP w us B → Pairs w m →
  Calls Tryz.prog 96 #[.slice A ks.length ca, .slice B us.length cb, .int .i64 d, .map (some m)] w (SamePost ks us d m w)

theorem sameTypes_len (d : Nat) (ks us : List Ty) (A B : Option Addr) (ca cb m : Nat) (w : World) (hm : Pairs w m) (hl : ¬ ks.length = us.length) :
    Calls Tryz.prog 96 #[.slice A ks.length ca, .slice B us.length cb, .int .i64 d, .map (some m)] w (SamePost ks us d m w) := by
  have HM := Lib.hid hm
  have HL := Lib.hid hl
  have e1 : ((ks.length : Int) == (us.length : Int)) = false := by rw [beq_eq_false_iff_ne]; omega
  clear hm hl
  go_enter Tryz.func96, Tryz.ntmps96
  go_wp2_with fail
  go_ret
  exact ⟨false, rfl, iffF (fun h => HL.out h.len), HM.out, Gm.refl _ _⟩
theorem sameTypes_nil (d : Nat) (A B : Option Addr) (ca cb m : Nat) (w : World) (hm : Pairs w m) :
    Calls Tryz.prog 96 #[.slice A (0 : Nat) ca, .slice B (0 : Nat) cb, .int .i64 d, .map (some m)] w (SamePost [] [] d m w) := by
  have HM := Lib.hid hm
  clear hm
  go_enter Tryz.func96, Tryz.ntmps96
  go_wp2_with fail
  go_ret
  exact ⟨true, rfl, iffT (SameAll.nil d), HM.out, Gm.refl _ _⟩
theorem sameTypes_zero (n : Nat) (ks us : List Ty) (hn : 0 < n) (hk : ks.length = n) (hu : us.length = n) (A B : Option Addr) (ca cb m : Nat) (w : World) (hm : Pairs w m) :
    Calls Tryz.prog 96 #[.slice A n ca, .slice B n cb, .int .i64 (0 : Nat), .map (some m)] w (SamePost ks us 0 m w) := by
  have HM := Lib.hid hm
  have HF : Hid (¬ SameAll ks us 0) := Lib.hid (fun h => by
    have := h.zero
    rw [this] at hk
    simp at hk
    omega)
  have hn' : (0 : Int) < (n : Int) := by omega
  clear hm hk hu
  go_enter Tryz.func96, Tryz.ntmps96
  go_wp2_with fail
  go_ret
  exact ⟨false, rfl, iffF HF.out, HM.out, Gm.refl _ _⟩

theorem wpList_lookup_eq {P : Program} (w : World) {ops : Array Oper} {rest : List Oper} {o : Oper} {a : Act} {Q : Exit → Act → World → Prop}
    (hg : o.guard = none) (m x : Operand) (t : TypeId) (hop : o.op = Op.lookup t m x false) (mv kv : Value) (hm : a.eval m = mv) (hx : a.eval x = kv) {r : Value} (hrun : (Instr.lookup t mv kv false).run P w = .ok r w)
    (hK : wpList P ops Q rest (a.put o.dst r) w) : wpList P ops Q (o :: rest) a w := by
  refine wpList_plain hg fun K' hK' => ?_
  unfold Oper.wp
  simp [execOp, hop, hm, hx, hrun, Result.andThen]
  exact hK' _ _ hK
theorem same_iff {t u : Ty} {d : Nat} : (t = u ∧ t.depth ≤ d + 1) ↔ t.kind = u.kind ∧ t.name = u.name ∧ t.labels = u.labels ∧ SameAll t.kids u.kids d := by
  have h := t.depth_eq
  constructor
  · rintro ⟨rfl, h2⟩
    exact ⟨rfl, rfl, rfl, rfl, by omega⟩
  · rintro ⟨h1, h2, h3, h4, h5⟩
    exact ⟨Ty.ext' h1 h2 h3 h4, by omega⟩

set_option maxHeartbeats 4000000 in
set_option maxRecDepth 100000 in
theorem sameTypes_some (d : Nat) (hd : d ≤ 99) (ih : SameTs d) (n : Nat) (hn : 0 < n) (ks us : List Ty) (hk : ks.length = n) (hu : us.length = n) (hn2 : n ≤ 1048576) (hwk : ∀ (i : Nat) (t : Ty), ks[i]? = some t → t.wt ≤ 1048576) (hwu : ∀ (i : Nat) (t : Ty), us[i]? = some t → t.wt ≤ 1048576)
    (A B : Option Addr) (ca cb m : Nat) (w : World) (ha : Ty.RowP w ks A) (hb : Ty.RowP w us B) (hm : Pairs w m) :
    Calls Tryz.prog 96 #[.slice A n ca, .slice B n cb, .int .i64 ((d : Int) + 1), .map (some m)] w (SamePost ks us (d + 1) m w) := by
  obtain ⟨b, o, t0, A0, B0, c00, c01, rfl, hblk, _, _⟩ := ha.at_ (k := 0) (by omega)
  obtain ⟨b', o', u0, A0', B0', c00', c01', rfl, hblk', _, _⟩ := hb.at_ (k := 0) (by omega)
  obtain ⟨v, hrun, hv⟩ := pairs_lookup (w := (w.alloc (.cells #[.pointer (some ⟨b, o, none⟩), .pointer (some ⟨b', o', none⟩), .int .i64 n, .int .i64 ((d : Int) + 1)] 123)).drew) (m := m) (hm.below (below1 _ _).drew) ⟨b, o, none⟩ ⟨b', o', none⟩ n ((d : Int) + 1) (hblk.below (below1 _ _).drew) (hblk'.below (below1 _ _).drew)
  have HR := Lib.hid hrun
  have HV := Lib.hid hv
  have IH := Lib.hid ih
  have HK := Lib.hid hk
  have HU := Lib.hid hu
  have HA := Lib.hid ha
  have HBB := Lib.hid hb
  have HM := Lib.hid hm
  have HWK := Lib.hid hwk
  have HWU := Lib.hid hwu
  have HBL := Lib.hid hblk
  have HBL' := Lib.hid hblk'
  have HML := Lib.hid hm.lt
  have hn' : (0 : Int) < (n : Int) := by omega
  have e0 : ((n : Int) == 0) = false := by rw [beq_eq_false_iff_ne]; omega
  have e1 : ((d : Int) + 1 == 0) = false := by rw [beq_eq_false_iff_ne]; omega
  clear ih hk hu ha hb hm hwk hwu hblk hblk' hrun hv
  cases v
  · go_enter Tryz.func96, Tryz.ntmps96
    go_wp2_with fail
    go_region
    go_wp2_with (at_lookup; refine wpList_lookup_eq _ rfl _ _ _ rfl _ _ rfl rfl HR.out ?_)
    clear HR HV
    go_loopw [43] (fun i wr => ∃ k : Nat, k ≤ n ∧ i = .int .i64 k ∧ Hid (AllTo ks us (d + 1) k) ∧ Hid (Pairs wr m) ∧ wr.cell? ⟨w.heap.size, 0, none⟩ = some (.pointer (some ⟨b, o, none⟩)) ∧ wr.cell? ⟨w.heap.size, 1, none⟩ = some (.pointer (some ⟨b', o', none⟩)) ∧ wr.cell? ⟨w.heap.size, 2, none⟩ = some (.int .i64 n) ∧ wr.cell? ⟨w.heap.size, 3, none⟩ = some (.int .i64 ((d : Int) + 1)) ∧ Hid (Gm m w wr)) (fun i _ => n - (intOf i).toNat)
    case atStart => exact ⟨0, Nat.zero_le _, rfl, (fun i t u hi => by omega), HM.out.below (below1 _ _).drew, by go_simp, by go_simp, by go_simp, by go_simp, Gm.of_below (below1 _ _).drew⟩
    case round =>
      obtain ⟨k, hk, rfl, hno, hpr, p0, p1, p2, p3, hgm⟩ := hrel
      by_cases hlt : k < n
      · have hkp := hgm.out.kp HM.out
        obtain ⟨b1, o1, t, A1, B1, ca1, cb1, e9, hb1, htk, hc⟩ := (HA.out.keep hkp).at_ (k := k) (by rw [HK.out]; exact hlt)
        obtain ⟨rfl, rfl⟩ : b = b1 ∧ o = o1 := by cases e9; exact ⟨rfl, rfl⟩
        obtain ⟨b2, o2, u, A2, B2, ca2, cb2, e8, hb2, huk, hd⟩ := (HBB.out.keep hkp).at_ (k := k) (by rw [HU.out]; exact hlt)
        obtain ⟨rfl, rfl⟩ : b' = b2 ∧ o' = o2 := by cases e8; exact ⟨rfl, rfl⟩
        have hz1 : b < wr.heap.size := hb1.lt
        have hz2 : b' < wr.heap.size := hb2.lt
        clear e9 e8 hkp hb1 hb2
        obtain ⟨q1, q2, q3, _, _⟩ := Ty.len_le (HWK.out k t htk)
        obtain ⟨r1, r2, r3, _, _⟩ := Ty.len_le (HWU.out k u huk)
        have CL : ∀ W : World, Strs W 0 t.labels A1 → Strs W 0 u.labels A2 → Calls Tryz.prog 100 #[.slice A1 t.labels.length ca1, .slice A2 u.labels.length ca2] W (SaysD (t.labels = u.labels) W) := fun W h1 h2 => sliEqual_any t.labels u.labels q1 r1 A1 A2 ca1 ca2 0 0 W h1 h2
        have CS := Lib.hid (fun W h1 h2 h3 => IH.out t.kids u.kids q2 r2 q3 r3 B1 B2 cb1 cb2 m W h1 h2 h3)
        have HS1 := Lib.hid hc.tree.strs
        have HS2 := Lib.hid hd.tree.strs
        have HR1 := Lib.hid hc.tree.rowP
        have HR2 := Lib.hid hd.tree.rowP
        obtain ⟨c0, c1, c2, c3, _⟩ := hc
        obtain ⟨d0, d1, d2, d3, _⟩ := hd
        have HT := Lib.hid htk
        have HUU := Lib.hid huk
        have hli : (k : Int) < (n : Int) := by omega
        clear htk huk q3 r3
        by_cases hki : ¬ t.kind = u.kind
        · have x1 : (t.kind == u.kind) = false := by rw [beq_eq_false_iff_ne]; exact hki
          have x1' : (t.kind != u.kind) = true := by rw [bne_iff_ne]; exact hki
          have HNO : Hid (¬ (t = u ∧ t.depth ≤ d + 1)) := Lib.hid (fun h => hki (same_iff.mp h).1)
          clear hki CL CS
          go_wp2_with fail
          go_ret
          exact ⟨false, rfl, iffF (fun h => HNO.out (h.at_ HT.out HUU.out)), hpr.out.below (below2 _ _ _), hgm.out.trans (Gm.of_below (below2 _ _ _))⟩
        replace hki := Classical.not_not.mp hki
        have x1 : (t.kind == u.kind) = true := by rw [beq_iff_eq]; exact hki
        have x1' : (t.kind != u.kind) = false := by rw [bne_eq_false_iff_eq]; exact hki
        have HKI := Lib.hid hki
        clear hki
        by_cases hna : ¬ t.name = u.name
        · have x2 := text_ne hna
          have HNO : Hid (¬ (t = u ∧ t.depth ≤ d + 1)) := Lib.hid (fun h => hna (same_iff.mp h).2.1)
          clear hna CL CS
          go_wp2_with fail
          go_ret
          exact ⟨false, rfl, iffF (fun h => HNO.out (h.at_ HT.out HUU.out)), hpr.out.below (below2 _ _ _), hgm.out.trans (Gm.of_below (below2 _ _ _))⟩
        replace hna := Classical.not_not.mp hna
        have x2 : (t.name.toList == u.name.toList) = true := by rw [hna, beq_iff_eq]
        have HNA := Lib.hid hna
        clear hna
        by_cases hla : ¬ t.labels = u.labels
        · have CL' := Lib.hid (fun W h1 h2 => (CL W h1 h2).mono fun e w' (k : SaysD _ W e w') => (show e = .returned (.bool false) ∧ ∃ n, w' = W.drewN n by
            obtain ⟨v, rfl, hv, hn⟩ := k
            refine ⟨?_, hn⟩
            cases v
            · rfl
            · exact absurd (hv.mp rfl) hla))
          have HNO : Hid (¬ (t = u ∧ t.depth ≤ d + 1)) := Lib.hid (fun h => hla (same_iff.mp h).2.2.1)
          clear hla CL CS
          go_wp2_with (go_at_call 100; refine (CL'.out _ (HS1.out.below (below2 _ _ _)) (HS2.out.below (below2 _ _ _))).mono ?_; rintro e w2 ⟨rfl, n2, rfl⟩)
          go_ret
          exact ⟨false, rfl, iffF (fun h => HNO.out (h.at_ HT.out HUU.out)), hpr.out.below (belowN (below2 _ _ _) n2), hgm.out.trans (Gm.of_below (belowN (below2 _ _ _) n2))⟩
        replace hla := Classical.not_not.mp hla
        have CL' := Lib.hid (fun W h1 h2 => (CL W h1 h2).mono fun e w' (k : SaysD _ W e w') => (show e = .returned (.bool true) ∧ ∃ n, w' = W.drewN n by
          obtain ⟨v, rfl, hv, hn⟩ := k
          rw [hv.mpr hla]
          exact ⟨rfl, hn⟩))
        have HLA := Lib.hid hla
        clear hla CL
        by_cases hsa : SameAll t.kids u.kids d
        · have CS' := Lib.hid (fun W h1 h2 h3 => (CS.out W h1 h2 h3).mono fun _ _ j => j.yes hsa)
          have HYES : Hid (t = u ∧ t.depth ≤ d + 1) := Lib.hid (same_iff.mpr ⟨HKI.out, HNA.out, HLA.out, hsa⟩)
          clear hsa CS
          go_wp2_with (go_at_call 100; refine (CL'.out _ (HS1.out.below (below2 _ _ _)) (HS2.out.below (below2 _ _ _))).mono ?_; rintro e w2 ⟨rfl, n2, rfl⟩)
          go_at_call 96
          refine (CS'.out _ (HR1.out.keep (Kp.below (belowN (below2 _ _ _) n2))) (HR2.out.keep (Kp.below (belowN (below2 _ _ _) n2))) (hpr.out.below (belowN (below2 _ _ _) n2))).mono ?_
          rintro e w3 ⟨rfl, hp3, hg3⟩
          have hk3 := hg3.kp (hpr.out.below (belowN (below2 _ _ _) n2))
          replace p0 := hk3.cell (keepCell (belowN (below2 _ _ _) n2) p0)
          replace p1 := hk3.cell (keepCell (belowN (below2 _ _ _) n2) p1)
          replace p2 := hk3.cell (keepCell (belowN (below2 _ _ _) n2) p2)
          replace p3 := hk3.cell (keepCell (belowN (below2 _ _ _) n2) p3)
          have HP3 := Lib.hid hp3
          have HG3 := Lib.hid (hgm.out.trans ((Gm.of_below (belowN (below2 _ _ _) n2)).trans hg3))
          clear hp3 hg3 hk3 CL' CS'
          go_wp2_with fail
          go_roundw
          case rel => exact ⟨k + 1, by omega, by go_num, hno.out.step HT.out HUU.out HYES.out, HP3.out, p0, p1, p2, p3, HG3.out⟩
          case measure => simp [intOf]; omega
        · have CS' := Lib.hid (fun W h1 h2 h3 => (CS.out W h1 h2 h3).mono fun _ _ j => j.no hsa)
          have HNO : Hid (¬ (t = u ∧ t.depth ≤ d + 1)) := Lib.hid (fun h => hsa (same_iff.mp h).2.2.2)
          clear hsa CS
          go_wp2_with (go_at_call 100; refine (CL'.out _ (HS1.out.below (below2 _ _ _)) (HS2.out.below (below2 _ _ _))).mono ?_; rintro e w2 ⟨rfl, n2, rfl⟩)
          go_at_call 96
          refine (CS'.out _ (HR1.out.keep (Kp.below (belowN (below2 _ _ _) n2))) (HR2.out.keep (Kp.below (belowN (below2 _ _ _) n2))) (hpr.out.below (belowN (below2 _ _ _) n2))).mono ?_
          rintro e w3 ⟨rfl, hp3, hg3⟩
          have HP3 := Lib.hid hp3
          have HG3 := Lib.hid (hgm.out.trans ((Gm.of_below (belowN (below2 _ _ _) n2)).trans hg3))
          clear hp3 hg3 CL' CS'
          go_wp2_with fail
          go_ret
          exact ⟨false, rfl, iffF (fun h => HNO.out (h.at_ HT.out HUU.out)), HP3.out, HG3.out⟩
      · have hkn : k = n := by omega
        have h9 := hno.out
        rw [hkn, ← HK.out] at h9
        have HALL := Lib.hid (AllTo.all (by rw [HK.out, HU.out]) h9)
        have hkp := hgm.out.kp HM.out
        have HGOOD : Hid (Good wr ⟨b, o, none⟩ ⟨b', o', none⟩ n ((d : Int) + 1)) := Lib.hid ⟨ks, us, d + 1, by rw [HK.out], by omega, by rw [HK.out]; exact hn, by rw [HK.out, HU.out], HA.out.keep hkp, HBB.out.keep hkp, HALL.out⟩
        clear h9 hkp hkn
        go_wp2_with (at_mapUpdate; refine wpList_pairs_update _ rfl _ _ _ rfl m rfl hpr.out ⟨b, o, none⟩ ⟨b', o', none⟩ n ((d : Int) + 1) rfl rfl HGOOD.out ?_; intro w4 hp4 hg4)
        have HP4 := Lib.hid hp4
        have HG4 := Lib.hid hg4
        clear hp4 hg4
        go_ret
        exact ⟨true, rfl, iffT HALL.out, HP4.out, hgm.out.trans HG4.out⟩
  · go_enter Tryz.func96, Tryz.ntmps96
    go_wp2_with fail
    go_region
    go_wp2_with (at_lookup; refine wpList_lookup_eq _ rfl _ _ _ rfl _ _ rfl rfl HR.out ?_)
    go_ret
    refine ⟨true, rfl, iffT ?_, HM.out.below (below1 _ _).drew, Gm.of_below (below1 _ _).drew⟩
    obtain ⟨ks', us', d', h1, h2, h3, h4, h5, h6, h7⟩ := HV.out trivial
    have g1 := h5.uniq (HA.out.keep (Kp.below (below1 _ _).drew)) (by have := HK.out; omega)
    have g2 := h6.uniq (HBB.out.keep (Kp.below (below1 _ _).drew)) (by have := HU.out; omega)
    obtain rfl : d' = d + 1 := by omega
    rw [g1, g2] at h7
    exact h7

theorem sameTypes_any : ∀ (d : Nat), d ≤ 100 → SameTs d
  | 0, _ => fun ks us hk hu hwk hwu A B ca cb m w ha hb hm => by
    by_cases hl : ks.length = us.length
    · by_cases h0 : 0 < ks.length
      · have h := sameTypes_zero ks.length ks us h0 rfl hl.symm A B ca cb m w hm
        rw [hl] at h
        rw [hl]
        exact h
      · have h1 : ks = [] := List.eq_nil_of_length_eq_zero (by omega)
        have h2 : us = [] := List.eq_nil_of_length_eq_zero (by omega)
        subst h1 h2
        exact sameTypes_nil 0 A B ca cb m w hm
    · exact sameTypes_len 0 ks us A B ca cb m w hm hl
  | d + 1, hd => fun ks us hk hu hwk hwu A B ca cb m w ha hb hm => by
    by_cases hl : ks.length = us.length
    · by_cases h0 : 0 < ks.length
      · have h := sameTypes_some d (by omega) (sameTypes_any d (by omega)) ks.length h0 ks us rfl hl.symm hk hwk hwu A B ca cb m w ha hb hm
        rw [← hl]
        exact h
      · have h1 : ks = [] := List.eq_nil_of_length_eq_zero (by omega)
        have h2 : us = [] := List.eq_nil_of_length_eq_zero (by omega)
        subst h1 h2
        exact sameTypes_nil (d + 1) A B ca cb m w hm
    · exact sameTypes_len (d + 1) ks us A B ca cb m w hm hl
end Go.Proofs.YtifchfecfkdjlaaGreatDoor
