/-
  What a valid function type is; the walk of the model's l03Func and FuncOk.
-/
import Derived.Test.YtifchfecfkdjlaaGreatDoorStWFn
import Derived.Test.YtifchfecfkdjlaaGreatDoorMK
namespace Go.Proofs.YtifchfecfkdjlaaGreatDoor
open Go.ChangeShapes Go.WideShapes Go.ChangeAt Go.RowKit Go.Deep

def pmNames (ps : List Pm) : List ByteArray := ps.map Pm.name
theorem pmNames_get {ps : List Pm} {k : Nat} {p : Pm} (h : ps[k]? = some p) : (pmNames ps)[k]? = some p.name := by simp [pmNames, h]
def PmOk (p : Pm) : Prop := p.ty.Ok ∧ p.ty.kind ≠ 1
def PmTo (ps : List Pm) (n : Nat) : Prop := ∀ (i : Nat) (p : Pm), i < n → ps[i]? = some p → PmOk p
theorem PmTo.step {ps : List Pm} {k : Nat} {p : Pm} (h : PmTo ps k) (hp : ps[k]? = some p) (hk : PmOk p) : PmTo ps (k + 1) := fun i q hi hq => by
  by_cases e : i = k
  · subst e
    rw [hp] at hq
    cases hq
    exact hk
  · exact h i q (by omega) hq
/-- A valid function type. -/
def Fn.Ok (x : Fn) : Prop := x.params.length ≤ 6 ∧ x.res.Ok ∧ x.res.has (inB 21 21) = false ∧ PmTo x.params x.params.length ∧ Names (pmNames x.params)

theorem Fn.Ok.pm {x : Fn} (h : Fn.Ok x) {k : Nat} {p : Pm} (hp : x.params[k]? = some p) : nmB p.name = true ∧ NotAmong (pmNames x.params) k p.name ∧ PmOk p := by
  have hk := (List.getElem?_eq_some_iff.1 hp).1
  have h1 := h.2.2.2.2 k p.name (by simpa [pmNames] using hk) (pmNames_get hp)
  exact ⟨h1.1, h1.2, h.2.2.2.1 k p hk hp⟩

set_option maxHeartbeats 2000000 in
set_option maxRecDepth 100000 in
theorem l03Func_any (x : Fn) (hT : x.wt ≤ 1048576) (R A B : Option Addr) (c ca cb lo : Nat) (w : World) (hat : Fn.At w lo x R A B) :
    Calls Tryz.prog 53 #[.agg #[.slice R x.params.length c, .int .i64 x.res.kind, .string x.res.name, .slice A x.res.labels.length ca, .slice B x.res.kids.length cb, .bool x.async]] w (SaysB (Fn.Ok x) w) := by
  obtain ⟨q1, q2, _⟩ := Fn.parts_le hT
  obtain ⟨h1, h2⟩ := hat
  have HP := Lib.hid h1
  have HR := Lib.hid h2
  have CO := fun W h => l03Ok_any x.res q2 A B ca cb lo W h
  have CH := Lib.hid (fun W h => l03Has_any 21 21 x.res q2 A B ca cb lo W h)
  have hpw : ∀ (i : Nat) (p : Pm), x.params[i]? = some p → p.ty.wt ≤ 1048576 ∧ p.name.size ≤ 1048576 := fun i p hp => by
    have e1 := Pm.wt_mem hp
    obtain ⟨e2, e3, _⟩ := Pm.parts_le (x := p) (by omega)
    exact ⟨e3, by omega⟩
  have CN : Hid (∀ (i : Nat) (p : Pm), x.params[i]? = some p → ∀ W, Calls Tryz.prog 79 #[.string p.name] W fun e w' => e = .returned (.bool (nmB p.name)) ∧ W = w') := Lib.hid (fun i p hp W => nmB_spec p.name (hpw i p hp).2 W)
  have CT : Hid (∀ (i : Nat) (p : Pm), x.params[i]? = some p → ∀ A B ca cb W, Ty.At W lo p.ty A B → Calls Tryz.prog 40 #[.agg #[.int .i64 p.ty.kind, .string p.ty.name, .slice A p.ty.labels.length ca, .slice B p.ty.kids.length cb]] W (SaysB p.ty.Ok W)) := Lib.hid (fun i p hp A B ca cb W h => l03Ok_any p.ty (hpw i p hp).1 A B ca cb lo W h)
  clear h1 h2 hT hpw
  by_cases hlen : 6 < x.params.length
  · have hlen' : (6 : Int) < (x.params.length : Int) := by omega
    clear CO
    go_enter Tryz.func53, Tryz.ntmps53
    go_wp2_with fail
    go_ret
    exact ⟨false, rfl, iffF (fun h => by have := h.1; omega), below1 _ _⟩
  have hlen' : ¬ (6 : Int) < (x.params.length : Int) := by omega
  by_cases ho : x.res.Ok
  · have CO' := Lib.hid (fun W h => (CO W h).mono fun _ _ k => k.yes ho)
    have HO := Lib.hid ho
    clear ho CO
    cases hb : x.res.has (inB 21 21) with
    | true =>
      rw [hb] at CH
      have HB0 := Lib.hid hb
      clear hb
      go_enter Tryz.func53, Tryz.ntmps53
      go_wp2_with fail
      go_at_call 40
      refine (CO'.out _ (HR.out.below (below1 _ _)).1).mono ?_
      rintro e w2 ⟨rfl, hb2⟩
      have k1 := keepCell (a := ⟨w.heap.size, 1, none⟩) (v := .int .i64 x.res.kind) hb2 (by go_simp)
      have k2 := keepCell (a := ⟨w.heap.size, 2, none⟩) (v := .string x.res.name) hb2 (by go_simp)
      have k3 := keepCell (a := ⟨w.heap.size, 3, none⟩) (v := .slice A x.res.labels.length ca) hb2 (by go_simp)
      have k4 := keepCell (a := ⟨w.heap.size, 4, none⟩) (v := .slice B x.res.kids.length cb) hb2 (by go_simp)
      have HB2 := Lib.hid (bnext (below1 _ _) hb2)
      clear hb2
      go_wp2_with fail
      go_at_call 78
      refine (CH.out _ (HR.out.below HB2.out).1).mono ?_
      rintro e w3 ⟨rfl, hb3⟩
      have HB3 := Lib.hid (bnext HB2.out hb3)
      clear hb3
      go_wp2_with fail
      go_ret
      exact ⟨false, rfl, iffF (fun h => by have h9 := h.2.2.1; rw [HB0.out] at h9; cases h9), HB3.out⟩
    | false =>
      rw [hb] at CH
      have HB0 := Lib.hid hb
      clear hb
      go_enter Tryz.func53, Tryz.ntmps53
      go_wp2_with fail
      go_at_call 40
      refine (CO'.out _ (HR.out.below (below1 _ _)).1).mono ?_
      rintro e w2 ⟨rfl, hb2⟩
      have k0 := keepCell (a := ⟨w.heap.size, 0, none⟩) (v := .slice R x.params.length c) hb2 (by go_simp)
      have k1 := keepCell (a := ⟨w.heap.size, 1, none⟩) (v := .int .i64 x.res.kind) hb2 (by go_simp)
      have k2 := keepCell (a := ⟨w.heap.size, 2, none⟩) (v := .string x.res.name) hb2 (by go_simp)
      have k3 := keepCell (a := ⟨w.heap.size, 3, none⟩) (v := .slice A x.res.labels.length ca) hb2 (by go_simp)
      have k4 := keepCell (a := ⟨w.heap.size, 4, none⟩) (v := .slice B x.res.kids.length cb) hb2 (by go_simp)
      have HB2 := Lib.hid (bnext (below1 _ _) hb2)
      clear hb2
      go_wp2_with fail
      go_at_call 78
      refine (CH.out _ (HR.out.below HB2.out).1).mono ?_
      rintro e w3 ⟨rfl, hb3⟩
      replace k0 := keepCell hb3 k0
      have HB3 := Lib.hid (bnext HB2.out hb3)
      clear hb3 k1 k2 k3 k4 CH CO'
      go_wp2_with fail
      go_loopw [3] (fun i wr => ∃ k : Nat, k ≤ x.params.length ∧ i = .int .i64 k ∧ Hid (PmTo x.params k ∧ NamesTo (pmNames x.params) k) ∧ wr.cell? ⟨w.heap.size, 0, none⟩ = some (.slice R x.params.length c) ∧ Below w.heap.size w wr) (fun i _ => x.params.length - (intOf i).toNat)
      case atStart => exact ⟨0, Nat.zero_le _, rfl, ⟨(fun i u hi => by omega), (fun i u hi => by omega)⟩, k0, HB3.out⟩
      case round =>
        obtain ⟨k, hk, rfl, hno, hbox, hbel⟩ := hrel
        clear k0
        by_cases hlt : k < x.params.length
        · obtain ⟨b, o, p, A', B', ca', cb', rfl, _, hpk, hc⟩ := (HP.out.below hbel).at_ hlt
          have CN' := Lib.hid (CN.out k p hpk)
          have CT' := CT.out k p hpk A' B' ca' cb'
          have HTR := Lib.hid hc.at_
          have HPK := Lib.hid hpk
          obtain ⟨c0, c1, c2, c3, c4, _⟩ := hc
          have lb : b < wr.heap.size := World.block_lt_of_cell? wr _ c0
          have HB := Lib.hid hbel
          have hli : (k : Int) < (x.params.length : Int) := by omega
          clear hpk hbel
          cases hn : nmB p.name with
          | false =>
            rw [hn] at CN'
            have HN := Lib.hid hn
            clear hn CT'
            go_wp2_with fail
            go_at_call 79
            refine (CN'.out _).mono ?_
            rintro e w4 ⟨rfl, rfl⟩
            go_wp2_with fail
            go_ret
            exact ⟨false, rfl, iffF (fun h => by have h9 := (h.pm HPK.out).1; rw [HN.out] at h9; cases h9), bnext HB.out (below1 _ _)⟩
          | true =>
            rw [hn] at CN'
            have HN := Lib.hid hn
            clear hn
            by_cases hto : p.ty.Ok
            · have CT2 := Lib.hid (fun W h => (CT' W h).mono fun _ _ k => k.yes hto)
              have HTO := Lib.hid hto
              clear hto CT'
              by_cases hu : p.ty.kind = 1
              · have HU := Lib.hid hu
                have eu : (p.ty.kind == 1) = true := by rw [beq_iff_eq]; exact hu
                clear hu
                go_wp2_with fail
                go_at_call 79
                refine (CN'.out _).mono ?_
                rintro e w4 ⟨rfl, rfl⟩
                go_wp2_with fail
                go_at_call 40
                refine (CT2.out _ (HTR.out.below (below1 _ _)).1).mono ?_
                rintro e w5 ⟨rfl, hb5⟩
                have j1 := keepCell (a := ⟨wr.heap.size, 1, none⟩) (v := .int .i64 p.ty.kind) hb5 (by go_simp)
                have HB5 := Lib.hid (bnext (below1 _ _) hb5)
                clear hb5
                go_wp2_with fail
                go_ret
                exact ⟨false, rfl, iffF (fun h => (h.pm HPK.out).2.2.2 HU.out), bnext HB.out HB5.out⟩
              · have HU := Lib.hid hu
                have eu : (p.ty.kind == 1) = false := by rw [beq_eq_false_iff_ne]; exact hu
                clear hu
                go_wp2_with fail
                go_at_call 79
                refine (CN'.out _).mono ?_
                rintro e w4 ⟨rfl, rfl⟩
                go_wp2_with fail
                go_at_call 40
                refine (CT2.out _ (HTR.out.below (below1 _ _)).1).mono ?_
                rintro e w5 ⟨rfl, hb5⟩
                have j0 := keepCell (a := ⟨wr.heap.size, 0, none⟩) (v := .string p.name) hb5 (by go_simp)
                have j1 := keepCell (a := ⟨wr.heap.size, 1, none⟩) (v := .int .i64 p.ty.kind) hb5 (by go_simp)
                have jb := keepCell (bnext (below1 _ _) hb5) hbox
                have HB5 := Lib.hid (bnext (below1 _ _) hb5)
                clear hb5
                go_wp2_with fail
                go_loopw [5] (fun i2 wx => ∃ m : Nat, m ≤ k ∧ i2 = .int .i64 m ∧ Hid (NotAmong (pmNames x.params) m p.name) ∧ wx.cell? ⟨w.heap.size, 0, none⟩ = some (.slice (some ⟨b, o, none⟩) x.params.length c) ∧ wx.cell? ⟨wr.heap.size, 0, none⟩ = some (.string p.name) ∧ Below wr.heap.size wr wx) (fun i2 _ => k - (intOf i2).toNat)
                case atStart => exact ⟨0, Nat.zero_le _, rfl, (fun i u hi => by omega), jb, j0, HB5.out⟩
                case round =>
                  obtain ⟨m, hm, rfl, hna, hbx, hpx, hbel2⟩ := hrel
                  clear j0 j1 jb
                  by_cases hlt2 : m < k
                  · obtain ⟨b2, o2, q, A2, B2, ca2, cb2, eA, _, hqk, hcq⟩ := ((HP.out.below HB.out).below hbel2).at_ (k := m) (by omega)
                    obtain ⟨rfl, rfl⟩ : b = b2 ∧ o = o2 := by
                      injection eA with e1
                      injection e1 with e2 e3
                      exact ⟨e2, e3⟩
                    have HQ := Lib.hid (pmNames_get hqk)
                    obtain ⟨d0, d1, d2, d3, d4, _⟩ := hcq
                    have HX := Lib.hid hbel2
                    have hli2 : (m : Int) < (x.params.length : Int) := by omega
                    clear hqk hbel2 eA
                    by_cases heq : q.name = p.name
                    · have HE := Lib.hid heq
                      have e2 : (q.name.toList == p.name.toList) = true := by rw [heq, beq_iff_eq]
                      clear heq
                      go_wp2_with fail
                      go_quiet (fail)
                      go_wp2_with fail
                      go_ret
                      exact ⟨false, rfl, iffF (fun h => (h.pm HPK.out).2.1 m q.name hlt2 HQ.out HE.out), bnext HB.out (belowN HX.out _)⟩
                    · have HE := Lib.hid heq
                      have e2 := text_ne heq
                      clear heq
                      go_wp2_with fail
                      go_quiet (fail)
                      go_wp2_with fail
                      go_roundw
                      case rel => exact ⟨m + 1, by omega, by go_num, hna.out.step HQ.out HE.out, hbx, hpx, belowN HX.out _⟩
                      case measure => simp [intOf]; omega
                  · have hm' : m = k := by omega
                    have HX := Lib.hid hbel2
                    clear hbel2
                    go_wp2_with fail
                    go_roundw
                    case rel => exact ⟨k + 1, by omega, by go_num, ⟨hno.out.1.step HPK.out ⟨HTO.out, HU.out⟩, NamesTo.step hno.out.2 (pmNames_get HPK.out) HN.out (by rw [← hm']; exact hna.out)⟩, hbx, bnext HB.out HX.out⟩
                    case measure => simp [intOf]; omega
            · have CT2 := Lib.hid (fun W h => (CT' W h).mono fun _ _ k => k.no hto)
              have HTO := Lib.hid hto
              clear hto CT'
              go_wp2_with fail
              go_at_call 79
              refine (CN'.out _).mono ?_
              rintro e w4 ⟨rfl, rfl⟩
              go_wp2_with fail
              go_at_call 40
              refine (CT2.out _ (HTR.out.below (below1 _ _)).1).mono ?_
              rintro e w5 ⟨rfl, hb5⟩
              have HB5 := Lib.hid (bnext (below1 _ _) hb5)
              clear hb5
              go_wp2_with fail
              go_ret
              exact ⟨false, rfl, iffF (fun h => HTO.out (h.pm HPK.out).2.2.1), bnext HB.out HB5.out⟩
        · have hk' : k = x.params.length := by omega
          have HB := Lib.hid hbel
          clear hbel
          go_wp2
          go_ret
          have h9 := hno.out
          rw [hk'] at h9
          have h8 : x.params.length = (pmNames x.params).length := by simp [pmNames]
          exact ⟨true, rfl, iffT ⟨by omega, HO.out, HB0.out, h9.1, by unfold Names; rw [← h8]; exact h9.2⟩, HB.out⟩
  · have CO' := Lib.hid (fun W h => (CO W h).mono fun _ _ k => k.no ho)
    have HO := Lib.hid ho
    clear ho CO
    go_enter Tryz.func53, Tryz.ntmps53
    go_wp2_with fail
    go_at_call 40
    refine (CO'.out _ (HR.out.below (below1 _ _)).1).mono ?_
    rintro e w2 ⟨rfl, hb2⟩
    have HB2 := Lib.hid (bnext (below1 _ _) hb2)
    clear hb2
    go_wp2_with fail
    go_ret
    exact ⟨false, rfl, iffF (fun h => HO.out h.2.1), HB2.out⟩
end Go.Proofs.YtifchfecfkdjlaaGreatDoor
