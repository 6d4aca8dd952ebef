/-
  Func: when two are alike; the program's walks of comparing two, and two lists.
-/
import Derived.Test.YtfadodmkppeodaaSameFn
import Derived.Test.YtfadodmkppeodaaStWSFc
namespace Go.Proofs.Ytfadodmkppeodaa
open Go.ChangeShapes Go.WideShapes Go.ChangeAt Go.RowKit Go.Deep

def SameFc (p q : Fc) : Prop := p.name = q.name ∧ SameFn p.type q.type
def SameFcs (xs ys : List Fc) : Prop := xs.length = ys.length ∧ ∀ (i : Nat) (p q : Fc), xs[i]? = some p → ys[i]? = some q → SameFc p q
def SameFcTo (xs ys : List Fc) (k : Nat) : Prop := ∀ (i : Nat) (p q : Fc), i < k → xs[i]? = some p → ys[i]? = some q → SameFc p q
theorem SameFcTo.step {xs ys : List Fc} {k : Nat} {p q : Fc} (h : SameFcTo xs ys k) (hp : xs[k]? = some p) (hq : ys[k]? = some q) (e : SameFc p q) : SameFcTo xs ys (k + 1) := fun i x y hi hx hy => by
  by_cases e2 : i = k
  · subst e2
    rw [hp] at hx
    rw [hq] at hy
    cases hx
    cases hy
    exact e
  · exact h i x y (by omega) hx hy
theorem SameFcTo.all {xs ys : List Fc} (hl : xs.length = ys.length) (h : SameFcTo xs ys xs.length) : SameFcs xs ys := ⟨hl, fun i p q hp hq => h i p q (List.getElem?_eq_some_iff.1 hp).1 hp hq⟩

theorem sameFcI_any (p q : Fc) (hp : p.wt ≤ 1048576) (hq : q.wt ≤ 1048576) (Rtypeparams : Option Addr) (ctypeparams : Nat) (Atyperes : Option Addr) (Btyperes : Option Addr) (ctyperes : Nat) (dtyperes : Nat) (Rtypeparams' : Option Addr) (ctypeparams' : Nat) (Atyperes' : Option Addr) (Btyperes' : Option Addr) (ctyperes' : Nat) (dtyperes' : Nat) (lo lo' : Nat) (h0 : 0 < lo) (h0' : 0 < lo') (w : World) (h : Fc.At w lo p Rtypeparams Atyperes Btyperes) (h' : Fc.At w lo' q Rtypeparams' Atyperes' Btyperes') :
    Calls Try.prog 73 #[.agg #[.string p.name, .slice Rtypeparams p.type.params.length ctypeparams, .int .i64 p.type.res.kind, .string p.type.res.name, .slice Atyperes p.type.res.labels.length ctyperes, .slice Btyperes p.type.res.kids.length dtyperes, .bool p.type.async], .agg #[.string q.name, .slice Rtypeparams' q.type.params.length ctypeparams', .int .i64 q.type.res.kind, .string q.type.res.name, .slice Atyperes' q.type.res.labels.length ctyperes', .slice Btyperes' q.type.res.kids.length dtyperes', .bool q.type.async]] w (SaysB (SameFc p q) w) := by
  have C := Lib.hid (fun W (x : Fc.At W lo p Rtypeparams Atyperes Btyperes) (y : Fc.At W lo' q Rtypeparams' Atyperes' Btyperes') => implSameFunc_any p.type q.type (by unfold Fc.wt at hp; omega) (by unfold Fc.wt at hq; omega) Rtypeparams ctypeparams Atyperes Btyperes ctyperes dtyperes Rtypeparams' ctypeparams' Atyperes' Btyperes' ctyperes' dtyperes' lo lo' h0 h0' W x y)
  have H := Lib.hid h
  have H' := Lib.hid h'
  clear h h' hp hq
  by_cases hn : p.name = q.name
  · have e2 : (p.name.toList == q.name.toList) = true := by rw [hn, beq_iff_eq]
    have HN := Lib.hid hn
    clear hn
    go_enter Try.func73, Try.ntmps73
    go_wp2_with fail
    go_at_call 31
    refine (C.out _ (H.out.below (below2 _ _ _)) (H'.out.below (below2 _ _ _))).mono ?_
    rintro e w2 ⟨v, rfl, hv, hb⟩
    have HV := Lib.hid hv
    have HB := Lib.hid (bnext (below2 _ _ _) hb)
    clear hv hb C
    go_wp2_with fail
    go_ret
    exact ⟨v, rfl, ⟨fun j => ⟨HN.out, HV.out.mp j⟩, fun j => HV.out.mpr j.2⟩, HB.out⟩
  · have e2 := text_ne hn
    have HN := Lib.hid hn
    clear hn C
    go_enter Try.func73, Try.ntmps73
    go_wp2_with fail
    go_ret
    exact ⟨false, rfl, iffF (fun j => HN.out j.1), below2 _ _ _⟩

set_option maxHeartbeats 1000000 in
theorem eqfFc_any (xs ys : List Fc) (hx : xs.length ≤ 1048576) (hwx : ∀ (i : Nat) (p : Fc), xs[i]? = some p → p.wt ≤ 1048576) (hwy : ∀ (i : Nat) (p : Fc), ys[i]? = some p → p.wt ≤ 1048576) (A B : Option Addr) (ca cb lo lo' : Nat) (h0 : 0 < lo) (h0' : 0 < lo') (w : World) (h : Fcs w lo xs A) (h' : Fcs w lo' ys B) :
    Calls Try.prog 72 #[.slice A xs.length ca, .slice B ys.length cb, .func (.func 73) #[] #[]] w (SaysB (SameFcs xs ys) w) := by
  have H := Lib.hid h
  have H' := Lib.hid h'
  have HWX := Lib.hid hwx
  have HWY := Lib.hid hwy
  clear h h' hwx hwy
  by_cases hl : xs.length = ys.length
  · rw [← hl]
    have HL := Lib.hid hl
    clear hl
    go_enter Try.func72, Try.ntmps72
    go_wp2_with fail
    go_loopw [17] (fun i wr => ∃ k : Nat, k ≤ xs.length ∧ i = .int .i64 k ∧ Hid (SameFcTo xs ys k) ∧ Below w.heap.size w wr) (fun i _ => xs.length - (intOf i).toNat)
    case atStart => exact ⟨0, Nat.zero_le _, rfl, (fun i p q hi => by omega), Below.refl _ _⟩
    case round =>
      obtain ⟨k, hk, rfl, hno, hbel⟩ := hrel
      by_cases hlt : k < xs.length
      · obtain ⟨b, o, p, Rtypeparams1, ctypeparams1, Atyperes1, Btyperes1, ctyperes1, dtyperes1, rfl, _, hpk, hc⟩ := (H.out.below hbel).at_ hlt
        obtain ⟨b', o', q, Rtypeparams2, ctypeparams2, Atyperes2, Btyperes2, ctyperes2, dtyperes2, rfl, _, hqk, hd⟩ := (H'.out.below hbel).at_ (k := k) (by have := HL.out; omega)
        have CS := (fun W x y => sameFcI_any p q (HWX.out k p hpk) (HWY.out k q hqk) Rtypeparams1 ctypeparams1 Atyperes1 Btyperes1 ctyperes1 dtyperes1 Rtypeparams2 ctypeparams2 Atyperes2 Btyperes2 ctyperes2 dtyperes2 lo lo' h0 h0' W x y)
        have HA1 := Lib.hid hc.at_
        have HA2 := Lib.hid hd.at_
        have hz1 : b < wr.heap.size := World.block_lt_of_cell? wr _ hc.c0_
        have hz2 : b' < wr.heap.size := World.block_lt_of_cell? wr _ hd.c0_
        obtain ⟨c0, c1, c2, c3, c4, c5, c6, _⟩ := hc
        obtain ⟨d0, d1, d2, d3, d4, d5, d6, _⟩ := hd
        have HP := Lib.hid hpk
        have HQ := Lib.hid hqk
        have HB := Lib.hid hbel
        have hli : (k : Int) < (xs.length : Int) := by omega
        clear hpk hqk hbel
        by_cases hs : SameFc p q
        · have C := Lib.hid (fun W x y => (CS W x y).mono fun _ _ j => j.yes hs)
          have HS := Lib.hid hs
          clear hs CS
          go_wp2_with fail
          go_at_call 73
          refine (C.out _ (HA1.out.below (below2 _ _ _)) (HA2.out.below (below2 _ _ _))).mono ?_
          rintro e w2 ⟨rfl, hb2⟩
          have HB2 := Lib.hid (bnext HB.out (bnext (below2 _ _ _) hb2))
          clear hb2
          go_wp2_with fail
          go_roundw
          case rel => exact ⟨k + 1, by omega, by go_num, hno.out.step HP.out HQ.out HS.out, HB2.out⟩
          case measure => simp [intOf]; omega
        · have C := Lib.hid (fun W x y => (CS W x y).mono fun _ _ j => j.no hs)
          have HS := Lib.hid hs
          clear hs CS
          go_wp2_with fail
          go_at_call 73
          refine (C.out _ (HA1.out.below (below2 _ _ _)) (HA2.out.below (below2 _ _ _))).mono ?_
          rintro e w2 ⟨rfl, hb2⟩
          have HB2 := Lib.hid (bnext HB.out (bnext (below2 _ _ _) hb2))
          clear hb2
          go_wp2_with fail
          go_ret
          exact ⟨false, rfl, iffF (fun h => HS.out (h.2 k p q HP.out HQ.out)), HB2.out⟩
      · have hk' : k = xs.length := by omega
        have h9 := hno.out
        rw [hk'] at h9
        have HALL := Lib.hid (SameFcTo.all HL.out h9)
        have HB := Lib.hid hbel
        clear h9 hbel
        go_wp2
        go_ret
        exact ⟨true, rfl, iffT HALL.out, HB.out⟩
  · have hl2 : ((xs.length : Int) == (ys.length : Int)) = false := by rw [beq_eq_false_iff_ne]; omega
    have HL := Lib.hid hl
    clear hl
    go_enter Try.func72, Try.ntmps72
    go_wp2_with fail
    go_ret
    exact ⟨false, rfl, iffF (fun h => HL.out h.1), Below.refl _ _⟩
end Go.Proofs.Ytfadodmkppeodaa
