/-
  Param: when two are alike; the program's walks of comparing two, and two lists.
-/
import Derived.Test.YtfadodmkppeodaaSameT
import Derived.Test.YtfadodmkppeodaaStWSPm
namespace Go.Proofs.Ytfadodmkppeodaa
open Go.ChangeShapes Go.WideShapes Go.ChangeAt Go.RowKit Go.Deep

def SamePm (p q : Pm) : Prop := p.name = q.name ∧ SameOk p.ty q.ty 1
def SamePms (xs ys : List Pm) : Prop := xs.length = ys.length ∧ ∀ (i : Nat) (p q : Pm), xs[i]? = some p → ys[i]? = some q → SamePm p q
def SamePmTo (xs ys : List Pm) (k : Nat) : Prop := ∀ (i : Nat) (p q : Pm), i < k → xs[i]? = some p → ys[i]? = some q → SamePm p q
theorem SamePmTo.step {xs ys : List Pm} {k : Nat} {p q : Pm} (h : SamePmTo xs ys k) (hp : xs[k]? = some p) (hq : ys[k]? = some q) (e : SamePm p q) : SamePmTo xs ys (k + 1) := fun i x y hi hx hy => by
  by_cases e2 : i = k
  · subst e2
    rw [hp] at hx
    rw [hq] at hy
    cases hx
    cases hy
    exact e
  · exact h i x y (by omega) hx hy
theorem SamePmTo.all {xs ys : List Pm} (hl : xs.length = ys.length) (h : SamePmTo xs ys xs.length) : SamePms xs ys := ⟨hl, fun i p q hp hq => h i p q (List.getElem?_eq_some_iff.1 hp).1 hp hq⟩

theorem samePmI_any (p q : Pm) (hp : p.wt ≤ 1048576) (hq : q.wt ≤ 1048576) (Aty : Option Addr) (Bty : Option Addr) (cty : Nat) (dty : Nat) (Aty' : Option Addr) (Bty' : Option Addr) (cty' : Nat) (dty' : Nat) (lo lo' : Nat) (h0 : 0 < lo) (h0' : 0 < lo') (w : World) (h : Pm.At w lo p Aty Bty) (h' : Pm.At w lo' q Aty' Bty') :
    Calls Try.prog 66 #[.agg #[.string p.name, .int .i64 p.ty.kind, .string p.ty.name, .slice Aty p.ty.labels.length cty, .slice Bty p.ty.kids.length dty], .agg #[.string q.name, .int .i64 q.ty.kind, .string q.ty.name, .slice Aty' q.ty.labels.length cty', .slice Bty' q.ty.kids.length dty']] w (SaysB (SamePm p q) w) := by
  have C := Lib.hid (fun W (x : Pm.At W lo p Aty Bty) (y : Pm.At W lo' q Aty' Bty') => implSameType_any p.ty q.ty (by have := p.name.size; unfold Pm.wt at hp; omega) (by unfold Pm.wt at hq; omega) Aty Bty Aty' Bty' cty dty cty' dty' W (Ty.Ao.pl x h0) (Ty.Ao.pl y h0'))
  have H := Lib.hid h
  have H' := Lib.hid h'
  clear h h' hp hq
  by_cases hn : p.name = q.name
  · have e2 : (p.name.toList == q.name.toList) = true := by rw [hn, beq_iff_eq]
    have HN := Lib.hid hn
    clear hn
    go_enter Try.func66, Try.ntmps66
    go_wp2_with fail
    go_at_call 27
    refine (C.out _ (H.out.below (below2 _ _ _)) (H'.out.below (below2 _ _ _))).mono ?_
    rintro e w2 ⟨v, rfl, hv, hb⟩
    have HV := Lib.hid hv
    have HB := Lib.hid (bnext (below2 _ _ _) hb)
    clear hv hb C
    go_wp2_with fail
    go_ret
    exact ⟨v, rfl, ⟨fun j => ⟨HN.out, HV.out.mp j⟩, fun j => HV.out.mpr j.2⟩, HB.out⟩
  · have e2 := text_ne hn
    have HN := Lib.hid hn
    clear hn C
    go_enter Try.func66, Try.ntmps66
    go_wp2_with fail
    go_ret
    exact ⟨false, rfl, iffF (fun j => HN.out j.1), below2 _ _ _⟩

set_option maxHeartbeats 1000000 in
theorem eqfPm_any (xs ys : List Pm) (hx : xs.length ≤ 1048576) (hwx : ∀ (i : Nat) (p : Pm), xs[i]? = some p → p.wt ≤ 1048576) (hwy : ∀ (i : Nat) (p : Pm), ys[i]? = some p → p.wt ≤ 1048576) (A B : Option Addr) (ca cb lo lo' : Nat) (h0 : 0 < lo) (h0' : 0 < lo') (w : World) (h : Pms w lo xs A) (h' : Pms w lo' ys B) :
    Calls Try.prog 65 #[.slice A xs.length ca, .slice B ys.length cb, .func (.func 66) #[] #[]] w (SaysB (SamePms xs ys) w) := by
  have H := Lib.hid h
  have H' := Lib.hid h'
  have HWX := Lib.hid hwx
  have HWY := Lib.hid hwy
  clear h h' hwx hwy
  by_cases hl : xs.length = ys.length
  · rw [← hl]
    have HL := Lib.hid hl
    clear hl
    go_enter Try.func65, Try.ntmps65
    go_wp2_with fail
    go_loopw [17] (fun i wr => ∃ k : Nat, k ≤ xs.length ∧ i = .int .i64 k ∧ Hid (SamePmTo xs ys k) ∧ Below w.heap.size w wr) (fun i _ => xs.length - (intOf i).toNat)
    case atStart => exact ⟨0, Nat.zero_le _, rfl, (fun i p q hi => by omega), Below.refl _ _⟩
    case round =>
      obtain ⟨k, hk, rfl, hno, hbel⟩ := hrel
      by_cases hlt : k < xs.length
      · obtain ⟨b, o, p, Aty1, Bty1, cty1, dty1, rfl, _, hpk, hc⟩ := (H.out.below hbel).at_ hlt
        obtain ⟨b', o', q, Aty2, Bty2, cty2, dty2, rfl, _, hqk, hd⟩ := (H'.out.below hbel).at_ (k := k) (by have := HL.out; omega)
        have CS := (fun W x y => samePmI_any p q (HWX.out k p hpk) (HWY.out k q hqk) Aty1 Bty1 cty1 dty1 Aty2 Bty2 cty2 dty2 lo lo' h0 h0' W x y)
        have HA1 := Lib.hid hc.at_
        have HA2 := Lib.hid hd.at_
        have hz1 : b < wr.heap.size := World.block_lt_of_cell? wr _ hc.c0_
        have hz2 : b' < wr.heap.size := World.block_lt_of_cell? wr _ hd.c0_
        obtain ⟨c0, c1, c2, c3, c4, _⟩ := hc
        obtain ⟨d0, d1, d2, d3, d4, _⟩ := hd
        have HP := Lib.hid hpk
        have HQ := Lib.hid hqk
        have HB := Lib.hid hbel
        have hli : (k : Int) < (xs.length : Int) := by omega
        clear hpk hqk hbel
        by_cases hs : SamePm p q
        · have C := Lib.hid (fun W x y => (CS W x y).mono fun _ _ j => j.yes hs)
          have HS := Lib.hid hs
          clear hs CS
          go_wp2_with fail
          go_at_call 66
          refine (C.out _ (HA1.out.below (below2 _ _ _)) (HA2.out.below (below2 _ _ _))).mono ?_
          rintro e w2 ⟨rfl, hb2⟩
          have HB2 := Lib.hid (bnext HB.out (bnext (below2 _ _ _) hb2))
          clear hb2
          go_wp2_with fail
          go_roundw
          case rel => exact ⟨k + 1, by omega, by go_num, hno.out.step HP.out HQ.out HS.out, HB2.out⟩
          case measure => simp [intOf]; omega
        · have C := Lib.hid (fun W x y => (CS W x y).mono fun _ _ j => j.no hs)
          have HS := Lib.hid hs
          clear hs CS
          go_wp2_with fail
          go_at_call 66
          refine (C.out _ (HA1.out.below (below2 _ _ _)) (HA2.out.below (below2 _ _ _))).mono ?_
          rintro e w2 ⟨rfl, hb2⟩
          have HB2 := Lib.hid (bnext HB.out (bnext (below2 _ _ _) hb2))
          clear hb2
          go_wp2_with fail
          go_ret
          exact ⟨false, rfl, iffF (fun h => HS.out (h.2 k p q HP.out HQ.out)), HB2.out⟩
      · have hk' : k = xs.length := by omega
        have h9 := hno.out
        rw [hk'] at h9
        have HALL := Lib.hid (SamePmTo.all HL.out h9)
        have HB := Lib.hid hbel
        clear h9 hbel
        go_wp2
        go_ret
        exact ⟨true, rfl, iffT HALL.out, HB.out⟩
  · have hl2 : ((xs.length : Int) == (ys.length : Int)) = false := by rw [beq_eq_false_iff_ne]; omega
    have HL := Lib.hid hl
    clear hl
    go_enter Try.func65, Try.ntmps65
    go_wp2_with fail
    go_ret
    exact ⟨false, rfl, iffF (fun h => HL.out h.1), Below.refl _ _⟩
end Go.Proofs.Ytfadodmkppeodaa
