/-
  The walks of comparing two lists of interfaces: the model's l07SameFaces, the program's slices.EqualFunc with SameFace.
-/
import Derived.Test.YtciomjggfeonmaaSameFa
import Derived.Test.YtciomjggfeonmaaStWo
namespace Go.Proofs.Ytciomjggfeonmaa
open Go.ChangeShapes Go.WideShapes Go.ChangeAt Go.RowKit Go.Deep

def SameFas (xs ys : List Fa) : Prop := xs.length = ys.length ∧ ∀ (i : Nat) (p q : Fa), xs[i]? = some p → ys[i]? = some q → SameFa p q
def SameFaTo (xs ys : List Fa) (k : Nat) : Prop := ∀ (i : Nat) (p q : Fa), i < k → xs[i]? = some p → ys[i]? = some q → SameFa p q
theorem SameFaTo.step {xs ys : List Fa} {k : Nat} {p q : Fa} (h : SameFaTo xs ys k) (hp : xs[k]? = some p) (hq : ys[k]? = some q) (e : SameFa p q) : SameFaTo xs ys (k + 1) := fun i x y hi hx hy => by
  by_cases e2 : i = k
  · subst e2
    rw [hp] at hx
    rw [hq] at hy
    cases hx
    cases hy
    exact e
  · exact h i x y (by omega) hx hy
theorem SameFaTo.all {xs ys : List Fa} (hl : xs.length = ys.length) (h : SameFaTo xs ys xs.length) : SameFas xs ys := ⟨hl, fun i p q hp hq => h i p q (List.getElem?_eq_some_iff.1 hp).1 hp hq⟩

set_option maxHeartbeats 2000000 in
set_option maxRecDepth 100000 in
theorem eqfFa_any (xs ys : List Fa) (hx : xs.length ≤ 1048576) (hwx : ∀ (i : Nat) (p : Fa), xs[i]? = some p → p.wt ≤ 1048576) (hwy : ∀ (i : Nat) (p : Fa), ys[i]? = some p → p.wt ≤ 1048576) (A B : Option Addr) (ca cb lo lo' : Nat) (h0 : 0 < lo) (h0' : 0 < lo') (w : World) (h : Fas w lo xs A) (h' : Fas w lo' ys B) :
    Calls Try.prog 37 #[.slice A xs.length ca, .slice B ys.length cb, .func (.func 38) #[] #[]] w (SaysB (SameFas xs ys) w) := by
  have H := Lib.hid h
  have H' := Lib.hid h'
  have HWX := Lib.hid hwx
  have HWY := Lib.hid hwy
  clear h h' hwx hwy
  by_cases hl : xs.length = ys.length
  · rw [← hl]
    have HL := Lib.hid hl
    clear hl
    go_enter Try.func37, Try.ntmps37
    go_wp2_with fail
    go_loopw [17] (fun i wr => ∃ k : Nat, k ≤ xs.length ∧ i = .int .i64 k ∧ Hid (SameFaTo xs ys k) ∧ Below w.heap.size w wr) (fun i _ => xs.length - (intOf i).toNat)
    case atStart => exact ⟨0, Nat.zero_le _, rfl, (fun i p q hi => by omega), Below.refl _ _⟩
    case round =>
      obtain ⟨k, hk, rfl, hno, hbel⟩ := hrel
      by_cases hlt : k < xs.length
      · obtain ⟨b, o, p, Aress1, cress1, Rfuncs1, cfuncs1, rfl, _, hpk, hc⟩ := (H.out.below hbel).at_ hlt
        obtain ⟨b', o', q, Aress2, cress2, Rfuncs2, cfuncs2, rfl, _, hqk, hd⟩ := (H'.out.below hbel).at_ (k := k) (by have := HL.out; omega)
        have CS := (fun W x y => implSameFace_any p q (HWX.out k p hpk) (HWY.out k q hqk) Aress1 cress1 Rfuncs1 cfuncs1 Aress2 cress2 Rfuncs2 cfuncs2 lo lo' h0 h0' W x y)
        have HA1 := Lib.hid hc.at_
        have HA2 := Lib.hid hd.at_
        have hz1 : b < wr.heap.size := World.block_lt_of_cell? wr _ hc.c0_
        have hz2 : b' < wr.heap.size := World.block_lt_of_cell? wr _ hd.c0_
        obtain ⟨c0, c1, c2, c3, c4, _⟩ := hc
        obtain ⟨d0, d1, d2, d3, d4, _⟩ := hd
        have HP := Lib.hid hpk
        have HQ := Lib.hid hqk
        have HB := Lib.hid hbel
        have hli : (k : Int) < (xs.length : Int) := by omega
        clear hpk hqk hbel
        by_cases hs : SameFa p q
        · have C := Lib.hid (fun W x y => (CS W x y).mono fun _ _ j => j.yes hs)
          have HS := Lib.hid hs
          clear hs CS
          go_wp2_with fail
          go_at_call 38
          refine (C.out _ (HA1.out.below (below2 _ _ _)) (HA2.out.below (below2 _ _ _))).mono ?_
          rintro e w2 ⟨rfl, hb2⟩
          have HB2 := Lib.hid (bnext HB.out (bnext (below2 _ _ _) hb2))
          clear hb2
          go_wp2_with fail
          go_roundw
          case rel => exact ⟨k + 1, by omega, by go_num, hno.out.step HP.out HQ.out HS.out, HB2.out⟩
          case measure => simp [intOf]; omega
        · have C := Lib.hid (fun W x y => (CS W x y).mono fun _ _ j => j.no hs)
          have HS := Lib.hid hs
          clear hs CS
          go_wp2_with fail
          go_at_call 38
          refine (C.out _ (HA1.out.below (below2 _ _ _)) (HA2.out.below (below2 _ _ _))).mono ?_
          rintro e w2 ⟨rfl, hb2⟩
          have HB2 := Lib.hid (bnext HB.out (bnext (below2 _ _ _) hb2))
          clear hb2
          go_wp2_with fail
          go_ret
          exact ⟨false, rfl, iffF (fun h => HS.out (h.2 k p q HP.out HQ.out)), HB2.out⟩
      · have hk' : k = xs.length := by omega
        have h9 := hno.out
        rw [hk'] at h9
        have HALL := Lib.hid (SameFaTo.all HL.out h9)
        have HB := Lib.hid hbel
        clear h9 hbel
        go_wp2
        go_ret
        exact ⟨true, rfl, iffT HALL.out, HB.out⟩
  · have hl2 : ((xs.length : Int) == (ys.length : Int)) = false := by rw [beq_eq_false_iff_ne]; omega
    have hl3 : ((xs.length : Int) != (ys.length : Int)) = true := by rw [bne_iff_ne]; omega
    have HL := Lib.hid hl
    clear hl
    go_enter Try.func37, Try.ntmps37
    go_wp2_with fail
    go_ret
    exact ⟨false, rfl, iffF (fun h => HL.out h.1), Below.refl _ _⟩
set_option maxHeartbeats 2000000 in
set_option maxRecDepth 100000 in
theorem sameFasS_any (xs ys : List Fa) (hx : xs.length ≤ 1048576) (hwx : ∀ (i : Nat) (p : Fa), xs[i]? = some p → p.wt ≤ 1048576) (hwy : ∀ (i : Nat) (p : Fa), ys[i]? = some p → p.wt ≤ 1048576) (A B : Option Addr) (ca cb lo lo' : Nat) (w : World) (h : Fas w lo xs A) (h' : Fas w lo' ys B) :
    Calls Try.prog 35 #[.slice A xs.length ca, .slice B ys.length cb] w (SaysB (SameFas xs ys) w) := by
  have H := Lib.hid h
  have H' := Lib.hid h'
  have HWX := Lib.hid hwx
  have HWY := Lib.hid hwy
  clear h h' hwx hwy
  by_cases hl : xs.length = ys.length
  · rw [← hl]
    have HL := Lib.hid hl
    clear hl
    go_enter Try.func35, Try.ntmps35
    go_wp2_with fail
    go_loopw [5] (fun i wr => ∃ k : Nat, k ≤ xs.length ∧ i = .int .i64 k ∧ Hid (SameFaTo xs ys k) ∧ Below w.heap.size w wr) (fun i _ => xs.length - (intOf i).toNat)
    case atStart => exact ⟨0, Nat.zero_le _, rfl, (fun i p q hi => by omega), Below.refl _ _⟩
    case round =>
      obtain ⟨k, hk, rfl, hno, hbel⟩ := hrel
      by_cases hlt : k < xs.length
      · obtain ⟨b, o, p, Aress1, cress1, Rfuncs1, cfuncs1, rfl, _, hpk, hc⟩ := (H.out.below hbel).at_ hlt
        obtain ⟨b', o', q, Aress2, cress2, Rfuncs2, cfuncs2, rfl, _, hqk, hd⟩ := (H'.out.below hbel).at_ (k := k) (by have := HL.out; omega)
        have CS := (fun W x y => specSameFace_any p q (HWX.out k p hpk) (HWY.out k q hqk) Aress1 cress1 Rfuncs1 cfuncs1 Aress2 cress2 Rfuncs2 cfuncs2 lo lo' W x y)
        have HA1 := Lib.hid hc.at_
        have HA2 := Lib.hid hd.at_
        have hz1 : b < wr.heap.size := World.block_lt_of_cell? wr _ hc.c0_
        have hz2 : b' < wr.heap.size := World.block_lt_of_cell? wr _ hd.c0_
        obtain ⟨c0, c1, c2, c3, c4, _⟩ := hc
        obtain ⟨d0, d1, d2, d3, d4, _⟩ := hd
        have HP := Lib.hid hpk
        have HQ := Lib.hid hqk
        have HB := Lib.hid hbel
        have hli : (k : Int) < (xs.length : Int) := by omega
        clear hpk hqk hbel
        by_cases hs : SameFa p q
        · have C := Lib.hid (fun W x y => (CS W x y).mono fun _ _ j => j.yes hs)
          have HS := Lib.hid hs
          clear hs CS
          go_wp2_with fail
          go_region_held3 (fun w' => w'.cell? ⟨b, o + k * 5, none⟩ = some (.string p.pack) ∧ w'.cell? ⟨b, o + k * 5 + 1, none⟩ = some (.string p.name) ∧ w'.cell? ⟨b, o + k * 5 + 2, none⟩ = some (.string p.version) ∧ w'.cell? ⟨b, o + k * 5 + 3, none⟩ = some (.slice Aress1 p.ress.length cress1) ∧ w'.cell? ⟨b, o + k * 5 + 4, none⟩ = some (.slice Rfuncs1 p.funcs.length cfuncs1) ∧ w'.cell? ⟨b', o' + k * 5, none⟩ = some (.string q.pack) ∧ w'.cell? ⟨b', o' + k * 5 + 1, none⟩ = some (.string q.name) ∧ w'.cell? ⟨b', o' + k * 5 + 2, none⟩ = some (.string q.version) ∧ w'.cell? ⟨b', o' + k * 5 + 3, none⟩ = some (.slice Aress2 q.ress.length cress2) ∧ w'.cell? ⟨b', o' + k * 5 + 4, none⟩ = some (.slice Rfuncs2 q.funcs.length cfuncs2) ∧ Below wr.heap.size wr w')
            (first | assumption | (exact (Below.refl _ _).drew) | (exact ⟨c0, c1, c2, c3, c4, d0, d1, d2, d3, d4, (Below.refl _ _).drew⟩) | (refine ⟨?_, ?_, ?_, ?_, ?_, ?_, ?_, ?_, ?_, ?_, ?_⟩ <;> assumption))
            (first | (go_at_call 44; refine (C.out _ (HA1.out.below (Below.refl _ _).drew) (HA2.out.below (Below.refl _ _).drew)).mono ?_; rintro e wx ⟨rfl, hbx⟩; have hbw : Below wr.heap.size wr wx := (Below.refl wr.heap.size wr).drew.trans hbx; have p0 := keepCell hbw c0; have p1 := keepCell hbw c1; have p2 := keepCell hbw c2; have p3 := keepCell hbw c3; have p4 := keepCell hbw c4; have q0 := keepCell hbw d0; have q1 := keepCell hbw d1; have q2 := keepCell hbw d2; have q3 := keepCell hbw d3; have q4 := keepCell hbw d4))
          go_wp2_with fail
          go_roundw
          case rel => exact ⟨k + 1, by omega, by go_num, hno.out.step HP.out HQ.out HS.out, bnext HB.out (by assumption)⟩
          case measure => simp [intOf]; omega
        · have C := Lib.hid (fun W x y => (CS W x y).mono fun _ _ j => j.no hs)
          have HS := Lib.hid hs
          clear hs CS
          go_wp2_with fail
          go_region_held3 (fun w' => w'.cell? ⟨b, o + k * 5, none⟩ = some (.string p.pack) ∧ w'.cell? ⟨b, o + k * 5 + 1, none⟩ = some (.string p.name) ∧ w'.cell? ⟨b, o + k * 5 + 2, none⟩ = some (.string p.version) ∧ w'.cell? ⟨b, o + k * 5 + 3, none⟩ = some (.slice Aress1 p.ress.length cress1) ∧ w'.cell? ⟨b, o + k * 5 + 4, none⟩ = some (.slice Rfuncs1 p.funcs.length cfuncs1) ∧ w'.cell? ⟨b', o' + k * 5, none⟩ = some (.string q.pack) ∧ w'.cell? ⟨b', o' + k * 5 + 1, none⟩ = some (.string q.name) ∧ w'.cell? ⟨b', o' + k * 5 + 2, none⟩ = some (.string q.version) ∧ w'.cell? ⟨b', o' + k * 5 + 3, none⟩ = some (.slice Aress2 q.ress.length cress2) ∧ w'.cell? ⟨b', o' + k * 5 + 4, none⟩ = some (.slice Rfuncs2 q.funcs.length cfuncs2) ∧ Below wr.heap.size wr w')
            (first | assumption | (exact (Below.refl _ _).drew) | (exact ⟨c0, c1, c2, c3, c4, d0, d1, d2, d3, d4, (Below.refl _ _).drew⟩) | (refine ⟨?_, ?_, ?_, ?_, ?_, ?_, ?_, ?_, ?_, ?_, ?_⟩ <;> assumption))
            (first | (go_at_call 44; refine (C.out _ (HA1.out.below (Below.refl _ _).drew) (HA2.out.below (Below.refl _ _).drew)).mono ?_; rintro e wx ⟨rfl, hbx⟩; have hbw : Below wr.heap.size wr wx := (Below.refl wr.heap.size wr).drew.trans hbx; have p0 := keepCell hbw c0; have p1 := keepCell hbw c1; have p2 := keepCell hbw c2; have p3 := keepCell hbw c3; have p4 := keepCell hbw c4; have q0 := keepCell hbw d0; have q1 := keepCell hbw d1; have q2 := keepCell hbw d2; have q3 := keepCell hbw d3; have q4 := keepCell hbw d4))
          go_wp2_with fail
          go_ret
          exact ⟨false, rfl, iffF (fun h => HS.out (h.2 k p q HP.out HQ.out)), bnext HB.out (by assumption)⟩
      · have hk' : k = xs.length := by omega
        have h9 := hno.out
        rw [hk'] at h9
        have HALL := Lib.hid (SameFaTo.all HL.out h9)
        have HB := Lib.hid hbel
        clear h9 hbel
        go_wp2
        go_ret
        exact ⟨true, rfl, iffT HALL.out, HB.out⟩
  · have hl2 : ((xs.length : Int) == (ys.length : Int)) = false := by rw [beq_eq_false_iff_ne]; omega
    have hl3 : ((xs.length : Int) != (ys.length : Int)) = true := by rw [bne_iff_ne]; omega
    have HL := Lib.hid hl
    clear hl
    go_enter Try.func35, Try.ntmps35
    go_wp2_with fail
    go_ret
    exact ⟨false, rfl, iffF (fun h => HL.out h.1), Below.refl _ _⟩
end Go.Proofs.Ytciomjggfeonmaa
