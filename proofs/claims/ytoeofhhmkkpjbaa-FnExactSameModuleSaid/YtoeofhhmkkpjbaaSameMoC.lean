/-
  The walks of both comparisons of cores.
-/
import Derived.Test.YtoeofhhmkkpjbaaSameMoR
namespace Go.Proofs.Ytoeofhhmkkpjbaa
open Go.ChangeShapes Go.WideShapes Go.ChangeAt Go.RowKit Go.Deep

set_option maxHeartbeats 2000000 in
set_option maxRecDepth 100000 in
theorem implSameCore_any (T : Prop) (n1 n2 : ByteArray) (p1 p2 l1 l2 : Int) (r1 r2 : Bool) (c1 c2 : List In) (hx : c1.length ≤ 1048576) (R : Option Addr) (cc : Nat) (R' : Option Addr) (cc' : Nat) (lo lo' : Nat) (w : World) (h : Ins w lo c1 R) (h' : Ins w lo' c2 R') (hT : T ↔ (n1 = n2 ∧ p1 = p2 ∧ l1 = l2 ∧ r1 = r2 ∧ c1 = c2)) :
    Calls Try.prog 30 #[.agg #[.string n1, .int .i64 p1, .int .i64 l1, .bool r1, .slice R c1.length cc], .agg #[.string n2, .int .i64 p2, .int .i64 l2, .bool r2, .slice R' c2.length cc']] w (SaysM T w) := by
  have CE := Lib.hid (fun W (a : Ins W lo c1 R) (b : Ins W lo' c2 R') => equalIns_any c1 c2 hx R R' cc cc' lo lo' W a b)
  have H := Lib.hid h
  have H' := Lib.hid h'
  clear h h' hx
  by_cases hn : n1 = n2
  · subst hn
    by_cases hp : p1 = p2
    · subst hp
      by_cases hl : l1 = l2
      · subst hl
        by_cases hr : r1 = r2
        · subst hr
          have HT : Hid (T ↔ c1 = c2) := Lib.hid (by rw [hT]; simp)
          clear hT
          go_enter Try.func30, Try.ntmps30
          go_wp2_with fail
          go_at_call 58
          refine (CE.out _ (Ins.below H.out (below2 _ _ _)) (Ins.below H'.out (below2 _ _ _))).mono ?_
          rintro e w2 ⟨v, rfl, hv, hb2⟩
          have HV := Lib.hid hv
          have HB2 := Lib.hid (bnext (below2 _ _ _) hb2)
          clear hv hb2
          go_wp2_with fail
          go_ret
          exact ⟨v, rfl, ⟨fun j => HT.out.mpr (HV.out.mp j), fun j => HV.out.mpr (HT.out.mp j)⟩, HB2.out⟩
        · have e0 : (r1 == r2) = false := beq_eq_false_iff_ne.mpr hr
          have HF : Hid (¬ T) := Lib.hid (fun h0 => hr (hT.mp h0).2.2.2.1)
          clear hr hT
          go_enter Try.func30, Try.ntmps30
          go_wp2_with fail
          go_ret
          exact ⟨false, rfl, iffM_F HF.out, below2 _ _ _⟩
      · have e0 : (l1 == l2) = false := beq_eq_false_iff_ne.mpr hl
        have HF : Hid (¬ T) := Lib.hid (fun h0 => hl (hT.mp h0).2.2.1)
        clear hl hT
        go_enter Try.func30, Try.ntmps30
        go_wp2_with fail
        go_ret
        exact ⟨false, rfl, iffM_F HF.out, below2 _ _ _⟩
    · have e0 : (p1 == p2) = false := beq_eq_false_iff_ne.mpr hp
      have HF : Hid (¬ T) := Lib.hid (fun h0 => hp (hT.mp h0).2.1)
      clear hp hT
      go_enter Try.func30, Try.ntmps30
      go_wp2_with fail
      go_ret
      exact ⟨false, rfl, iffM_F HF.out, below2 _ _ _⟩
  · have e0 := text_neM hn
    have HF : Hid (¬ T) := Lib.hid (fun h0 => hn (hT.mp h0).1)
    clear hn hT
    go_enter Try.func30, Try.ntmps30
    go_wp2_with fail
    go_ret
    exact ⟨false, rfl, iffM_F HF.out, below2 _ _ _⟩

set_option maxHeartbeats 2000000 in
set_option maxRecDepth 100000 in
theorem specSameCore_any (T : Prop) (n1 n2 : ByteArray) (p1 p2 l1 l2 : Int) (r1 r2 : Bool) (c1 c2 : List In) (hx : c1.length ≤ 1048576) (R : Option Addr) (cc : Nat) (R' : Option Addr) (cc' : Nat) (lo lo' : Nat) (w : World) (h : Ins w lo c1 R) (h' : Ins w lo' c2 R') (hT : T ↔ (n1 = n2 ∧ p1 = p2 ∧ l1 = l2 ∧ r1 = r2 ∧ c1 = c2)) :
    Calls Try.prog 25 #[.agg #[.string n1, .int .i64 p1, .int .i64 l1, .bool r1, .slice R c1.length cc], .agg #[.string n2, .int .i64 p2, .int .i64 l2, .bool r2, .slice R' c2.length cc']] w (SaysM T w) := by
  have H := Lib.hid h
  have H' := Lib.hid h'
  clear h h'
  by_cases hn : n1 = n2
  · subst hn
    by_cases hp : p1 = p2
    · subst hp
      by_cases hl : l1 = l2
      · subst hl
        by_cases hr : r1 = r2
        · subst hr
          have HT : Hid (T ↔ c1 = c2) := Lib.hid (by rw [hT]; simp)
          clear hT
          by_cases hl : c1.length = c2.length
          · have HL := Lib.hid hl
            have hli : ((c1.length : Int) == (c2.length : Int)) = true := by rw [beq_iff_eq]; omega
            go_enter Try.func25, Try.ntmps25
            go_wp2_with fail
            go_loopw [5] (fun i wr => ∃ k : Nat, k ≤ c1.length ∧ i = .int .i64 k ∧ Hid (∀ i, i < k → c1[i]? = c2[i]?) ∧ wr.cell? ⟨w.heap.size, 4, none⟩ = some (.slice R c1.length cc) ∧ wr.cell? ⟨w.heap.size + 1, 4, none⟩ = some (.slice R' c2.length cc') ∧ Below w.heap.size w wr) (fun i _ => c1.length - (intOf i).toNat)
            case atStart => exact ⟨0, Nat.zero_le _, rfl, fun i hi => by omega, by go_simp, by go_simp, below2 _ _ _⟩
            case round =>
              obtain ⟨k, hk, rfl, hM, kc, kd, hbel⟩ := hrel
              by_cases hlt : k < c1.length
              · obtain ⟨b, o, y, rfl, _, hyk, hc⟩ := (Ins.below H.out hbel).at_ hlt
                obtain ⟨c0_, c1_, _⟩ := hc
                obtain ⟨b', o', z, rfl, _, hzk, hc'⟩ := (Ins.below H'.out hbel).at_ (by omega : k < c2.length)
                obtain ⟨d0_, d1_, _⟩ := hc'
                have HY := Lib.hid hyk
                have HZ := Lib.hid hzk
                have HB := Lib.hid hbel
                have hli : (k : Int) < (c1.length : Int) := by omega
                have hly : (k : Int) < (c2.length : Int) := by omega
                clear hyk hbel hzk
                by_cases h1 : y.op = z.op
                · have f1 : (y.op == z.op) = true := by rw [h1, beq_iff_eq]
                  by_cases h2 : y.a = z.a
                  · have f2 : (y.a == z.a) = true := by rw [h2, beq_iff_eq]
                    have HE : Hid (y = z) := Lib.hid (by cases y; cases z; simp_all)
                    clear h1 h2
                    go_wp2_with fail
                    go_quiet (fail)
                    go_wp2_with fail
                    go_roundw
                    case rel => exact ⟨k + 1, by omega, by go_num, fun i hi => by
                      by_cases e : i = k
                      · rw [e, HY.out, HZ.out, HE.out]
                      · exact hM.out i (by omega), kc, kd, belowN HB.out _⟩
                    case measure => simp [intOf]; omega
                  · have f2 : (y.a == z.a) = false := beq_eq_false_iff_ne.mpr h2
                    have HN : Hid (¬ T) := Lib.hid (fun e => by
                      have e2 := HY.out
                      rw [(HT.out.mp e), HZ.out] at e2
                      cases e2
                      exact h2 rfl)
                    clear h1 h2
                    go_wp2_with fail
                    go_quiet (fail)
                    go_wp2_with fail
                    go_ret
                    exact ⟨false, rfl, iffM_F HN.out, belowN HB.out _⟩
                · have f1 : (y.op == z.op) = false := beq_eq_false_iff_ne.mpr h1
                  have HN : Hid (¬ T) := Lib.hid (fun e => by
                    have e2 := HY.out
                    rw [(HT.out.mp e), HZ.out] at e2
                    cases e2
                    exact h1 rfl)
                  clear h1
                  go_wp2_with fail
                  go_quiet (fail)
                  go_wp2_with fail
                  go_ret
                  exact ⟨false, rfl, iffM_F HN.out, belowN HB.out _⟩
              · have hk' : k = c1.length := by omega
                have HB := Lib.hid hbel
                have HE : Hid T := Lib.hid (HT.out.mpr (Ins_ext hl (hk' ▸ hM.out)))
                clear hbel
                go_wp2_with fail
                go_ret
                exact ⟨true, rfl, iffM_T HE.out, HB.out⟩
          · have HN : Hid (¬ T) := Lib.hid (fun e => hl (congrArg List.length (HT.out.mp e)))
            have hl' : ((c1.length : Int) == (c2.length : Int)) = false := beq_eq_false_iff_ne.mpr (by omega)
            clear hl
            go_enter Try.func25, Try.ntmps25
            go_wp2_with fail
            go_ret
            exact ⟨false, rfl, iffM_F HN.out, below2 _ _ _⟩
        · have e0 : (r1 == r2) = false := beq_eq_false_iff_ne.mpr hr
          have e1 : (r1 != r2) = true := bne_iff_ne.mpr hr
          have HF : Hid (¬ T) := Lib.hid (fun h0 => hr (hT.mp h0).2.2.2.1)
          clear hr hT
          go_enter Try.func25, Try.ntmps25
          go_wp2_with fail
          go_ret
          exact ⟨false, rfl, iffM_F HF.out, below2 _ _ _⟩
      · have e0 : (l1 == l2) = false := beq_eq_false_iff_ne.mpr hl
        have e1 : (l1 != l2) = true := bne_iff_ne.mpr hl
        have HF : Hid (¬ T) := Lib.hid (fun h0 => hl (hT.mp h0).2.2.1)
        clear hl hT
        go_enter Try.func25, Try.ntmps25
        go_wp2_with fail
        go_ret
        exact ⟨false, rfl, iffM_F HF.out, below2 _ _ _⟩
    · have e0 : (p1 == p2) = false := beq_eq_false_iff_ne.mpr hp
      have e1 : (p1 != p2) = true := bne_iff_ne.mpr hp
      have HF : Hid (¬ T) := Lib.hid (fun h0 => hp (hT.mp h0).2.1)
      clear hp hT
      go_enter Try.func25, Try.ntmps25
      go_wp2_with fail
      go_ret
      exact ⟨false, rfl, iffM_F HF.out, below2 _ _ _⟩
  · have e0 := text_neM hn
    have HF : Hid (¬ T) := Lib.hid (fun h0 => hn (hT.mp h0).1)
    clear hn hT
    go_enter Try.func25, Try.ntmps25
    go_wp2_with fail
    go_ret
    exact ⟨false, rfl, iffM_F HF.out, below2 _ _ _⟩
end Go.Proofs.Ytoeofhhmkkpjbaa
