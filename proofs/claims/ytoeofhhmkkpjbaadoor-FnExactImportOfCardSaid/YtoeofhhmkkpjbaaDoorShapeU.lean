/-
  The walk of the model's l15Shape.
-/
import Derived.Test.YtoeofhhmkkpjbaaDoorShapeT
import Derived.BigQuiet
import Derived.Deep.RegionHeld3
namespace Go.Proofs.YtoeofhhmkkpjbaaDoor
open Go.ChangeShapes Go.WideShapes Go.ChangeAt Go.RowKit Go.Deep

set_option maxHeartbeats 8000000 in
set_option maxRecDepth 100000 in
theorem specShape_any (x : Mo) (hx : x.wt ≤ 1048576) (Rimports : Option Addr) (cimports : Nat) (Rcores : Option Addr) (ccores : Nat) (hcap : x.imports.length ≤ cimports ∧ x.cores.length ≤ ccores) (_hcm : True) (lo : Nat) (w : World) (h : Mo.At w lo x Rimports Rcores) :
    Calls Tryd.prog 58 #[.agg #[.int .i64 x.pages, .slice Rimports x.imports.length cimports, .slice Rcores x.cores.length ccores]] w (SaysM (ShapeP x) w) := by
  obtain ⟨q_imports, q_cores, _⟩ := Mo.parts_le hx
  have hm1 : x.imports.length ≤ 1048576 := by have := Im.wts_nonneg x.imports; omega
  have hm2 : x.cores.length ≤ 1048576 := by have := Co.wts_nonneg x.cores; omega
  have CP := Lib.hid (fun W => l00In_any x.pages 1 16 W)
  have H := Lib.hid h
  have HWI := Lib.hid (im_wt hx)
  have HWC := Lib.hid (co_wt hx)
  have HSI := Lib.hid (fun (k : Nat) (y : Im) hy hn => shape_not_im (x := x) (k := k) (y := y) hy hn)
  have HSC := Lib.hid (fun (k : Nat) (y : Co) hy hn => shape_not_co (x := x) (k := k) (y := y) hy hn)
  have HT : Hid (ShapeP x ↔ ((1 ≤ x.pages ∧ x.pages ≤ 16) ∧ x.imports.length ≤ 12 ∧ x.cores.length ≤ 8 ∧ ImTo x x.imports.length ∧ CoTo x x.cores.length)) := Lib.hid (by
    have n1 : (imN x).length = x.imports.length := by unfold imN; rw [List.length_map]
    have n2 : (coN x).length = x.cores.length := by unfold coN; rw [List.length_map]
    unfold ShapeP ImTo CoTo
    rw [n1, n2]
    constructor
    · rintro ⟨a, b, c, d, e, f, g⟩
      exact ⟨a, b, c, ⟨fun hb => BadE.not_all hb d, f⟩, ⟨fun hb => BadE.not_all hb e, g⟩⟩
    · rintro ⟨a, b, c, ⟨d, f⟩, ⟨e, g⟩⟩
      exact ⟨a, b, c, BadE.all d, BadE.all e, f, g⟩)
  obtain ⟨hcap1, hcap2⟩ := hcap
  generalize hT : ShapeP x = T at *
  clear h hx hT q_imports q_cores
  by_cases hp : 1 ≤ x.pages ∧ x.pages ≤ 16
  · rw [decide_eq_true hp] at CP
    have HP := Lib.hid hp
    clear hp
    by_cases h12 : x.imports.length ≤ 12
    · have g12 : ¬ 12 < (x.imports.length : Int) := by omega
      have d12 : decide (12 < (x.imports.length : Int)) = false := decide_eq_false g12
      have e12 : ¬ 12 < x.imports.length := by omega
      by_cases h8 : x.cores.length ≤ 8
      · have g8 : ¬ 8 < (x.cores.length : Int) := by omega
        have d8 : decide (8 < (x.cores.length : Int)) = false := decide_eq_false g8
        have e8 : ¬ 8 < x.cores.length := by omega
        go_enter Tryd.func58, Tryd.ntmps58
        go_wp2_with (first | (go_at_call 44; (with_reducible refine (CP.out _).mono ?_); rintro e w2 ⟨rfl, rfl⟩))
        clear g12 d12 e12 g8 d8 e8
        go_loopw [3] (fun i wr => ∃ k : Nat, k ≤ x.imports.length ∧ i = .int .i64 k ∧ Hid (ImTo x k) ∧ wr.cell? ⟨w.heap.size, 0, none⟩ = some (.int .i64 x.pages) ∧ wr.cell? ⟨w.heap.size, 1, none⟩ = some (.slice Rimports x.imports.length cimports) ∧ wr.cell? ⟨w.heap.size, 2, none⟩ = some (.slice Rcores x.cores.length ccores) ∧ Hid (Below w.heap.size w wr)) (fun i _ => x.imports.length - (intOf i).toNat)
        case atStart => exact ⟨0, Nat.zero_le _, rfl, ⟨(fun ⟨i, u, hi, _⟩ => by omega), (fun i s hi => by omega)⟩, by go_simp, by go_simp, by go_simp, below1 _ _⟩
        case round =>
          obtain ⟨k, hk, rfl, hno, ka, kb, kc, HB⟩ := hrel
          by_cases hlt : k < x.imports.length
          · obtain ⟨b, o, y, rfl, _, hyk, hc⟩ := (Ims.below H.out.1 HB.out).at_ hlt
            obtain ⟨c0, c1_, c2, _⟩ := hc
            have hz9 : b < wr.heap.size := World.block_lt_of_cell? wr _ c0
            have hz8 : w.heap.size < wr.heap.size := World.block_lt_of_cell? wr _ ka
            have hsz : y.name.size ≤ 1048576 := by have := HWI.out k y hyk; unfold Im.wt at this; omega
            have CW := Lib.hid (fun W => l15Word_any y.name hsz W)
            have CQ := Lib.hid (fun W => l00In_any y.params 0 8 W)
            have CA := Lib.hid (fun n => importAt_take x.imports k (by omega) y.name (by omega) _ cimports lo ((wr.alloc (.cells #[.string y.name, .int .i64 y.params, .bool y.result] 88)).drewN n) (Ims.below H.out.1 (below_drewN_alloc HB.out n _)))
            have hva : imV y = (wordV y.name && decide (0 ≤ y.params ∧ y.params ≤ 8)) := rfl
            have hnm : x.imports.map Im.name = imN x := rfl
            rw [hnm] at CA
            have HSTEP := Lib.hid (fun hv hn => hno.out.step (y := y) hyk hv hn)
            have HNOT := Lib.hid (HSI.out k y hyk)
            rw [hva] at HSTEP HNOT
            have hli : (k : Int) < (x.imports.length : Int) := by omega
            have hkc : k ≤ cimports := by omega
            have hkci : (k : Int) ≤ (cimports : Int) := by omega
            have hk0i : (0 : Int) ≤ (k : Int) := by omega
            clear hyk hva hnm hno hsz
            generalize wordV y.name = a at *
            generalize decide (0 ≤ y.params ∧ y.params ≤ 8) = p at *
            generalize ixGo ((imN x).take k) y.name 0 = V at *
            cases a with
            | false =>
              have HF := Lib.hid (HNOT.out (Or.inl rfl))
              go_wp2_with fail
              go_quiet (first | (go_at_call 42; refine Calls.quiet_of_same ((CW.out _).mono fun _ _ h => ⟨h.1, h.2.symm⟩)))
              go_wp2_with fail
              go_ret
              exact ⟨false, rfl, iffM_F HF.out, belowN15 (HB.out.alloc HB.out.size _) _⟩
            | true =>
              cases p with
              | false =>
                have HF := Lib.hid (HNOT.out (Or.inl rfl))
                go_wp2_with fail
                go_quiet (first | (go_at_call 42; refine Calls.quiet_of_same ((CW.out _).mono fun _ _ h => ⟨h.1, h.2.symm⟩)) | (go_at_call 44; refine Calls.quiet_of_same ((CQ.out _).mono fun _ _ h => ⟨h.1, h.2.symm⟩)))
                go_wp2_with fail
                go_ret
                exact ⟨false, rfl, iffM_F HF.out, belowN15 (HB.out.alloc HB.out.size _) _⟩
              | true =>
                by_cases hV : V < 0
                · have HS := Lib.hid (HSTEP.out rfl hV)
                  have dV : decide (0 ≤ V) = false := decide_eq_false (by omega)
                  have gV : ¬ 0 ≤ V := by omega
                  go_wp2_with fail
                  go_quiet (first | (go_at_call 42; refine Calls.quiet_of_same ((CW.out _).mono fun _ _ h => ⟨h.1, h.2.symm⟩)) | (go_at_call 44; refine Calls.quiet_of_same ((CQ.out _).mono fun _ _ h => ⟨h.1, h.2.symm⟩)) | (go_at_call 72; refine Calls.quiet_of_same ((CA.out _).mono fun _ _ h => ⟨h.1, h.2.symm⟩)))
                  go_wp2_with fail
                  go_roundw
                  case rel => exact ⟨k + 1, by omega, by go_num, HS.out, keepCell (belowN15 (below1 _ _) _) ka, keepCell (belowN15 (below1 _ _) _) kb, keepCell (belowN15 (below1 _ _) _) kc, belowN15 (HB.out.alloc HB.out.size _) _⟩
                  case measure => simp [intOf]; omega
                · have HF := Lib.hid (HNOT.out (Or.inr (by omega)))
                  have dV : decide (0 ≤ V) = true := decide_eq_true (by omega)
                  have gV : 0 ≤ V := by omega
                  go_wp2_with fail
                  go_quiet (first | (go_at_call 42; refine Calls.quiet_of_same ((CW.out _).mono fun _ _ h => ⟨h.1, h.2.symm⟩)) | (go_at_call 44; refine Calls.quiet_of_same ((CQ.out _).mono fun _ _ h => ⟨h.1, h.2.symm⟩)) | (go_at_call 72; refine Calls.quiet_of_same ((CA.out _).mono fun _ _ h => ⟨h.1, h.2.symm⟩)))
                  go_wp2_with fail
                  go_ret
                  exact ⟨false, rfl, iffM_F HF.out, belowN15 (HB.out.alloc HB.out.size _) _⟩
          · obtain rfl : k = x.imports.length := by omega
            have HI := Lib.hid hno.out
            have hlti : ¬ (x.imports.length : Int) < (x.imports.length : Int) := by omega
            have hbel := HB.out
            clear hno
            go_wp2_with fail
            go_loopw [5] (fun i wr => ∃ k : Nat, k ≤ x.cores.length ∧ i = .int .i64 k ∧ Hid (CoTo x k) ∧ wr.cell? ⟨w.heap.size, 0, none⟩ = some (.int .i64 x.pages) ∧ wr.cell? ⟨w.heap.size, 1, none⟩ = some (.slice Rimports x.imports.length cimports) ∧ wr.cell? ⟨w.heap.size, 2, none⟩ = some (.slice Rcores x.cores.length ccores) ∧ Hid (Below w.heap.size w wr)) (fun i _ => x.cores.length - (intOf i).toNat)
            case atStart => exact ⟨0, Nat.zero_le _, rfl, ⟨(fun ⟨i, u, hi, _⟩ => by omega), (fun i s hi => by omega)⟩, ka, kb, kc, hbel⟩
            case round =>
              clear ka kb kc hbel HB hlti hlt hk
              obtain ⟨k, hk, rfl, hno, ka, kb, kc, HB⟩ := hrel
              by_cases hlt : k < x.cores.length
              · obtain ⟨b, o, y, R1, c1, rfl, _, hyk, hc⟩ := (Cos.below H.out.2 HB.out).at_ hlt
                have HA := Lib.hid hc.at_
                obtain ⟨c0, c1_, c2, c3, c4, _⟩ := hc
                have C := Lib.hid (fun W ha => l15Core_any y (HWC.out k y hyk) R1 c1 lo W ha)
                have CA := Lib.hid (fun W (hb : Below wr.heap.size wr W) => coreAt_take x.cores k (by omega) y.name (by omega) _ ccores lo W (Cos.below H.out.2 (bnext HB.out hb)))
                have hnm : x.cores.map Co.name = coN x := rfl
                rw [hnm] at CA
                have HSTEP := Lib.hid (fun hv hn => hno.out.step (y := y) hyk hv hn)
                have HNOT := Lib.hid (HSC.out k y hyk)
                have hli : (k : Int) < (x.cores.length : Int) := by omega
                have hkc : k ≤ ccores := by omega
                have hkci : (k : Int) ≤ (ccores : Int) := by omega
                have hk0i : (0 : Int) ≤ (k : Int) := by omega
                clear hyk hnm hno
                generalize coV y = v at *
                generalize ixGo ((coN x).take k) y.name 0 = V at *
                cases v with
                | false =>
                  have HF := Lib.hid (HNOT.out (Or.inl rfl))
                  clear HNOT HSTEP CA
                  go_wp2_with fail
                  refine wp_region_held_drew (S := (fun w' => w'.cell? ⟨w.heap.size, 2, none⟩ = some (.slice (some ⟨b, o, none⟩) x.cores.length ccores) ∧ w'.cell? ⟨b, o + k * 5, none⟩ = some (.string y.name) ∧ w'.cell? ⟨b, o + k * 5 + 1, none⟩ = some (.int .i64 y.params) ∧ w'.cell? ⟨b, o + k * 5 + 2, none⟩ = some (.int .i64 y.locals) ∧ w'.cell? ⟨b, o + k * 5 + 3, none⟩ = some (.bool y.result) ∧ w'.cell? ⟨b, o + k * 5 + 4, none⟩ = some (.slice R1 y.code.length c1) ∧ Below wr.heap.size wr w')) (by kernel_rfl) ?_ (fun hHeld => ?_)
                  · exact ⟨kc, c0, c1_, c2, c3, c4, (Below.refl _ _).drew⟩
                  refine wpAnyH_take (i := 0) (oi := { dst := some 61, op := Go.Op.fieldAddr 44 (Go.Operand.tmp 1) 2, type := 0, pos := "l15_code.go:181", after := #[], guard := none }) (v := ?_) rfl (by kernel_rfl) (by kernel_rfl) (by kernel_rfl) (fun _ _ _ h => h) (Or.inl ⟨by rfl, ?hy0⟩) (by assumption) ?rest0
                  case hy0 => (intro w hSw; (try dsimp only at hSw); go_simp; try with_reducible rfl)
                  case' rest0 => (simp only [Act.put, List.setIfInBounds_toArray, List.set_cons_zero, List.set_cons_succ])
                  refine wpAnyH_take (i := 1) (oi := { dst := some 62, op := Go.Op.load 42 (Go.Operand.tmp 61), type := 42, pos := "l15_code.go:181", after := #[{ on := 0, ground := Go.Ground.data }], guard := none }) (v := ?_) rfl (by kernel_rfl) (by kernel_rfl) (by kernel_rfl) (fun _ _ _ h => h) (Or.inl ⟨by rfl, ?hy1⟩) (by assumption) ?rest1
                  case hy1 => (intro w hSw; (try dsimp only at hSw); go_simp; try with_reducible rfl)
                  case' rest1 => (simp only [Act.put, List.setIfInBounds_toArray, List.set_cons_zero, List.set_cons_succ])
                  refine wpAnyH_take (i := 2) (oi := { dst := some 63, op := Go.Op.move (Go.Operand.tmp 5), type := 3, pos := "l15_code.go:181", after := #[], guard := none }) (v := ?_) rfl (by kernel_rfl) (by kernel_rfl) (by kernel_rfl) (fun _ _ _ h => h) (Or.inl ⟨by rfl, ?hy2⟩) (by assumption) ?rest2
                  case hy2 => (intro w hSw; (try dsimp only at hSw); go_simp; try with_reducible rfl)
                  case' rest2 => (simp only [Act.put, List.setIfInBounds_toArray, List.set_cons_zero, List.set_cons_succ])
                  refine wpAnyH_take (i := 3) (oi := { dst := some 64, op := Go.Op.indexAddr 42 (Go.Operand.tmp 62) (Go.Operand.tmp 63), type := 0, pos := "l15_code.go:181", after := #[{ on := 1, ground := Go.Ground.data }, { on := 2, ground := Go.Ground.data }], guard := none }) (v := ?_) rfl (by kernel_rfl) (by kernel_rfl) (by kernel_rfl) (fun _ _ _ h => h) (Or.inl ⟨by rfl, ?hy3⟩) (by assumption) ?rest3
                  case hy3 => (intro w hSw; (try dsimp only at hSw); go_simp; try with_reducible rfl)
                  case' rest3 => (simp only [Act.put, List.setIfInBounds_toArray, List.set_cons_zero, List.set_cons_succ])
                  refine wpAnyH_take (i := 4) (oi := { dst := some 65, op := Go.Op.load 60 (Go.Operand.tmp 64), type := 60, pos := "l15_code.go:181", after := #[{ on := 3, ground := Go.Ground.data }], guard := none }) (v := ?_) rfl (by kernel_rfl) (by kernel_rfl) (by kernel_rfl) (fun _ _ _ h => h) (Or.inl ⟨by rfl, ?hy4⟩) (by assumption) ?rest4
                  case hy4 => (intro w hSw; (try dsimp only at hSw); go_simp; try with_reducible rfl)
                  case' rest4 => (simp only [Act.put, List.setIfInBounds_toArray, List.set_cons_zero, List.set_cons_succ])
                  refine wpAnyH_ready (rs := [5]) (by kernel_rfl) (by simp) ?_
                  refine AllReadyH.cons (o := { dst := some 66, op := Go.Op.call { callee := Go.Callee.value (Go.Operand.func 74), args := #[Go.Operand.tmp 65], argTypes := #[60] }, type := 4, pos := "l15_code.go:181", after := #[{ on := 4, ground := Go.Ground.data }], guard := none }) rfl (fun K hK => ?_) AllReadyH.nil
                  go_simp
                  (go_at_call 74; refine (C.out _ (Co.At.below HA.out (Below.refl _ _).drew)).mono ?_; rintro e wx ⟨rfl, hbx⟩; have hbw : Below wr.heap.size wr wx := (Below.refl wr.heap.size wr).drew.trans hbx; have ua := keepCell hbw ka; have ub := keepCell hbw kb; have uc := keepCell hbw kc; have u0 := keepCell hbw c0; have u1 := keepCell hbw c1_; have u2 := keepCell hbw c2; have u3 := keepCell hbw c3; have u4 := keepCell hbw c4)
                  refine hK.out _ _ ?_ (fun hHeld => ?_)
                  · exact ⟨uc, u0, u1, u2, u3, u4, hbw⟩
                  clear hK K
                  refine wpAnyH_take (i := 6) (oi := { dst := some 67, op := Go.Op.unOp Go.UnOp.not 4 (Go.Operand.tmp 66), type := 4, pos := "l15_code.go:181", after := #[{ on := 5, ground := Go.Ground.data }], guard := none }) (v := ?_) rfl (by kernel_rfl) (by kernel_rfl) (by kernel_rfl) (fun _ _ _ h => h) (Or.inl ⟨by rfl, ?hy6⟩) (by assumption) ?rest6
                  case hy6 => (intro w hSw; (try dsimp only at hSw); go_simp; try with_reducible rfl)
                  case' rest6 => (simp only [Act.put, List.setIfInBounds_toArray, List.set_cons_zero, List.set_cons_succ])
                  refine wpAnyH_take (i := 7) (oi := { dst := some 68, op := Go.Op.move (Go.Operand.tmp 67), type := 4, pos := "l15_code.go:181", after := #[{ on := 6, ground := Go.Ground.data }, { on := 5, ground := Go.Ground.chain }], guard := none }) (v := ?_) rfl (by kernel_rfl) (by kernel_rfl) (by kernel_rfl) (fun _ _ _ h => h) (Or.inl ⟨by rfl, ?hy7⟩) (by assumption) ?rest7
                  case hy7 => (intro w hSw; (try dsimp only at hSw); go_simp; try with_reducible rfl)
                  case' rest7 => (simp only [Act.put, List.setIfInBounds_toArray, List.set_cons_zero, List.set_cons_succ])
                  refine wpAnyH_take (i := 8) (oi := { dst := some 69, op := Go.Op.fieldAddr 44 (Go.Operand.tmp 1) 2, type := 0, pos := "l15_code.go:181", after := #[{ on := 7, ground := Go.Ground.guard }], guard := some (7, false) }) (v := undef) rfl (by kernel_rfl) (by kernel_rfl) (by kernel_rfl) (fun _ _ _ h => h) (Or.inr ⟨by rfl, rfl⟩) (by assumption) ?_
                  (simp only [Act.put, List.setIfInBounds_toArray, List.set_cons_zero, List.set_cons_succ])
                  refine wpAnyH_take (i := 9) (oi := { dst := some 70, op := Go.Op.load 42 (Go.Operand.tmp 69), type := 42, pos := "l15_code.go:181", after := #[{ on := 8, ground := Go.Ground.data }, { on := 7, ground := Go.Ground.guard }], guard := some (7, false) }) (v := undef) rfl (by kernel_rfl) (by kernel_rfl) (by kernel_rfl) (fun _ _ _ h => h) (Or.inr ⟨by rfl, rfl⟩) (by assumption) ?_
                  (simp only [Act.put, List.setIfInBounds_toArray, List.set_cons_zero, List.set_cons_succ])
                  refine wpAnyH_take (i := 10) (oi := { dst := some 71, op := Go.Op.move (Go.Operand.tmp 5), type := 3, pos := "l15_code.go:181", after := #[{ on := 7, ground := Go.Ground.guard }], guard := some (7, false) }) (v := undef) rfl (by kernel_rfl) (by kernel_rfl) (by kernel_rfl) (fun _ _ _ h => h) (Or.inr ⟨by rfl, rfl⟩) (by assumption) ?_
                  (simp only [Act.put, List.setIfInBounds_toArray, List.set_cons_zero, List.set_cons_succ])
                  refine wpAnyH_take (i := 11) (oi := { dst := some 72, op := Go.Op.slice 42 (Go.Operand.tmp 70) none (some (Go.Operand.tmp 71)) none, type := 42, pos := "l15_code.go:181", after := #[{ on := 9, ground := Go.Ground.data }, { on := 10, ground := Go.Ground.data }, { on := 7, ground := Go.Ground.guard }], guard := some (7, false) }) (v := undef) rfl (by kernel_rfl) (by kernel_rfl) (by kernel_rfl) (fun _ _ _ h => h) (Or.inr ⟨by rfl, rfl⟩) (by assumption) ?_
                  (simp only [Act.put, List.setIfInBounds_toArray, List.set_cons_zero, List.set_cons_succ])
                  refine wpAnyH_take (i := 12) (oi := { dst := some 73, op := Go.Op.fieldAddr 44 (Go.Operand.tmp 1) 2, type := 0, pos := "l15_code.go:181", after := #[{ on := 7, ground := Go.Ground.guard }], guard := some (7, false) }) (v := undef) rfl (by kernel_rfl) (by kernel_rfl) (by kernel_rfl) (fun _ _ _ h => h) (Or.inr ⟨by rfl, rfl⟩) (by assumption) ?_
                  (simp only [Act.put, List.setIfInBounds_toArray, List.set_cons_zero, List.set_cons_succ])
                  refine wpAnyH_take (i := 13) (oi := { dst := some 74, op := Go.Op.load 42 (Go.Operand.tmp 73), type := 42, pos := "l15_code.go:181", after := #[{ on := 12, ground := Go.Ground.data }, { on := 7, ground := Go.Ground.guard }], guard := some (7, false) }) (v := undef) rfl (by kernel_rfl) (by kernel_rfl) (by kernel_rfl) (fun _ _ _ h => h) (Or.inr ⟨by rfl, rfl⟩) (by assumption) ?_
                  (simp only [Act.put, List.setIfInBounds_toArray, List.set_cons_zero, List.set_cons_succ])
                  refine wpAnyH_take (i := 14) (oi := { dst := some 75, op := Go.Op.move (Go.Operand.tmp 5), type := 3, pos := "l15_code.go:181", after := #[{ on := 7, ground := Go.Ground.guard }], guard := some (7, false) }) (v := undef) rfl (by kernel_rfl) (by kernel_rfl) (by kernel_rfl) (fun _ _ _ h => h) (Or.inr ⟨by rfl, rfl⟩) (by assumption) ?_
                  (simp only [Act.put, List.setIfInBounds_toArray, List.set_cons_zero, List.set_cons_succ])
                  refine wpAnyH_take (i := 15) (oi := { dst := some 76, op := Go.Op.indexAddr 42 (Go.Operand.tmp 74) (Go.Operand.tmp 75), type := 0, pos := "l15_code.go:181", after := #[{ on := 13, ground := Go.Ground.data }, { on := 14, ground := Go.Ground.data }, { on := 7, ground := Go.Ground.guard }], guard := some (7, false) }) (v := undef) rfl (by kernel_rfl) (by kernel_rfl) (by kernel_rfl) (fun _ _ _ h => h) (Or.inr ⟨by rfl, rfl⟩) (by assumption) ?_
                  (simp only [Act.put, List.setIfInBounds_toArray, List.set_cons_zero, List.set_cons_succ])
                  refine wpAnyH_take (i := 16) (oi := { dst := some 77, op := Go.Op.fieldAddr 60 (Go.Operand.tmp 76) 0, type := 0, pos := "l15_code.go:181", after := #[{ on := 15, ground := Go.Ground.data }, { on := 7, ground := Go.Ground.guard }], guard := some (7, false) }) (v := undef) rfl (by kernel_rfl) (by kernel_rfl) (by kernel_rfl) (fun _ _ _ h => h) (Or.inr ⟨by rfl, rfl⟩) (by assumption) ?_
                  (simp only [Act.put, List.setIfInBounds_toArray, List.set_cons_zero, List.set_cons_succ])
                  refine wpAnyH_take (i := 17) (oi := { dst := some 78, op := Go.Op.load 9 (Go.Operand.tmp 77), type := 9, pos := "l15_code.go:181", after := #[{ on := 16, ground := Go.Ground.data }, { on := 7, ground := Go.Ground.guard }], guard := some (7, false) }) (v := undef) rfl (by kernel_rfl) (by kernel_rfl) (by kernel_rfl) (fun _ _ _ h => h) (Or.inr ⟨by rfl, rfl⟩) (by assumption) ?_
                  (simp only [Act.put, List.setIfInBounds_toArray, List.set_cons_zero, List.set_cons_succ])
                  refine wpAnyH_take (i := 18) (oi := { dst := some 79, op := Go.Op.call { callee := Go.Callee.value (Go.Operand.func 70), args := #[Go.Operand.tmp 72, Go.Operand.tmp 78], argTypes := #[42, 9] }, type := 2, pos := "l15_code.go:181", after := #[{ on := 11, ground := Go.Ground.data }, { on := 17, ground := Go.Ground.data }, { on := 7, ground := Go.Ground.chain }, { on := 7, ground := Go.Ground.guard }], guard := some (7, false) }) (v := undef) rfl (by kernel_rfl) (by kernel_rfl) (by kernel_rfl) (fun _ _ _ h => h) (Or.inr ⟨by rfl, rfl⟩) (by assumption) ?_
                  (simp only [Act.put, List.setIfInBounds_toArray, List.set_cons_zero, List.set_cons_succ])
                  refine wpAnyH_take (i := 19) (oi := { dst := some 80, op := Go.Op.binOp Go.BinOp.geq 2 (Go.Operand.tmp 79) (Go.Operand.const (Go.Value.int Go.IntKind.i64 0)) 2, type := 4, pos := "l15_code.go:181", after := #[{ on := 18, ground := Go.Ground.data }, { on := 7, ground := Go.Ground.guard }], guard := some (7, false) }) (v := undef) rfl (by kernel_rfl) (by kernel_rfl) (by kernel_rfl) (fun _ _ _ h => h) (Or.inr ⟨by rfl, rfl⟩) (by assumption) ?_
                  (simp only [Act.put, List.setIfInBounds_toArray, List.set_cons_zero, List.set_cons_succ])
                  refine wpAnyH_take (i := 20) (oi := { dst := some 81, op := Go.Op.pick (Go.Operand.tmp 68) (Go.Operand.const (Go.Value.bool true)) (Go.Operand.tmp 80), type := 4, pos := "l15_code.go:181", after := #[{ on := 7, ground := Go.Ground.data }, { on := 19, ground := Go.Ground.data }], guard := none }) (v := ?_) rfl (by kernel_rfl) (by kernel_rfl) (by kernel_rfl) (fun _ _ _ h => h) (Or.inl ⟨by rfl, ?hy20⟩) (by assumption) ?rest20
                  case hy20 => (intro w hSw; (try dsimp only at hSw); go_simp; try with_reducible rfl)
                  case' rest20 => (simp only [Act.put, List.setIfInBounds_toArray, List.set_cons_zero, List.set_cons_succ])
                  refine wpAnyH_done (by kernel_rfl) ?_ _
                  go_wp2_with fail
                  go_ret
                  exact ⟨false, rfl, iffM_F HF.out, bnext HB.out hbw⟩
                | true =>
                  by_cases hV : V < 0
                  · have HS := Lib.hid (HSTEP.out rfl hV)
                    have dV : decide (0 ≤ V) = false := decide_eq_false (by omega)
                    have gV : ¬ 0 ≤ V := by omega
                    go_wp2_with fail
                    go_region_held3 (fun w' => w'.cell? ⟨w.heap.size, 2, none⟩ = some (.slice (some ⟨b, o, none⟩) x.cores.length ccores) ∧ w'.cell? ⟨b, o + k * 5, none⟩ = some (.string y.name) ∧ w'.cell? ⟨b, o + k * 5 + 1, none⟩ = some (.int .i64 y.params) ∧ w'.cell? ⟨b, o + k * 5 + 2, none⟩ = some (.int .i64 y.locals) ∧ w'.cell? ⟨b, o + k * 5 + 3, none⟩ = some (.bool y.result) ∧ w'.cell? ⟨b, o + k * 5 + 4, none⟩ = some (.slice R1 y.code.length c1) ∧ Below wr.heap.size wr w')
                      (first | assumption | (exact ⟨kc, c0, c1_, c2, c3, c4, Below.refl _ _⟩) | (exact ⟨kc, c0, c1_, c2, c3, c4, (Below.refl _ _).drew⟩) | (exact ⟨uc, u0, u1, u2, u3, u4, hbw⟩))
                      (first | (go_at_call 74; refine (C.out _ (Co.At.below HA.out (Below.refl _ _).drew)).mono ?_; rintro e wx ⟨rfl, hbx⟩; have hbw : Below wr.heap.size wr wx := (Below.refl wr.heap.size wr).drew.trans hbx; have ua := keepCell hbw ka; have ub := keepCell hbw kb; have uc := keepCell hbw kc; have u0 := keepCell hbw c0; have u1 := keepCell hbw c1_; have u2 := keepCell hbw c2; have u3 := keepCell hbw c3; have u4 := keepCell hbw c4) | (go_at_call 70; refine (CA.out _ hbw).mono ?_; rintro e wz ⟨rfl, rfl⟩))
                    all_goals
                      go_wp2_with fail
                      go_roundw
                      case rel => exact ⟨k + 1, by omega, by go_num, HS.out, ua, ub, uc, bnext HB.out hbw⟩
                      case measure => simp [intOf]; omega
                  · have HF := Lib.hid (HNOT.out (Or.inr (by omega)))
                    have dV : decide (0 ≤ V) = true := decide_eq_true (by omega)
                    have gV : 0 ≤ V := by omega
                    go_wp2_with fail
                    go_region_held3 (fun w' => w'.cell? ⟨w.heap.size, 2, none⟩ = some (.slice (some ⟨b, o, none⟩) x.cores.length ccores) ∧ w'.cell? ⟨b, o + k * 5, none⟩ = some (.string y.name) ∧ w'.cell? ⟨b, o + k * 5 + 1, none⟩ = some (.int .i64 y.params) ∧ w'.cell? ⟨b, o + k * 5 + 2, none⟩ = some (.int .i64 y.locals) ∧ w'.cell? ⟨b, o + k * 5 + 3, none⟩ = some (.bool y.result) ∧ w'.cell? ⟨b, o + k * 5 + 4, none⟩ = some (.slice R1 y.code.length c1) ∧ Below wr.heap.size wr w')
                      (first | assumption | (exact ⟨kc, c0, c1_, c2, c3, c4, Below.refl _ _⟩) | (exact ⟨kc, c0, c1_, c2, c3, c4, (Below.refl _ _).drew⟩) | (exact ⟨uc, u0, u1, u2, u3, u4, hbw⟩))
                      (first | (go_at_call 74; refine (C.out _ (Co.At.below HA.out (Below.refl _ _).drew)).mono ?_; rintro e wx ⟨rfl, hbx⟩; have hbw : Below wr.heap.size wr wx := (Below.refl wr.heap.size wr).drew.trans hbx; have ua := keepCell hbw ka; have ub := keepCell hbw kb; have uc := keepCell hbw kc; have u0 := keepCell hbw c0; have u1 := keepCell hbw c1_; have u2 := keepCell hbw c2; have u3 := keepCell hbw c3; have u4 := keepCell hbw c4) | (go_at_call 70; refine (CA.out _ hbw).mono ?_; rintro e wz ⟨rfl, rfl⟩))
                    all_goals
                      go_wp2_with fail
                      go_ret
                      exact ⟨false, rfl, iffM_F HF.out, bnext HB.out hbw⟩
              · obtain rfl : k = x.cores.length := by omega
                have HE : Hid T := Lib.hid (HT.out.mpr ⟨HP.out, h12, h8, HI.out, hno.out⟩)
                have hlti : ¬ (x.cores.length : Int) < (x.cores.length : Int) := by omega
                clear hno
                go_wp2_with fail
                go_ret
                exact ⟨true, rfl, iffM_T HE.out, HB.out⟩
      · have g8 : 8 < (x.cores.length : Int) := by omega
        have d8 : decide (8 < (x.cores.length : Int)) = true := decide_eq_true g8
        have e8 : 8 < x.cores.length := by omega
        have HF : Hid (¬ T) := Lib.hid (fun h0 => h8 (HT.out.mp h0).2.2.1)
        go_enter Tryd.func58, Tryd.ntmps58
        go_wp2_with (first | (go_at_call 44; (with_reducible refine (CP.out _).mono ?_); rintro e w2 ⟨rfl, rfl⟩))
        go_ret
        exact ⟨false, rfl, iffM_F HF.out, below1 _ _⟩
    · have g12 : 12 < (x.imports.length : Int) := by omega
      have d12 : decide (12 < (x.imports.length : Int)) = true := decide_eq_true g12
      have e12 : 12 < x.imports.length := by omega
      have HF : Hid (¬ T) := Lib.hid (fun h0 => h12 (HT.out.mp h0).2.1)
      go_enter Tryd.func58, Tryd.ntmps58
      go_wp2_with (first | (go_at_call 44; (with_reducible refine (CP.out _).mono ?_); rintro e w2 ⟨rfl, rfl⟩))
      go_ret
      exact ⟨false, rfl, iffM_F HF.out, below1 _ _⟩
  · rw [decide_eq_false hp] at CP
    have HF : Hid (¬ T) := Lib.hid (fun h0 => hp (HT.out.mp h0).1)
    go_enter Tryd.func58, Tryd.ntmps58
    go_wp2_with (first | (go_at_call 44; (with_reducible refine (CP.out _).mono ?_); rintro e w2 ⟨rfl, rfl⟩))
    go_ret
    exact ⟨false, rfl, iffM_F HF.out, below1 _ _⟩
end Go.Proofs.YtoeofhhmkkpjbaaDoor
