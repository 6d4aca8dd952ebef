/-
  The program's looks whether instructions, imports and cores are in order.
-/
import Derived.Test.YtbjcldekapipaaaGreatDoorShape15
import Derived.Test.YtbjcldekapipaaaGreatDoorSays
namespace Go.Proofs.YtbjcldekapipaaaGreatDoor
open Go.ChangeShapes Go.WideShapes Go.ChangeAt Go.RowKit

theorem notIns_any (op a : Int) (w : World) (ht : OpTab w) :
    Calls Tryz.prog 69 #[.agg #[.int .i64 op, .int .i64 a]] w fun e w' => e = .returned (.bool (!insV op a)) ∧ Below w.heap.size w w' := by
  have C := Lib.hid (fun W hb => implInsOk_any op a W (ht.keep hb))
  clear ht
  generalize insV op a = v at *
  go_enter Tryz.func69, Tryz.ntmps69
  go_wp2_with (go_at_call 85; (with_reducible refine (C.out _ (below1 _ _)).mono ?_); rintro e w2 ⟨rfl, hb2⟩; have HB2 := Lib.hid (bnext (below1 _ _) hb2); clear hb2)
  go_ret
  exact ⟨rfl, HB2.out⟩
theorem notIn_any (x : In) (w : World) (ht : OpTab w) :
    Calls Tryz.prog 69 #[.agg #[.int .i64 x.op, .int .i64 x.a]] w fun e w' => e = .returned (.bool (!inV x)) ∧ Below w.heap.size w w' := notIns_any x.op x.a w ht
theorem notImport_any (x : Im) (hx : x.wt ≤ 1048576) (w : World) :
    Calls Tryz.prog 59 #[.agg #[.string x.name, .int .i64 x.params, .bool x.result]] w fun e w' => e = .returned (.bool (!imV x)) ∧ Below w.heap.size w w' := by
  have hs : x.name.size ≤ 1048576 := by unfold Im.wt at hx; omega
  have CW := Lib.hid (fun W => implWord_any x.name hs W)
  have CP := Lib.hid (fun W => has15_any 0 8 x.params W)
  unfold imV
  generalize wordV x.name = a at *
  generalize decide (0 ≤ x.params ∧ x.params ≤ 8) = p at *
  clear hx hs
  cases a with
  | false =>
    go_enter Tryz.func59, Tryz.ntmps59
    go_wp2_with (go_at_call 102; (with_reducible refine (CW.out _).mono ?_); rintro e w1 ⟨rfl, h1⟩; have HB1 := Lib.hid (bnext (below1 _ _) h1); clear h1)
    go_ret
    exact ⟨rfl, HB1.out⟩
  | true =>
    go_enter Tryz.func59, Tryz.ntmps59
    go_wp2_with (first
      | (go_at_call 102; (with_reducible refine (CW.out _).mono ?_); rintro e w1 ⟨rfl, h1⟩; have HB1 := Lib.hid (bnext (below1 _ _) h1); have c1 := keepCell (a := ⟨w.heap.size, 1, none⟩) (v := .int .i64 x.params) h1 (by go_simp); clear h1)
      | (go_at_call 57; (with_reducible refine (CP.out _).mono ?_); rintro e w2 ⟨rfl, h2⟩; have HB2 := Lib.hid (bnext HB1.out h2); clear h2))
    go_ret
    exact ⟨by simp, HB2.out⟩

set_option maxHeartbeats 1000000 in
theorem idxIn_any (xs : List In) (hl : xs.length ≤ 1048576) (R : Option Addr) (c lo : Nat) (w : World) (h : Ins w lo xs R) (ht : OpTab w) :
    Calls Tryz.prog 105 #[.slice R xs.length c, .func (.func 69) #[] #[]] w (IdxM (BadE inV xs xs.length) w) := by
  have H := Lib.hid h
  have HT := Lib.hid ht
  skip
  clear h ht
  go_enter Tryz.func105, Tryz.ntmps105
  go_wp2_with fail
  go_loopw [8] (fun i wr => ∃ k : Nat, k ≤ xs.length ∧ i = .int .i64 k ∧ Hid (¬ BadE inV xs k) ∧ Below w.heap.size w wr) (fun i _ => xs.length - (intOf i).toNat)
  case atStart => exact ⟨0, Nat.zero_le _, rfl, (fun ⟨i, u, hi, _⟩ => by omega), Below.refl _ _⟩
  case round =>
    obtain ⟨k, hk, rfl, hno, hbel⟩ := hrel
    by_cases hlt : k < xs.length
    · obtain ⟨b, o, x, rfl, _, hxk, hc⟩ := (Ins.below H.out hbel).at_ hlt
      have hA := hc.at_
      have C := Lib.hid (fun W (hb : Below w.heap.size w W) => notIn_any x W (HT.out.keep hb))
      obtain ⟨c0_, c1_, _⟩ := hc
      have HN := Lib.hid hxk
      have HB := Lib.hid hbel
      clear hxk hbel hA
      cases hv : inV x with
      | true =>
        rw [hv] at C
        have HV := Lib.hid hv
        clear hv
        go_wp2_with (go_at_call 69; (with_reducible refine (C.out _ HB.out).mono ?_); rintro e w2 ⟨rfl, hb2⟩; have HB2 := Lib.hid hb2; clear hb2)
        go_roundw
        case rel => exact ⟨k + 1, by omega, by go_num, BadE.no_step hno.out HN.out HV.out, bnext HB.out HB2.out⟩
        case measure => simp [intOf]; omega
      | false =>
        rw [hv] at C
        have HV := Lib.hid hv
        clear hv
        go_wp2_with (go_at_call 69; (with_reducible refine (C.out _ HB.out).mono ?_); rintro e w2 ⟨rfl, hb2⟩; have HB2 := Lib.hid hb2; clear hb2)
        go_ret
        exact ⟨k, rfl, by omega, ⟨fun _ => ⟨k, x, hlt, HN.out, HV.out⟩, fun _ => by omega⟩, bnext HB.out HB2.out⟩
    · have hk' : k = xs.length := by omega
      have HB := Lib.hid hbel
      clear hbel
      go_wp2
      go_ret
      exact ⟨-1, rfl, by omega, ⟨(fun h => by omega), (fun h => absurd (by rw [hk']; exact h) hno.out)⟩, HB.out⟩
theorem contIn_any (xs : List In) (hl : xs.length ≤ 1048576) (R : Option Addr) (c lo : Nat) (w : World) (h : Ins w lo xs R) (ht : OpTab w) :
    Calls Tryz.prog 68 #[.slice R xs.length c, .func (.func 69) #[] #[]] w (SaysM (BadE inV xs xs.length) w) := by
  have C := Lib.hid (idxIn_any xs hl R c lo w h ht)
  clear h ht
  go_enter Tryz.func68, Tryz.ntmps68
  go_wp2_with (go_at_call 105; (with_reducible refine C.out.mono ?_); rintro e w2 ⟨v, rfl, hv1, hv, hb2⟩; have HV := Lib.hid hv; have HB2 := Lib.hid hb2; clear hv hb2)
  go_ret
  exact ⟨decide (0 ≤ v), rfl, by rw [decide_eq_true_iff]; exact HV.out, HB2.out⟩

set_option maxHeartbeats 1000000 in
theorem coreShape_any (x : Co) (hx : x.wt ≤ 1048576) (R : Option Addr) (c lo : Nat) (w : World) (h : Co.At w lo x R) (ht : OpTab w) :
    Calls Tryz.prog 104 #[.agg #[.string x.name, .int .i64 x.params, .int .i64 x.locals, .bool x.result, .slice R x.code.length c]] w fun e w' => e = .returned (.bool (coV x)) ∧ Below w.heap.size w w' := by
  have hs : x.name.size ≤ 1048576 := by have := In.wts_nonneg x.code; unfold Co.wt at hx; omega
  have hl : x.code.length ≤ 1048576 := by have := In.wts_nonneg x.code; unfold Co.wt at hx; omega
  have CW := Lib.hid (fun W => implWord_any x.name hs W)
  have CP := Lib.hid (fun W => has15_any 0 8 x.params W)
  have CL := Lib.hid (fun W => has15_any 0 8 x.locals W)
  have CC := Lib.hid (fun W (hb : Below w.heap.size w W) => contIn_any x.code hl R c lo W (Ins.below h hb) (ht.keep hb))
  unfold coV
  generalize wordV x.name = a at *
  generalize decide (0 ≤ x.params ∧ x.params ≤ 8) = p at *
  generalize decide (0 ≤ x.locals ∧ x.locals ≤ 8) = q at *
  clear hx hs h ht
  cases a with
  | false =>
    clear CC
    go_enter Tryz.func104, Tryz.ntmps104
    go_wp2_with (go_at_call 102; (with_reducible refine (CW.out _).mono ?_); rintro e w1 ⟨rfl, h1⟩; have HB1 := Lib.hid (bnext (below1 _ _) h1); clear h1)
    go_ret
    exact ⟨rfl, HB1.out⟩
  | true =>
    cases p with
    | false =>
      clear CC
      go_enter Tryz.func104, Tryz.ntmps104
      go_wp2_with (first
        | (go_at_call 102; (with_reducible refine (CW.out _).mono ?_); rintro e w1 ⟨rfl, h1⟩; have HB1 := Lib.hid (bnext (below1 _ _) h1); have k1 := keepCell (a := ⟨w.heap.size, 1, none⟩) (v := .int .i64 x.params) h1 (by go_simp); clear h1)
        | (go_at_call 57; (with_reducible refine (CP.out _).mono ?_); rintro e w2 ⟨rfl, h2⟩; have HB2 := Lib.hid (bnext HB1.out h2); clear h2))
      go_ret
      exact ⟨rfl, HB2.out⟩
    | true =>
      cases q with
      | false =>
        clear CC
        go_enter Tryz.func104, Tryz.ntmps104
        go_wp2_with (first
          | (go_at_call 102; (with_reducible refine (CW.out _).mono ?_); rintro e w1 ⟨rfl, h1⟩; have HB1 := Lib.hid (bnext (below1 _ _) h1); have k1 := keepCell (a := ⟨w.heap.size, 1, none⟩) (v := .int .i64 x.params) h1 (by go_simp); have k2 := keepCell (a := ⟨w.heap.size, 2, none⟩) (v := .int .i64 x.locals) h1 (by go_simp); clear h1)
          | (go_at_call 57; first
              | ((with_reducible refine (CL.out _).mono ?_); rintro e w3 ⟨rfl, h3⟩; have HB3 := Lib.hid (bnext HB2.out h3); clear h3)
              | ((with_reducible refine (CP.out _).mono ?_); rintro e w2 ⟨rfl, h2⟩; have HB2 := Lib.hid (bnext HB1.out h2); have j2 := keepCell h2 k2; clear h2)))
        go_ret
        exact ⟨rfl, HB3.out⟩
      | true =>
        by_cases h120 : x.code.length ≤ 120
        · have h120i : (x.code.length : Int) ≤ 120 := by omega
          have hgoal : ∀ v : Bool, (v = true ↔ BadE inV x.code x.code.length) → (true && (true && (true && (decide (x.code.length ≤ 120) && x.code.all inV)))) = !v := by
            intro v hv
            rw [decide_eq_true h120]
            cases v with
            | true =>
              have := BadE.not_all (hv.mp rfl)
              simpa using this
            | false =>
              have h9 : x.code.all inV = true := BadE.all (fun hb => by have := hv.mpr hb; cases this)
              rw [h9]
              rfl
          have HG := Lib.hid hgoal
          obtain ⟨G, hG⟩ : ∃ G, (true && (true && (true && (decide (x.code.length ≤ 120) && x.code.all inV)))) = G := ⟨_, rfl⟩
          rw [hG] at HG ⊢
          clear hgoal hG
          go_enter Tryz.func104, Tryz.ntmps104
          go_wp2_with (first
            | (go_at_call 102; (with_reducible refine (CW.out _).mono ?_); rintro e w1 ⟨rfl, h1⟩; have HB1 := Lib.hid (bnext (below1 _ _) h1); have k1 := keepCell (a := ⟨w.heap.size, 1, none⟩) (v := .int .i64 x.params) h1 (by go_simp); have k2 := keepCell (a := ⟨w.heap.size, 2, none⟩) (v := .int .i64 x.locals) h1 (by go_simp); have k4 := keepCell (a := ⟨w.heap.size, 4, none⟩) (v := .slice R x.code.length c) h1 (by go_simp); clear h1)
            | (go_at_call 57; first
                | ((with_reducible refine (CL.out _).mono ?_); rintro e w3 ⟨rfl, h3⟩; have HB3 := Lib.hid (bnext HB2.out h3); have i4 := keepCell h3 j4; clear h3 j4)
                | ((with_reducible refine (CP.out _).mono ?_); rintro e w2 ⟨rfl, h2⟩; have HB2 := Lib.hid (bnext HB1.out h2); have j2 := keepCell h2 k2; have j4 := keepCell h2 k4; clear h2 k2 k4 k1))
            | (go_at_call 68; (with_reducible refine (CC.out _ HB3.out).mono ?_); rintro e w4 ⟨v, rfl, hv, h4⟩; have HV := Lib.hid hv; have HB4 := Lib.hid (bnext HB3.out h4); clear h4 hv))
          go_ret
          exact ⟨by rw [HG.out v HV.out]; rfl, HB4.out⟩
        · have h120i : ¬ (x.code.length : Int) ≤ 120 := by omega
          have hd : decide ((x.code.length : Int) ≤ 120) = false := decide_eq_false h120i
          rw [decide_eq_false h120]
          clear CC
          go_enter Tryz.func104, Tryz.ntmps104
          go_wp2_with (first
            | (go_at_call 102; (with_reducible refine (CW.out _).mono ?_); rintro e w1 ⟨rfl, h1⟩; have HB1 := Lib.hid (bnext (below1 _ _) h1); have k1 := keepCell (a := ⟨w.heap.size, 1, none⟩) (v := .int .i64 x.params) h1 (by go_simp); have k2 := keepCell (a := ⟨w.heap.size, 2, none⟩) (v := .int .i64 x.locals) h1 (by go_simp); have k4 := keepCell (a := ⟨w.heap.size, 4, none⟩) (v := .slice R x.code.length c) h1 (by go_simp); clear h1)
            | (go_at_call 57; first
                | ((with_reducible refine (CL.out _).mono ?_); rintro e w3 ⟨rfl, h3⟩; have HB3 := Lib.hid (bnext HB2.out h3); have i4 := keepCell h3 j4; clear h3 j4)
                | ((with_reducible refine (CP.out _).mono ?_); rintro e w2 ⟨rfl, h2⟩; have HB2 := Lib.hid (bnext HB1.out h2); have j2 := keepCell h2 k2; have j4 := keepCell h2 k4; clear h2 k2 k4 k1)))
          go_ret
          exact ⟨rfl, HB3.out⟩

theorem notCore_any (x : Co) (hx : x.wt ≤ 1048576) (R : Option Addr) (c lo : Nat) (w : World) (h : Co.At w lo x R) (ht : OpTab w) :
    Calls Tryz.prog 61 #[.agg #[.string x.name, .int .i64 x.params, .int .i64 x.locals, .bool x.result, .slice R x.code.length c]] w fun e w' => e = .returned (.bool (!coV x)) ∧ Below w.heap.size w w' := by
  have C := Lib.hid (fun W (hb : Below w.heap.size w W) => coreShape_any x hx R c lo W (Co.At.below h hb) (ht.keep hb))
  clear h ht hx
  generalize coV x = v at *
  go_enter Tryz.func61, Tryz.ntmps61
  go_wp2_with (go_at_call 104; (with_reducible refine (C.out _ (below1 _ _)).mono ?_); rintro e w2 ⟨rfl, hb2⟩; have HB2 := Lib.hid (bnext (below1 _ _) hb2); clear hb2)
  go_ret
  exact ⟨rfl, HB2.out⟩

set_option maxHeartbeats 1000000 in
theorem idxIm_any (xs : List Im) (hl : xs.length ≤ 1048576) (hls : ∀ (i : Nat) (x : Im), xs[i]? = some x → x.wt ≤ 1048576) (R : Option Addr) (c lo : Nat) (w : World) (h : Ims w lo xs R) (ht : OpTab w) :
    Calls Tryz.prog 101 #[.slice R xs.length c, .func (.func 59) #[] #[]] w (IdxM (BadE imV xs xs.length) w) := by
  have H := Lib.hid h
  have HT := Lib.hid ht
  have HLS := Lib.hid hls
  clear hls
  clear h ht
  go_enter Tryz.func101, Tryz.ntmps101
  go_wp2_with fail
  go_loopw [8] (fun i wr => ∃ k : Nat, k ≤ xs.length ∧ i = .int .i64 k ∧ Hid (¬ BadE imV xs k) ∧ Below w.heap.size w wr) (fun i _ => xs.length - (intOf i).toNat)
  case atStart => exact ⟨0, Nat.zero_le _, rfl, (fun ⟨i, u, hi, _⟩ => by omega), Below.refl _ _⟩
  case round =>
    obtain ⟨k, hk, rfl, hno, hbel⟩ := hrel
    by_cases hlt : k < xs.length
    · obtain ⟨b, o, x, rfl, _, hxk, hc⟩ := (Ims.below H.out hbel).at_ hlt
      have hA := hc.at_
      have C := Lib.hid (fun W (_ : Below w.heap.size w W) => notImport_any x (HLS.out k x hxk) W)
      obtain ⟨c0_, c1_, c2_, _⟩ := hc
      have HN := Lib.hid hxk
      have HB := Lib.hid hbel
      clear hxk hbel hA
      cases hv : imV x with
      | true =>
        rw [hv] at C
        have HV := Lib.hid hv
        clear hv
        go_wp2_with (go_at_call 59; (with_reducible refine (C.out _ HB.out).mono ?_); rintro e w2 ⟨rfl, hb2⟩; have HB2 := Lib.hid hb2; clear hb2)
        go_roundw
        case rel => exact ⟨k + 1, by omega, by go_num, BadE.no_step hno.out HN.out HV.out, bnext HB.out HB2.out⟩
        case measure => simp [intOf]; omega
      | false =>
        rw [hv] at C
        have HV := Lib.hid hv
        clear hv
        go_wp2_with (go_at_call 59; (with_reducible refine (C.out _ HB.out).mono ?_); rintro e w2 ⟨rfl, hb2⟩; have HB2 := Lib.hid hb2; clear hb2)
        go_ret
        exact ⟨k, rfl, by omega, ⟨fun _ => ⟨k, x, hlt, HN.out, HV.out⟩, fun _ => by omega⟩, bnext HB.out HB2.out⟩
    · have hk' : k = xs.length := by omega
      have HB := Lib.hid hbel
      clear hbel
      go_wp2
      go_ret
      exact ⟨-1, rfl, by omega, ⟨(fun h => by omega), (fun h => absurd (by rw [hk']; exact h) hno.out)⟩, HB.out⟩
theorem contIm_any (xs : List Im) (hl : xs.length ≤ 1048576) (hls : ∀ (i : Nat) (x : Im), xs[i]? = some x → x.wt ≤ 1048576) (R : Option Addr) (c lo : Nat) (w : World) (h : Ims w lo xs R) (ht : OpTab w) :
    Calls Tryz.prog 58 #[.slice R xs.length c, .func (.func 59) #[] #[]] w (SaysM (BadE imV xs xs.length) w) := by
  have C := Lib.hid (idxIm_any xs hl hls R c lo w h ht)
  clear h ht hls
  go_enter Tryz.func58, Tryz.ntmps58
  go_wp2_with (go_at_call 101; (with_reducible refine C.out.mono ?_); rintro e w2 ⟨v, rfl, hv1, hv, hb2⟩; have HV := Lib.hid hv; have HB2 := Lib.hid hb2; clear hv hb2)
  go_ret
  exact ⟨decide (0 ≤ v), rfl, by rw [decide_eq_true_iff]; exact HV.out, HB2.out⟩
set_option maxHeartbeats 1000000 in
theorem idxCo_any (xs : List Co) (hl : xs.length ≤ 1048576) (hls : ∀ (i : Nat) (x : Co), xs[i]? = some x → x.wt ≤ 1048576) (R : Option Addr) (c lo : Nat) (w : World) (h : Cos w lo xs R) (ht : OpTab w) :
    Calls Tryz.prog 103 #[.slice R xs.length c, .func (.func 61) #[] #[]] w (IdxM (BadE coV xs xs.length) w) := by
  have H := Lib.hid h
  have HT := Lib.hid ht
  have HLS := Lib.hid hls
  clear hls
  clear h ht
  go_enter Tryz.func103, Tryz.ntmps103
  go_wp2_with fail
  go_loopw [8] (fun i wr => ∃ k : Nat, k ≤ xs.length ∧ i = .int .i64 k ∧ Hid (¬ BadE coV xs k) ∧ Below w.heap.size w wr) (fun i _ => xs.length - (intOf i).toNat)
  case atStart => exact ⟨0, Nat.zero_le _, rfl, (fun ⟨i, u, hi, _⟩ => by omega), Below.refl _ _⟩
  case round =>
    obtain ⟨k, hk, rfl, hno, hbel⟩ := hrel
    by_cases hlt : k < xs.length
    · obtain ⟨b, o, x, R1, c1, rfl, _, hxk, hc⟩ := (Cos.below H.out hbel).at_ hlt
      have hA := hc.at_
      have C := Lib.hid (notCore_any x (HLS.out k x hxk) R1 c1 lo wr hA (HT.out.keep hbel))
      obtain ⟨c0_, c1_, c2_, c3_, c4_, _⟩ := hc
      have HN := Lib.hid hxk
      have HB := Lib.hid hbel
      clear hxk hbel hA
      cases hv : coV x with
      | true =>
        rw [hv] at C
        have HV := Lib.hid hv
        clear hv
        go_wp2_with (go_at_call 61; (with_reducible refine C.out.mono ?_); rintro e w2 ⟨rfl, hb2⟩; have HB2 := Lib.hid hb2; clear hb2)
        go_roundw
        case rel => exact ⟨k + 1, by omega, by go_num, BadE.no_step hno.out HN.out HV.out, bnext HB.out HB2.out⟩
        case measure => simp [intOf]; omega
      | false =>
        rw [hv] at C
        have HV := Lib.hid hv
        clear hv
        go_wp2_with (go_at_call 61; (with_reducible refine C.out.mono ?_); rintro e w2 ⟨rfl, hb2⟩; have HB2 := Lib.hid hb2; clear hb2)
        go_ret
        exact ⟨k, rfl, by omega, ⟨fun _ => ⟨k, x, hlt, HN.out, HV.out⟩, fun _ => by omega⟩, bnext HB.out HB2.out⟩
    · have hk' : k = xs.length := by omega
      have HB := Lib.hid hbel
      clear hbel
      go_wp2
      go_ret
      exact ⟨-1, rfl, by omega, ⟨(fun h => by omega), (fun h => absurd (by rw [hk']; exact h) hno.out)⟩, HB.out⟩
theorem contCo_any (xs : List Co) (hl : xs.length ≤ 1048576) (hls : ∀ (i : Nat) (x : Co), xs[i]? = some x → x.wt ≤ 1048576) (R : Option Addr) (c lo : Nat) (w : World) (h : Cos w lo xs R) (ht : OpTab w) :
    Calls Tryz.prog 60 #[.slice R xs.length c, .func (.func 61) #[] #[]] w (SaysM (BadE coV xs xs.length) w) := by
  have C := Lib.hid (idxCo_any xs hl hls R c lo w h ht)
  clear h ht hls
  go_enter Tryz.func60, Tryz.ntmps60
  go_wp2_with (go_at_call 103; (with_reducible refine C.out.mono ?_); rintro e w2 ⟨v, rfl, hv1, hv, hb2⟩; have HV := Lib.hid hv; have HB2 := Lib.hid hb2; clear hv hb2)
  go_ret
  exact ⟨decide (0 ≤ v), rfl, by rw [decide_eq_true_iff]; exact HV.out, HB2.out⟩
end Go.Proofs.YtbjcldekapipaaaGreatDoor
