/-
  All sections' bytes, as the model writes them.
-/
import Derived.Test.YtbjcldekapipaaaSecO
import Derived.Lib.SlBytesConst
namespace Go.Proofs.Ytbjcldekapipaaa
open Go.ChangeShapes Go.WideShapes Go.ChangeAt Go.RowKit Go.Deep

theorem RowB.ofAlloc (W : World) (vs : Array Value) (s : ByteArray) (ty : TypeId) (h : vs.toList = byteCells s) (hs : s.size ≤ maxLen) : RowB W.heap.size (W.alloc (.cells vs ty (vs.size, vs.size + 1))) W.heap.size s.size s := by
  have hl : vs.size = s.size := by
    have := congrArg List.length h
    rwa [byteCells_length, Array.length_toList] at this
  have hb : (W.alloc (.cells vs ty (vs.size, vs.size + 1))).heap[W.heap.size]? = some (.cells vs ty (vs.size, vs.size + 1)) := by
    show (W.heap.push _)[W.heap.size]? = _
    simp
  refine ⟨Nat.le_refl _, by simp, Nat.le_refl _, hs, fun j u hu => ?_, fun j hj => ⟨?_, ?_⟩⟩
  · simp only [World.cell?, hb]
    rw [← Array.getElem?_toList, h]
    exact hu
  · simp only [World.cell?, hb]
    rw [Array.getElem?_eq_getElem (by omega)]
    rfl
  · simp only [World.frozen?, hb]
    have h3 : ¬ vs.size ≤ j := by omega
    simp [h3]
/-- All stand within the limits, and the sum too. -/
theorem secTo_bound {xs : List Sc} (hv : ∀ (i : Nat) (x : Sc), xs[i]? = some x → secV x = true ∧ x.bytes.size ≤ 30000) : ∀ k, k ≤ xs.length → k ≤ 20 → (secTo xs k).size ≤ 5 + k * 30061
  | 0, _, _ => by rw [secTo_zero]; exact Nat.le_of_eq rfl
  | k + 1, h, h2 => by
    have h1 := secTo_bound hv k (by omega) (by omega)
    have hx := List.getElem?_eq_getElem (show k < xs.length by omega)
    have h2 := congrArg ByteArray.size (secTo_step hx)
    rw [ByteArray.size_append] at h2
    obtain ⟨ha, hb⟩ := hv k _ hx
    have := (secB_size ha (by omega)).2
    omega

set_option maxRecDepth 100000 in
set_option maxHeartbeats 1000000 in
theorem l17All_any (xs : List Sc) (hl : xs.length ≤ 20) (hv : ∀ (i : Nat) (x : Sc), xs[i]? = some x → secV x = true ∧ x.bytes.size ≤ 30000) (R : Option Addr) (c lo : Nat) (w : World) (h : Scs w lo xs R) :
    Calls Try.prog 36 #[.slice R xs.length c] w fun e w' => e = .returned (.string (secTo xs xs.length)) ∧ Below w.heap.size w w' := by
  have H := Lib.hid h
  have HV := Lib.hid hv
  have hli : (xs.length : Int) ≤ 20 := by omega
  clear h hv
  have kc := fun (w : World) (C : Array Value) (n c : Nat) => Lib.run_convert_bytes_const (P := Try.prog) w 40 5 C n c Try.underlying40 Try.underlying5
  go_enter Try.func36, Try.ntmps36
  go_wp2_with fail
  go_loopw [3, 4] (fun s i wr => ∃ k g cg : Nat, k ≤ xs.length ∧ s = .slice (some ⟨g, 0, none⟩) (secTo xs k).size cg ∧ i = .int .i64 k ∧ Hid (RowB w.heap.size wr g cg (secTo xs k)) ∧ Below w.heap.size w wr) (fun _ i _ => xs.length - (intOf i).toNat)
  case atStart =>
    have hrow := RowB.ofAlloc w #[.int .u8 0, .int .u8 99, .int .u8 111, .int .u8 114, .int .u8 1] headB 5 rfl (by decide)
    exact ⟨0, w.heap.size, 5, Nat.zero_le _, by rw [secTo_zero]; rfl, rfl, by rw [secTo_zero]; exact hrow, below1 _ _⟩
  case round =>
    obtain ⟨k, g, cg, hk, rfl, rfl, HR, hbel⟩ := hrel
    by_cases hlt : k < xs.length
    · obtain ⟨b, o, x, rfl, _, hxk, hc⟩ := (Scs.below H.out hbel).at_ hlt
      have hvx := HV.out k x hxk
      have CI := Lib.hid (fun W => l17One_any x hvx.1 (by omega) W)
      obtain ⟨c0_, c1_, c2_, _⟩ := hc
      have HB := Lib.hid hbel
      have hsz := secTo_bound HV.out k hk (by omega)
      have hsi := (secB_size hvx.1 (by omega)).2
      have HS := Lib.hid (secTo_step hxk)
      have hz : (secTo xs k).size + (secB x).size ≤ 1048576 := by omega
      clear hxk hbel hvx
      generalize secB x = I at *
      generalize secTo xs k = T at *
      go_wp2_with (first
        | (go_at_call 66; (with_reducible refine (CI.out _).mono ?_); rintro e w4 ⟨rfl, h4⟩; have HB4 := Lib.hid (bnext HB.out h4); have HR4 := Lib.hid (HR.out.below h4); clear h4)
        | (at_builtin; refine wpList_app_row rfl _ _ rfl (a := _) rfl HR4.out I rfl hz ?_; intro g' cg' w5 hr5 hb5 _ _ _; have HR5 := Lib.hid hr5; have HB5 := Lib.hid (HB4.out.trans hb5); clear hr5 hb5))
      have HR6 : Hid (RowB w.heap.size w5 g' cg' (secTo xs (k + 1))) := by
        rw [← HS.out]
        exact HR5
      go_roundw
      case rel => exact ⟨k + 1, g', cg', by omega, by rw [← HS.out, ByteArray.size_append], by go_num, HR6, HB5.out⟩
      case measure => simp [intOf]; omega
    · obtain rfl : k = xs.length := by omega
      have HB := Lib.hid hbel
      have hcv := HR.out.back
      clear hbel
      go_wp2_with fail
      go_ret
      exact ⟨rfl, HB.out⟩

set_option maxHeartbeats 1000000 in
/-- The model's answer. -/
theorem specSectionBytes_any (xs : List Sc) (hl : xs.length ≤ 1048576) (hw : ∀ (i : Nat) (x : Sc), xs[i]? = some x → x.wt ≤ 1048576) (R : Option Addr) (c lo : Nat) (w : World) (h : Scs w lo xs R) :
    Calls Try.prog 12 #[.slice R xs.length c] w fun e w' => e = .returned (.string (secA xs)) ∧ Below w.heap.size w w' := by
  by_cases h20 : xs.length ≤ 20
  · have h20i : (xs.length : Int) ≤ 20 := by omega
    have H := Lib.hid h
    have HW := Lib.hid hw
    clear h hw
    go_enter Try.func12, Try.ntmps12
    go_wp2_with fail
    go_loopw [3] (fun i wr => ∃ k : Nat, k ≤ xs.length ∧ i = .int .i64 k ∧ Hid (∀ (i : Nat) (x : Sc), i < k → xs[i]? = some x → secV x = true ∧ x.bytes.size ≤ 30000) ∧ Below w.heap.size w wr) (fun i _ => xs.length - (intOf i).toNat)
    case atStart => exact ⟨0, Nat.zero_le _, rfl, (fun i u hi _ => by omega), Below.refl _ _⟩
    case round =>
      obtain ⟨k, hk, rfl, HN, hbel⟩ := hrel
      by_cases hlt : k < xs.length
      · obtain ⟨b, o, x, rfl, _, hxk, hc⟩ := (Scs.below H.out hbel).at_ hlt
        have hwx := HW.out k x hxk
        obtain ⟨hna, hby, _⟩ := Sc.parts_le hwx
        have CK := (fun W => l17Section_any x (by omega) W)
        obtain ⟨c0_, c1_, c2_, _⟩ := hc
        have HB := Lib.hid hbel
        have HX := Lib.hid hxk
        clear hxk hbel hwx hna
        cases hv : secV x with
        | false =>
          rw [hv] at CK
          have CK := Lib.hid CK
          have HBad : Hid (BadS xs (k + 1)) := Lib.hid ⟨k, x, by omega, HX.out, hv⟩
          clear hv hby
          go_wp2_with (go_at_call 35; (with_reducible refine (CK.out _).mono ?_); rintro e w3 ⟨rfl, h3⟩; have HB3 := Lib.hid (bnext HB.out h3); clear h3)
          go_ret
          exact ⟨by rw [secA_bad HBad.out]; rfl, HB3.out⟩
        | true =>
          rw [hv] at CK
          have CK := Lib.hid CK
          have HV := Lib.hid hv
          clear hv
          by_cases hlen : x.bytes.size ≤ 30000
          · have hleni : ¬ (30000 < (x.bytes.size : Int)) := by omega
            go_wp2_with (go_at_call 35; (with_reducible refine (CK.out _).mono ?_); rintro e w3 ⟨rfl, h3⟩; have HB3 := Lib.hid (bnext HB.out h3); have d2 := keepCell h3 c2_; clear h3)
            go_roundw
            case rel =>
              refine ⟨k + 1, by omega, by go_num, ?_, HB3.out⟩
              intro i y hi hy
              by_cases e : i = k
              · subst e
                obtain rfl : x = y := Option.some.inj (HX.out.symm.trans hy)
                exact ⟨HV.out, hlen⟩
              · exact HN.out i y (by omega) hy
            case measure => simp [intOf]; omega
          · have hleni : (30000 < (x.bytes.size : Int)) := by omega
            have HG : Hid (secA xs = ⟨#[]⟩) := by
              have h1 := congrArg ByteArray.size (secTo_step HX.out)
              rw [ByteArray.size_append] at h1
              have h2 := (secB_size HV.out (by omega)).1
              exact secA_great (k := k + 1) (by omega) (by omega)
            go_wp2_with (go_at_call 35; (with_reducible refine (CK.out _).mono ?_); rintro e w3 ⟨rfl, h3⟩; have HB3 := Lib.hid (bnext HB.out h3); have d2 := keepCell h3 c2_; clear h3)
            go_ret
            exact ⟨by rw [HG.out]; rfl, HB3.out⟩
      · obtain rfl : k = xs.length := by omega
        have HAll : ∀ (i : Nat) (x : Sc), xs[i]? = some x → secV x = true ∧ x.bytes.size ≤ 30000 := fun i x hx => HN.out i x (List.getElem?_eq_some_iff.1 hx).1 hx
        have hnb : ¬ BadS xs xs.length := fun ⟨i, u, _, hu, hno⟩ => by
          rw [(HAll i u hu).1] at hno
          cases hno
        have CA := Lib.hid (l17All_any xs h20 HAll R c lo wr (H.out.below hbel))
        have HB := Lib.hid hbel
        by_cases hz : (secTo xs xs.length).size ≤ 30000
        · have HG := Lib.hid (secA_good h20 hnb hz)
          clear hbel HAll hnb
          generalize secTo xs xs.length = T at *
          have hzi : ¬ (30000 < (T.size : Int)) := by omega
          go_wp2_with (go_at_call 36; (with_reducible refine CA.out.mono ?_); rintro e w3 ⟨rfl, h3⟩; have HB3 := Lib.hid (bnext HB.out h3); clear h3)
          go_ret
          exact ⟨by rw [HG.out]; rfl, HB3.out⟩
        · have HG := Lib.hid (secA_great (k := xs.length) (Nat.le_refl _) (by omega))
          clear hbel HAll hnb
          generalize secTo xs xs.length = T at *
          have hzi : (30000 < (T.size : Int)) := by omega
          go_wp2_with (go_at_call 36; (with_reducible refine CA.out.mono ?_); rintro e w3 ⟨rfl, h3⟩; have HB3 := Lib.hid (bnext HB.out h3); clear h3)
          go_ret
          exact ⟨by rw [HG.out]; rfl, HB3.out⟩
  · rw [show secA xs = ⟨#[]⟩ from secA_long h20]
    have h20i : ¬ (xs.length : Int) ≤ 20 := by omega
    clear h h20
    go_enter Try.func12, Try.ntmps12
    go_wp2_with fail
    go_ret
    exact ⟨rfl, Below.refl _ _⟩
end Go.Proofs.Ytbjcldekapipaaa
