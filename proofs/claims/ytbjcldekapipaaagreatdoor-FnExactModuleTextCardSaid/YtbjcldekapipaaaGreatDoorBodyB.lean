/-
  The bytes of a body: both BodyBytes.
-/
import Derived.Test.YtbjcldekapipaaaGreatDoorInsBy
import Derived.Test.YtbjcldekapipaaaGreatDoorShapeI
import Derived.Test.YtbjcldekapipaaaGreatDoorRowB
namespace Go.Proofs.YtbjcldekapipaaaGreatDoor
open Go.ChangeShapes Go.WideShapes Go.ChangeAt Go.RowKit Go.Deep

def insCat : List In → ByteArray
  | [] => ⟨#[]⟩
  | x :: xs => insBy x.op x.a ++ insCat xs
/-- The number of instructions, and the first so many of them. -/
def bodyTo (xs : List In) (k : Nat) : ByteArray := strOfNums (lebU xs.length) ++ insCat (xs.take k)
def bodyV (xs : List In) : Bool := decide (xs.length ≤ 120) && xs.all inV
/-- The answer. -/
def bodyA (xs : List In) : ByteArray := if bodyV xs = true then bodyTo xs xs.length else ⟨#[]⟩
theorem app_nil (a : ByteArray) : a ++ (⟨#[]⟩ : ByteArray) = a := by
  refine ByteArray.ext (Array.toList_inj.mp ?_)
  rw [ByteArray.data_append, Array.toList_append]
  simp
theorem nil_app (a : ByteArray) : (⟨#[]⟩ : ByteArray) ++ a = a := by
  refine ByteArray.ext (Array.toList_inj.mp ?_)
  rw [ByteArray.data_append, Array.toList_append]
  simp
theorem insCat_snoc : ∀ (xs : List In) (x : In), insCat (xs ++ [x]) = insCat xs ++ insBy x.op x.a
  | [], x => by
    show insBy x.op x.a ++ ⟨#[]⟩ = ⟨#[]⟩ ++ insBy x.op x.a
    rw [app_nil, nil_app]
  | y :: xs, x => by
    show insBy y.op y.a ++ insCat (xs ++ [x]) = (insBy y.op y.a ++ insCat xs) ++ insBy x.op x.a
    rw [insCat_snoc xs x, ByteArray.append_assoc]
theorem bodyTo_step {xs : List In} {k : Nat} {x : In} (h : xs[k]? = some x) : bodyTo xs k ++ insBy x.op x.a = bodyTo xs (k + 1) := by
  obtain ⟨hk, rfl⟩ := List.getElem?_eq_some_iff.1 h
  unfold bodyTo
  rw [List.take_succ_eq_append_getElem hk, insCat_snoc, ByteArray.append_assoc]
theorem bodyTo_zero (xs : List In) : bodyTo xs 0 = strOfNums (lebU xs.length) := by
  unfold bodyTo
  rw [List.take_zero]
  exact app_nil _
theorem insV_le {op a : Int} (h : insV op a = true) : (insBy op a).size ≤ 11 := insBy_leB op a (insV_bdB h).1 (insV_bdB h).2
theorem insCat_size : ∀ (xs : List In), xs.all inV = true → (insCat xs).size ≤ 11 * xs.length
  | [], _ => Nat.zero_le _
  | x :: xs, h => by
    rw [List.all_cons, Bool.and_eq_true] at h
    have h1 := insV_le h.1
    have h2 := insCat_size xs h.2
    show (insBy x.op x.a ++ insCat xs).size ≤ _
    rw [ByteArray.size_append, List.length_cons]
    omega
theorem all_take {xs : List In} {k : Nat} (h : ¬ BadE inV xs k) : (xs.take k).all inV = true := by
  rw [List.all_eq_true]
  intro x hx
  obtain ⟨i, hi⟩ := List.getElem?_of_mem hx
  have hl := (List.getElem?_eq_some_iff.1 hi).1
  rw [List.length_take] at hl
  rw [List.getElem?_take_of_lt (by omega)] at hi
  cases hv : inV x with
  | true => rfl
  | false => exact absurd ⟨i, x, by omega, hi, hv⟩ h
theorem bodyTo_size {xs : List In} {k : Nat} (hl : xs.length ≤ 1048576) (hk : k ≤ 120) (h : ¬ BadE inV xs k) : (bodyTo xs k).size ≤ 1400 := by
  unfold bodyTo
  rw [ByteArray.size_append]
  have h1 := uleb_size xs.length (by omega)
  have h2 := insCat_size _ (all_take h)
  rw [List.length_take] at h2
  omega
theorem bodyA_long {xs : List In} (h : ¬ xs.length ≤ 120) : bodyA xs = ⟨#[]⟩ := by
  unfold bodyA bodyV
  rw [decide_eq_false h, Bool.false_and, if_neg (by simp)]
theorem bodyA_bad {xs : List In} {k : Nat} (h : BadE inV xs k) : bodyA xs = ⟨#[]⟩ := by
  unfold bodyA bodyV
  rw [if_neg]
  intro hh
  rw [Bool.and_eq_true] at hh
  exact h.not_all hh.2
theorem bodyA_good {xs : List In} (hl : xs.length ≤ 120) (h : ¬ BadE inV xs xs.length) : bodyA xs = bodyTo xs xs.length := by
  unfold bodyA bodyV
  rw [if_pos]
  rw [decide_eq_true hl, Bool.true_and]
  exact BadE.all h

set_option maxHeartbeats 1000000 in
/-- The program's. -/
theorem implBodyBytes_any (xs : List In) (hl : xs.length ≤ 1048576) (R : Option Addr) (c lo : Nat) (w : World) (h : Ins w lo xs R) (ht : OpTab w) :
    Calls Tryz.prog 30 #[.slice R xs.length c] w fun e w' => e = .returned (.string (bodyA xs)) ∧ Below w.heap.size w w' := by
  by_cases h120 : xs.length ≤ 120
  · have h120i : (xs.length : Int) ≤ 120 := by omega
    have CC := contIn_any xs hl R c lo w h ht
    by_cases hb : BadE inV xs xs.length
    · rw [bodyA_bad hb]
      have CC := Lib.hid (CC.mono fun _ _ j => j.yes hb)
      clear hb h ht
      go_enter Tryz.func30, Tryz.ntmps30
      go_wp2_with (go_at_call 68; (with_reducible refine CC.out.mono ?_); rintro e w1 ⟨rfl, h1⟩; have HB1 := Lib.hid h1; clear h1)
      go_ret
      exact ⟨rfl, HB1.out⟩
    · rw [bodyA_good h120 hb]
      have CC := Lib.hid (CC.mono fun _ _ j => j.no hb)
      have HN := Lib.hid hb
      have H := Lib.hid h
      have HT := Lib.hid ht
      have CP := Lib.hid (fun W => implPutLeb_any xs.length W (by omega))
      rw [← bodyTo_zero] at CP
      clear hb h ht
      go_enter Tryz.func30, Tryz.ntmps30
      go_wp2_with (first
        | (go_at_call 68; (with_reducible refine CC.out.mono ?_); rintro e w1 ⟨rfl, h1⟩; have HB1 := Lib.hid h1; clear h1)
        | (go_at_call 27; (with_reducible refine (CP.out _).mono ?_); rintro e w2 ⟨rfl, h2⟩; have HB2 := Lib.hid (bnext HB1.out h2); clear h2))
      go_loopw [3, 18] (fun s i wr => ∃ k : Nat, k ≤ xs.length ∧ s = .string (bodyTo xs k) ∧ i = .int .i64 k ∧ Below w.heap.size w wr) (fun _ i _ => xs.length - (intOf i).toNat)
      case atStart => exact ⟨0, Nat.zero_le _, rfl, rfl, HB2.out⟩
      case round =>
        obtain ⟨k, hk, rfl, rfl, hbel⟩ := hrel
        by_cases hlt : k < xs.length
        · obtain ⟨b, o, x, rfl, _, hxk, hc⟩ := (Ins.below H.out hbel).at_ hlt
          have hno : ¬ BadE inV xs k := fun ⟨i, y, hi, hy, hv⟩ => HN.out ⟨i, y, by omega, hy, hv⟩
          have hv : inV x = true := by
            cases hv : inV x with
            | true => rfl
            | false => exact absurd ⟨k, x, hlt, hxk, hv⟩ HN.out
          have hv' : insV x.op x.a = true := hv
          have hvo := insV_op hv'
          have hvb := insV_bdB hv'
          have C := (fun W (hb : Below w.heap.size w W) => implInsBytes_any x.op x.a (by omega) (by omega) hvb.1 hvb.2 W (HT.out.keep hb))
          rw [hv', if_pos rfl] at C
          have C := Lib.hid C
          have hsz := bodyTo_size hl (by omega) hno
          have hsi := insV_le hv'
          have HS := Lib.hid (bodyTo_step hxk)
          obtain ⟨c0_, c1_, _⟩ := hc
          have z0 := fun O => keepCell (below1 wr O) c0_
          have z1 := fun O => keepCell (below1 wr O) c1_
          have HB := Lib.hid hbel
          have hbs := hbel.size
          clear hxk hbel hno hv hv' hvo hvb
          obtain ⟨T, hT⟩ : ∃ T, bodyTo xs k = T := ⟨_, rfl⟩
          rw [hT] at HS hsz
          generalize insBy x.op x.a = I at *
          have hz : ¬ (9223372036854775807 < T.size + I.size) := by omega
          simp only [hT]
          clear hT
          go_wp2_with (go_at_call 70; (with_reducible refine (C.out _ (HB.out.alloc hbs _)).mono ?_); rintro e w5 ⟨rfl, h5⟩; have HB5 := Lib.hid (bnext (HB.out.alloc hbs _) h5); clear h5)
          go_roundw
          case rel => exact ⟨k + 1, by omega, by rw [HS.out], by go_num, HB5.out⟩
          case measure => simp [intOf]; omega
        · obtain rfl : k = xs.length := by omega
          have HB := Lib.hid hbel
          clear hbel
          go_wp2
          go_ret
          exact ⟨rfl, HB.out⟩
  · rw [bodyA_long h120]
    have h120i : ¬ (xs.length : Int) ≤ 120 := by omega
    clear h ht h120
    go_enter Tryz.func30, Tryz.ntmps30
    go_wp2_with fail
    go_ret
    exact ⟨rfl, Below.refl _ _⟩

set_option maxHeartbeats 1000000 in
/-- The model's. -/
theorem specBodyBytes_any (xs : List In) (hl : xs.length ≤ 1048576) (hfin : ∀ x ∈ xs, x.Fin) (R : Option Addr) (c lo : Nat) (w : World) (h : Ins w lo xs R) :
    Calls Tryz.prog 54 #[.slice R xs.length c] w fun e w' => e = .returned (.string (bodyA xs)) ∧ Below w.heap.size w w' := by
  by_cases h120 : xs.length ≤ 120
  · have h120i : (xs.length : Int) ≤ 120 := by omega
    have H := Lib.hid h
    have HF := Lib.hid hfin
    have CP := Lib.hid (fun W => specPutLeb_any xs.length W (by omega))
    rw [← bodyTo_zero] at CP
    have hz0 : (bodyTo xs 0).size ≤ 1048576 := by
      have := bodyTo_size (k := 0) hl (by omega) (fun ⟨i, u, hi, _⟩ => by omega)
      omega
    clear h hfin
    go_enter Tryz.func54, Tryz.ntmps54
    go_wp2_with (go_at_call 51; (with_reducible refine (CP.out _).mono ?_); rintro e w1 ⟨rfl, h1⟩; obtain ⟨cc, w2, hcv, hrow, hb2⟩ := RowB.make w1 (bodyTo xs 0) hz0; have HR2 := Lib.hid (RowB.mono hrow h1.size); have HB2 := Lib.hid (bnext h1 hb2); clear h1 hrow hb2)
    clear hcv
    go_loopw [3, 4] (fun s i wr => ∃ k g cg : Nat, k ≤ xs.length ∧ s = .slice (some ⟨g, 0, none⟩) (bodyTo xs k).size cg ∧ i = .int .i64 k ∧ Hid (RowB w.heap.size wr g cg (bodyTo xs k)) ∧ Hid (¬ BadE inV xs k) ∧ Below w.heap.size w wr) (fun _ i _ => xs.length - (intOf i).toNat)
    case atStart => exact ⟨0, _, _, Nat.zero_le _, rfl, rfl, HR2.out, (fun ⟨i, u, hi, _⟩ => by omega), HB2.out⟩
    case round =>
      obtain ⟨k, g, cg, hk, rfl, rfl, HR, HN, hbel⟩ := hrel
      by_cases hlt : k < xs.length
      · obtain ⟨b, o, x, rfl, _, hxk, hc⟩ := (Ins.below H.out hbel).at_ hlt
        have hfx := HF.out x (List.mem_of_getElem? hxk)
        have CK := Lib.hid (fun W => specInsOk_any x.op x.a W)
        have CI := (fun W => specInsBytes_any x.op x.a hfx.2.1 hfx.2.2 W)
        obtain ⟨c0_, c1_, _⟩ := hc
        have HB := Lib.hid hbel
        have hsz := bodyTo_size hl (by omega) HN.out
        cases hv : insV x.op x.a with
        | false =>
          rw [hv] at CK
          have HBad : Hid (BadE inV xs (k + 1)) := Lib.hid ⟨k, x, by omega, hxk, hv⟩
          clear hxk hbel CI hv
          go_wp2_with (go_at_call 98; (with_reducible refine (CK.out _).mono ?_); rintro e w3 ⟨rfl, h3⟩; have HB3 := Lib.hid (bnext HB.out h3); clear h3)
          go_ret
          exact ⟨by rw [bodyA_bad HBad.out]; rfl, HB3.out⟩
        | true =>
          rw [hv] at CK
          rw [hv, if_pos rfl] at CI
          have CI := Lib.hid CI
          have hsi := insV_le hv
          have HN2 := Lib.hid (BadE.no_step HN.out hxk hv)
          have HS := Lib.hid (bodyTo_step hxk)
          clear hxk hbel hv
          generalize insBy x.op x.a = I at *
          generalize bodyTo xs k = T at *
          have hz : T.size + I.size ≤ 1048576 := by omega
          go_wp2_with (first
            | (go_at_call 98; (with_reducible refine (CK.out _).mono ?_); rintro e w3 ⟨rfl, h3⟩; have HB3 := Lib.hid (bnext HB.out h3); have HR3 := Lib.hid (HR.out.below h3); have d0 := keepCell h3 c0_; have d1 := keepCell h3 c1_; clear h3)
            | (go_at_call 99; (with_reducible refine (CI.out _).mono ?_); rintro e w4 ⟨rfl, h4⟩; have HB4 := Lib.hid (bnext HB3.out h4); have HR4 := Lib.hid (HR3.out.below h4); clear h4)
            | (at_builtin; refine wpList_app_row rfl _ _ rfl (a := _) rfl HR4.out I rfl hz ?_; intro g' cg' w5 hr5 hb5 _ _ _; have HR5 := Lib.hid hr5; have HB5 := Lib.hid (HB4.out.trans hb5); clear hr5 hb5))
          have HR6 : Hid (RowB w.heap.size w5 g' cg' (bodyTo xs (k + 1))) := by
            rw [← HS.out]
            exact HR5
          go_roundw
          case rel => exact ⟨k + 1, g', cg', by omega, by rw [← HS.out, ByteArray.size_append], by go_num, HR6, HN2, HB5.out⟩
          case measure => simp [intOf]; omega
      · obtain rfl : k = xs.length := by omega
        have HB := Lib.hid hbel
        have hcv := HR.out.back
        clear hbel
        go_wp2_with fail
        go_ret
        exact ⟨by rw [bodyA_good h120 HN.out]; rfl, HB.out⟩
  · rw [bodyA_long h120]
    have h120i : ¬ (xs.length : Int) ≤ 120 := by omega
    clear h hfin h120
    go_enter Tryz.func54, Tryz.ntmps54
    go_wp2_with fail
    go_ret
    exact ⟨rfl, Below.refl _ _⟩
end Go.Proofs.YtbjcldekapipaaaGreatDoor
