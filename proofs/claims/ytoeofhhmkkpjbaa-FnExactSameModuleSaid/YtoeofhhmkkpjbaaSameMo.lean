/-
  The walks of both SameModule.
-/
import Derived.Test.YtoeofhhmkkpjbaaSameMoC
namespace Go.Proofs.Ytoeofhhmkkpjbaa
open Go.ChangeShapes Go.WideShapes Go.ChangeAt Go.RowKit Go.Deep

theorem Co.ext_iff' (x y : Co) : x = y ↔ (x.name = y.name ∧ x.params = y.params ∧ x.locals = y.locals ∧ x.result = y.result ∧ x.code = y.code) := by
  cases x
  cases y
  simp
theorem implSameCo_any (x y : Co) (hx : x.wt ≤ 1048576) (R : Option Addr) (cc : Nat) (R' : Option Addr) (cc' : Nat) (lo lo' : Nat) (w : World) (h : Co.At w lo x R) (h' : Co.At w lo' y R') :
    Calls Try.prog 30 #[.agg #[.string x.name, .int .i64 x.params, .int .i64 x.locals, .bool x.result, .slice R x.code.length cc], .agg #[.string y.name, .int .i64 y.params, .int .i64 y.locals, .bool y.result, .slice R' y.code.length cc']] w (SaysM (x = y) w) := by
  obtain ⟨_, q_code, _⟩ := Co.parts_le hx
  have := In.wts_nonneg x.code
  exact implSameCore_any (x = y) x.name y.name x.params y.params x.locals y.locals x.result y.result x.code y.code (by omega) R cc R' cc' lo lo' w h h' (Co.ext_iff' x y)
theorem specSameCo_any (x y : Co) (hx : x.wt ≤ 1048576) (R : Option Addr) (cc : Nat) (R' : Option Addr) (cc' : Nat) (lo lo' : Nat) (w : World) (h : Co.At w lo x R) (h' : Co.At w lo' y R') :
    Calls Try.prog 25 #[.agg #[.string x.name, .int .i64 x.params, .int .i64 x.locals, .bool x.result, .slice R x.code.length cc], .agg #[.string y.name, .int .i64 y.params, .int .i64 y.locals, .bool y.result, .slice R' y.code.length cc']] w (SaysM (x = y) w) := by
  obtain ⟨_, q_code, _⟩ := Co.parts_le hx
  have := In.wts_nonneg x.code
  exact specSameCore_any (x = y) x.name y.name x.params y.params x.locals y.locals x.result y.result x.code y.code (by omega) R cc R' cc' lo lo' w h h' (Co.ext_iff' x y)
theorem Cos_ext {xs ys : List Co} (hl : xs.length = ys.length) (h : ∀ i, i < xs.length → xs[i]? = ys[i]?) : xs = ys := List.ext_getElem? fun i => by
  by_cases e : i < xs.length
  · exact h i e
  · rw [List.getElem?_eq_none (by omega), List.getElem?_eq_none (by omega)]

set_option maxHeartbeats 1000000 in
theorem eqfCo_any (xs ys : List Co) (hx : xs.length ≤ 1048576) (hwx : ∀ (i : Nat) (p : Co), xs[i]? = some p → p.wt ≤ 1048576) (A B : Option Addr) (ca cb lo lo' : Nat) (w : World) (h : Cos w lo xs A) (h' : Cos w lo' ys B) :
    Calls Try.prog 29 #[.slice A xs.length ca, .slice B ys.length cb, .func (.func 30) #[] #[]] w (SaysM (xs = ys) w) := by
  have H := Lib.hid h
  have H' := Lib.hid h'
  have HWX := Lib.hid hwx
  clear h h' hwx
  by_cases hl : xs.length = ys.length
  · rw [← hl]
    have HL := Lib.hid hl
    clear hl
    go_enter Try.func29, Try.ntmps29
    go_wp2_with fail
    go_loopw [17] (fun i wr => ∃ k : Nat, k ≤ xs.length ∧ i = .int .i64 k ∧ Hid (∀ i, i < k → xs[i]? = ys[i]?) ∧ Below w.heap.size w wr) (fun i _ => xs.length - (intOf i).toNat)
    case atStart => exact ⟨0, Nat.zero_le _, rfl, (fun i hi => by omega), Below.refl _ _⟩
    case round =>
      obtain ⟨k, hk, rfl, hno, hbel⟩ := hrel
      by_cases hlt : k < xs.length
      · obtain ⟨b, o, p, R1, cc1, rfl, _, hpk, hc⟩ := (Cos.below H.out hbel).at_ hlt
        obtain ⟨b', o', q, R2, cc2, rfl, _, hqk, hd⟩ := (Cos.below H'.out hbel).at_ (k := k) (by have := HL.out; omega)
        have CS := (fun W x y => implSameCo_any p q (HWX.out k p hpk) R1 cc1 R2 cc2 lo lo' W x y)
        have HA1 := Lib.hid hc.at_
        have HA2 := Lib.hid hd.at_
        have hz1 : b < wr.heap.size := World.block_lt_of_cell? wr _ hc.c0_
        have hz2 : b' < wr.heap.size := World.block_lt_of_cell? wr _ hd.c0_
        obtain ⟨c0, c1, c2, c3, c4, _⟩ := hc
        obtain ⟨d0, d1, d2, d3, d4, _⟩ := hd
        have HP := Lib.hid hpk
        have HQ := Lib.hid hqk
        have HB := Lib.hid hbel
        have hli : (k : Int) < (xs.length : Int) := by omega
        clear hpk hqk hbel
        by_cases hs : p = q
        · have C := Lib.hid (fun W x y => (CS W x y).mono fun _ _ j => j.yes hs)
          have HS := Lib.hid hs
          clear hs CS
          go_wp2_with fail
          go_at_call 30
          refine (C.out _ (Co.At.below HA1.out (below2 _ _ _)) (Co.At.below HA2.out (below2 _ _ _))).mono ?_
          rintro e w2 ⟨rfl, hb2⟩
          have HB2 := Lib.hid (bnext HB.out (bnext (below2 _ _ _) hb2))
          clear hb2
          go_wp2_with fail
          go_roundw
          case rel => exact ⟨k + 1, by omega, by go_num, fun i hi => by
            by_cases e : i = k
            · rw [e, HP.out, HQ.out, HS.out]
            · exact hno.out i (by omega), HB2.out⟩
          case measure => simp [intOf]; omega
        · have C := Lib.hid (fun W x y => (CS W x y).mono fun _ _ j => j.no hs)
          have HN : Hid (¬ xs = ys) := Lib.hid (fun e => by
            have e2 := HP.out
            rw [e, HQ.out] at e2
            exact hs (Option.some.inj e2).symm)
          clear hs CS
          go_wp2_with fail
          go_at_call 30
          refine (C.out _ (Co.At.below HA1.out (below2 _ _ _)) (Co.At.below HA2.out (below2 _ _ _))).mono ?_
          rintro e w2 ⟨rfl, hb2⟩
          have HB2 := Lib.hid (bnext HB.out (bnext (below2 _ _ _) hb2))
          clear hb2
          go_wp2_with fail
          go_ret
          exact ⟨false, rfl, iffM_F HN.out, HB2.out⟩
      · have hk' : k = xs.length := by omega
        have HALL : Hid (xs = ys) := Lib.hid (Cos_ext HL.out (hk' ▸ hno.out))
        have HB := Lib.hid hbel
        clear hbel
        go_wp2
        go_ret
        exact ⟨true, rfl, iffM_T HALL.out, HB.out⟩
  · have hl2 : ((xs.length : Int) == (ys.length : Int)) = false := by rw [beq_eq_false_iff_ne]; omega
    have HL := Lib.hid hl
    clear hl
    go_enter Try.func29, Try.ntmps29
    go_wp2_with fail
    go_ret
    exact ⟨false, rfl, iffM_F (fun h => HL.out (congrArg List.length h)), Below.refl _ _⟩

theorem Mo.ext_iff' (x y : Mo) : x = y ↔ (x.pages = y.pages ∧ x.imports = y.imports ∧ x.cores = y.cores) := by
  cases x
  cases y
  simp
set_option maxHeartbeats 2000000 in
set_option maxRecDepth 100000 in
theorem implSameModule_any (x y : Mo) (hx : x.wt ≤ 1048576) (Rimports : Option Addr) (cimports : Nat) (Rcores : Option Addr) (ccores : Nat) (Rimports' : Option Addr) (cimports' : Nat) (Rcores' : Option Addr) (ccores' : Nat) (lo lo' : Nat) (w : World) (h : Mo.At w lo x Rimports Rcores) (h' : Mo.At w lo' y Rimports' Rcores') :
    Calls Try.prog 9 #[.agg #[.int .i64 x.pages, .slice Rimports x.imports.length cimports, .slice Rcores x.cores.length ccores], .agg #[.int .i64 y.pages, .slice Rimports' y.imports.length cimports', .slice Rcores' y.cores.length ccores']] w (SaysM (x = y) w) := by
  obtain ⟨q_imports, q_cores, _⟩ := Mo.parts_le hx
  have := Im.wts_nonneg x.imports
  have := Co.wts_nonneg x.cores
  have CI := (fun W (a : Ims W lo x.imports Rimports) (b : Ims W lo' y.imports Rimports') => equalIms_any x.imports y.imports (by omega) Rimports Rimports' cimports cimports' lo lo' W a b)
  have CC := (fun W (a : Cos W lo x.cores Rcores) (b : Cos W lo' y.cores Rcores') => eqfCo_any x.cores y.cores (by omega) (fun i p hp => by have := Co.wt_mem hp; omega) Rcores Rcores' ccores ccores' lo lo' W a b)
  have H := Lib.hid h
  have H' := Lib.hid h'
  have HT := Lib.hid (Mo.ext_iff' x y)
  generalize hT : (x = y) = T at *
  clear h h' hx
  by_cases hp : x.pages = y.pages
  · have e0 : (x.pages == y.pages) = true := by rw [beq_iff_eq, hp]
    have HP := Lib.hid hp
    clear hp
    by_cases hi : x.imports = y.imports
    · have CI := Lib.hid (fun W a b => (CI W a b).mono fun _ _ j => j.yes hi)
      have HI := Lib.hid hi
      have CC := Lib.hid CC
      clear hi
      go_enter Try.func9, Try.ntmps9
      go_wp2_with fail
      go_at_call 28
      refine (CI.out _ (Ims.below H.out.1 (below2 _ _ _)) (Ims.below H'.out.1 (below2 _ _ _))).mono ?_
      rintro e w2 ⟨rfl, hb2⟩
      have c0 := keepCell (a := ⟨w.heap.size, 2, none⟩) (v := .slice Rcores x.cores.length ccores) hb2 (by go_simp)
      have c1 := keepCell (a := ⟨w.heap.size + 1, 2, none⟩) (v := .slice Rcores' y.cores.length ccores') hb2 (by go_simp)
      have HB2 := Lib.hid (bnext (below2 _ _ _) hb2)
      clear hb2
      go_wp2_with fail
      go_at_call 29
      refine (CC.out _ (Cos.below H.out.2 HB2.out) (Cos.below H'.out.2 HB2.out)).mono ?_
      rintro e w3 ⟨v, rfl, hv, hb3⟩
      have HV := Lib.hid hv
      have HB3 := Lib.hid (bnext HB2.out hb3)
      clear hv hb3
      go_wp2_with fail
      go_ret
      exact ⟨v, rfl, ⟨fun j => HT.out.mpr ⟨HP.out, HI.out, HV.out.mp j⟩, fun j => HV.out.mpr (HT.out.mp j).2.2⟩, HB3.out⟩
    · have CI := Lib.hid (fun W a b => (CI W a b).mono fun _ _ j => j.no hi)
      have HF : Hid (¬ T) := Lib.hid (fun h0 => hi (HT.out.mp h0).2.1)
      clear hi CC
      go_enter Try.func9, Try.ntmps9
      go_wp2_with fail
      go_at_call 28
      refine (CI.out _ (Ims.below H.out.1 (below2 _ _ _)) (Ims.below H'.out.1 (below2 _ _ _))).mono ?_
      rintro e w2 ⟨rfl, hb2⟩
      have HB2 := Lib.hid (bnext (below2 _ _ _) hb2)
      clear hb2
      go_wp2_with fail
      go_ret
      exact ⟨false, rfl, iffM_F HF.out, HB2.out⟩
  · have e0 : (x.pages == y.pages) = false := beq_eq_false_iff_ne.mpr hp
    have HF : Hid (¬ T) := Lib.hid (fun h0 => hp (HT.out.mp h0).1)
    clear hp CC CI
    go_enter Try.func9, Try.ntmps9
    go_wp2_with fail
    go_ret
    exact ⟨false, rfl, iffM_F HF.out, below2 _ _ _⟩
end Go.Proofs.Ytoeofhhmkkpjbaa
