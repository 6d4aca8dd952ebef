/-
  The walk of the law FnExactResourcesOf: both answer alike; the argument stays; the answer owns its memory.
-/
import Derived.Test.YtlmmbheamicdaaaResJ
import Derived.Test.YtlmmbheamicdaaaTyForm
import Derived.Test.YtlmmbheamicdaaaTyW4
namespace Go.Proofs.Ytlmmbheamicdaaa
open Go.ChangeShapes Go.WideShapes Go.ChangeAt Go.RowKit Go.Deep

def SpecRes (ls : List ByteArray) (w : World) (e : Ending) (w' : World) : Prop := ∃ (R : Option Addr) (cap : Nat), e = .returned (.slice R ls.length cap) ∧ Strs w' 0 ls R ∧ Below w.heap.size w w'
def ImplRes (ls : List ByteArray) (w : World) (e : Ending) (w' : World) : Prop := ∃ (R : Option Addr) (cap : Nat) (bs : List Nat), e = .returned (.slice R ls.length cap) ∧ StrsOwn w' ls R bs ∧ (∀ b ∈ bs, w.heap.size ≤ b ∧ b < w'.heap.size) ∧ Below w.heap.size w w'
theorem both_res (T : Ty) (hT : T.wt ≤ 1048576) : ∃ ls : List ByteArray, ls.length ≤ 1000 ∧
    (∀ (A B : Option Addr) (ca cb lo : Nat) (w : World), Ty.At w lo T A B → Calls Try.prog 25 #[.agg #[.int .i64 T.kind, .string T.name, .slice A T.labels.length ca, .slice B T.kids.length cb]] w (SpecRes ls w)) ∧
    (∀ (A B : Option Addr) (ca cb lo : Nat) (w : World), Ty.At w lo T A B → MaxC w → Calls Try.prog 26 #[.agg #[.int .i64 T.kind, .string T.name, .slice A T.labels.length ca, .slice B T.kids.length cb]] w (ImplRes ls w)) := by
  by_cases ho : T.Ok
  · refine ⟨(resL T).map tb, ?_, fun A B ca cb lo w h => (specRes_any T hT A B ca cb lo w h).mono fun e w' k => ?_, fun A B ca cb lo w h hm => (implRes_yes T ho lo hT A B ca cb w h hm).mono fun e w' k => ?_⟩
    · have h1 := putAll_length [] T.names
      have h2 := T.names_length
      have h3 := ho.1.2
      rw [List.length_map]
      unfold resL
      simp at h1
      omega
    · obtain ⟨R, cap, h1, h2, h3⟩ := k.1 ho
      exact ⟨R, cap, by rw [List.length_map]; exact h1, h2, h3⟩
    · obtain ⟨R, cap, bs, h1, h2, h3, h4⟩ := k
      exact ⟨R, cap, bs, by rw [List.length_map]; exact h1, h2, h3, h4⟩
  · refine ⟨[], by simp, fun A B ca cb lo w h => (specRes_any T hT A B ca cb lo w h).mono fun e w' k => ?_, fun A B ca cb lo w h hm => (implRes_no T ho lo hT A B ca cb w h hm).mono fun e w' k => ?_⟩
    · obtain ⟨R, cap, h1, h2, h3⟩ := k.2 ho
      exact ⟨R, cap, h1, h2, h3⟩
    · obtain ⟨R, cap, bs, h1, h2, h3, h4⟩ := k
      exact ⟨R, cap, bs, h1, h2, h3, h4⟩

set_option maxHeartbeats 4000000 in
set_option maxRecDepth 100000 in
theorem fnExactResourcesOfLaw (T : Ty) (A B : Option Addr) (ca cb : Nat) (w : World) (hat : Ty.At w 0 T A B) (hfin : T.Fin) (hm : MaxC w) :
    Calls Try.prog 7 #[.agg #[.int .i64 T.kind, .string T.name, .slice A T.labels.length ca, .slice B T.kids.length cb]] w fun e w' => e = .returned (.bool true) ∧ Below w.heap.size w w' := by
  have S := szType_any T hfin 1048576 (by omega) (by omega) A B ca cb 0
  have HA := Lib.hid hat
  have HM := Lib.hid hm
  have hn0 := T.wt_nonneg
  clear hat hm hfin
  by_cases hn : 1048576 - T.wt < 0
  · rw [leftOr_neg hn] at S
    have S := Lib.hid S
    clear hn
    go_enter Try.func7, Try.ntmps7
    go_wp2_with fail
    go_at_call 14
    refine (S.out _ (HA.out.below (below1 _ _))).mono ?_
    rintro e w2 ⟨rfl, hb2⟩
    have HB2 := Lib.hid (bnext (below1 _ _) hb2)
    clear hb2
    go_wp2_with fail
    go_ret
    exact ⟨rfl, HB2.out⟩
  have hT : T.wt ≤ 1048576 := by omega
  rw [leftOr_pos (by omega)] at S
  obtain ⟨L, hL⟩ : ∃ L, 1048576 - T.wt = L := ⟨_, rfl⟩
  rw [hL] at S
  have hL0 : 0 ≤ L := by omega
  have S := Lib.hid S
  have HT := Lib.hid (fun W (h : Ty.At W 0 T A B) => toType_any T hT A B ca cb 0 W h)
  have HTO := Lib.hid (fun W (h : Ty.At W 0 T A B) => toType_own T hT A B ca cb 0 W h)
  have HE := Lib.hid (fun (A1 B1 A2 B2 : Option Addr) (c1 c2 c3 c4 lo lo' : Nat) W (h : Ty.At W lo T A1 B1) (h' : Ty.At W lo' T A2 B2) => eqType_any T hT A1 B1 A2 B2 c1 c2 c3 c4 lo lo' W h h')
  obtain ⟨ls, hls, cs, ci⟩ := both_res T hT
  have CS := Lib.hid cs
  have CI := Lib.hid ci
  have CE := Lib.hid (fun (R R' : Option Addr) (c c' lo lo' : Nat) W (h : Strs W lo ls R) (h' : Strs W lo' ls R') => eqStringS_same ls R R' c c' (by unfold maxLen; omega) lo lo' W h h')
  have CMT := Lib.hid (fun A' B' ca' cb' bs W h => markType_own T hT A' B' ca' cb' bs W h)
  have CMS : Hid (∀ (R : Option Addr) (c : Nat) (bs : List Nat) (W : World), StrsOwn W ls R bs → Calls Try.prog 29 #[.slice R ls.length c, .int .i64 1] W fun e w' => e = .returned (.int .i64 ((1 + ls.length : Nat) : Int)) ∧ StrsOwn w' (mts 1 ls.length) R bs ∧ Kb bs W w') := Lib.hid (fun R c bs W h => markStringS_any ls R c 1 bs (by omega) (by omega) W h)
  have CH : Hid (∀ (R : Option Addr) (c lo : Nat) (W : World), Strs W lo (mts 1 ls.length) R → Calls Try.prog 30 #[.slice R ls.length c, .int .i64 1] W fun e w' => e = .returned (.int .i64 ((1 + ls.length : Nat) : Int)) ∧ Below W.heap.size W w') := Lib.hid (fun R c lo W h => heldStringS_any ls.length R c 1 (by omega) (by omega) lo W h)
  clear hn hL hn0 hT cs ci
  go_enter Try.func7, Try.ntmps7
  go_wp2_with fail
  go_at_call 14
  refine (S.out _ (HA.out.below (below1 _ _))).mono ?_
  rintro e w2 ⟨rfl, hb2⟩
  have k0 := keepCell (a := ⟨w.heap.size, 0, none⟩) (v := .int .i64 T.kind) hb2 (by go_simp)
  have k1 := keepCell (a := ⟨w.heap.size, 1, none⟩) (v := .string T.name) hb2 (by go_simp)
  have k2 := keepCell (a := ⟨w.heap.size, 2, none⟩) (v := .slice A T.labels.length ca) hb2 (by go_simp)
  have k3 := keepCell (a := ⟨w.heap.size, 3, none⟩) (v := .slice B T.kids.length cb) hb2 (by go_simp)
  have HB2 := Lib.hid (bnext (below1 _ _) hb2)
  clear hb2 S
  go_wp2_with fail
  go_at_call 16
  refine (HT.out _ (HA.out.below HB2.out)).mono ?_
  rintro e w3 ⟨A3, B3, rfl, ha3, hb3⟩
  replace k0 := keepCell hb3 k0
  replace k1 := keepCell hb3 k1
  replace k2 := keepCell hb3 k2
  replace k3 := keepCell hb3 k3
  have HB3 := Lib.hid (bnext HB2.out hb3)
  have HA3 := Lib.hid ha3
  clear hb3 ha3
  go_wp2_with fail
  go_at_call 25
  refine (CS.out _ _ _ _ _ _ HA3.out).mono ?_
  rintro e w4 ⟨R4, cap4, rfl, hs4, hb4⟩
  replace k0 := keepCell hb4 k0
  replace k1 := keepCell hb4 k1
  replace k2 := keepCell hb4 k2
  replace k3 := keepCell hb4 k3
  have HB4 := Lib.hid (bnext HB3.out hb4)
  have HS4 := Lib.hid hs4
  have HZ4 : Hid (w.heap.size < w4.heap.size) := Lib.hid (World.block_lt_of_cell? w4 _ k0)
  clear hb4 hs4
  go_wp2_with fail
  go_at_call 16
  refine (HTO.out _ (HA.out.below HB4.out)).mono ?_
  rintro e w5 ⟨A5, B5, bs5, rfl, ho5, _, hbs5, hb5⟩
  replace k0 := keepCell hb5 k0
  replace k1 := keepCell hb5 k1
  replace k2 := keepCell hb5 k2
  replace k3 := keepCell hb5 k3
  have HB5 := Lib.hid hb5
  have HO5 := Lib.hid ho5
  have HBS5 := Lib.hid hbs5
  have HA5 := Lib.hid (ho5.at_ (lo := 0) fun _ _ => Nat.zero_le _)
  clear hb5 ho5 hbs5
  go_wp2_with fail
  go_at_call 26
  refine (CI.out _ _ _ _ _ _ (HA5.out.below (below1 _ _)) (HM.out.keep (bnext (bnext HB4.out HB5.out) (below1 _ _)))).mono ?_
  rintro e w6 ⟨R6, cap6, bs6, rfl, ho6, hbs6, hb6⟩
  have j0 := keepCell (a := ⟨w5.heap.size, 0, none⟩) (v := .int .i64 T.kind) hb6 (by go_simp)
  have j1 := keepCell (a := ⟨w5.heap.size, 1, none⟩) (v := .string T.name) hb6 (by go_simp)
  have j2 := keepCell (a := ⟨w5.heap.size, 2, none⟩) (v := .slice A5 T.labels.length T.labels.length) hb6 (by go_simp)
  have j3 := keepCell (a := ⟨w5.heap.size, 3, none⟩) (v := .slice B5 T.kids.length T.kids.length) hb6 (by go_simp)
  replace k0 := keepCell hb6 (keepCell (below1 w5 _) k0)
  replace k1 := keepCell hb6 (keepCell (below1 w5 _) k1)
  replace k2 := keepCell hb6 (keepCell (below1 w5 _) k2)
  replace k3 := keepCell hb6 (keepCell (below1 w5 _) k3)
  have HB6 := Lib.hid (bnext (below1 _ _) hb6)
  have HO6 := Lib.hid ho6
  have HBS6 : Hid (∀ b ∈ bs6, w5.heap.size < b ∧ b < w6.heap.size) := Lib.hid (fun b hb => by have := hbs6 b hb; simp at this; omega)
  clear hb6 ho6 hbs6
  go_wp2_with fail
  go_at_call 27
  refine (CE.out _ _ _ _ 0 _ _ (HO6.out.strs fun _ _ => Nat.zero_le _) (HS4.out.below (bnext HB5.out HB6.out))).mono ?_
  rintro e w7 ⟨rfl, hd7⟩
  have hb7 : Below w6.heap.size w6 w7 := by
    obtain ⟨n7, h⟩ := hd7
    first | (rw [h]; exact belowN (Below.refl _ _) n7) | (rw [← h]; exact belowN (Below.refl _ _) n7)
  replace k0 := keepCell hb7 k0
  replace k1 := keepCell hb7 k1
  replace k2 := keepCell hb7 k2
  replace k3 := keepCell hb7 k3
  replace j0 := keepCell hb7 j0
  replace j1 := keepCell hb7 j1
  replace j2 := keepCell hb7 j2
  replace j3 := keepCell hb7 j3
  have HB7 := Lib.hid hb7
  have HC7 : Hid (Below w.heap.size w w7) := Lib.hid (bnext (bnext (bnext HB4.out HB5.out) HB6.out) hb7)
  have HO7 : Hid (Ty.Own w7 T A5 B5 bs5) := Lib.hid (Ty.Own.keep (cs := []) (KeptBut.of_below (bnext HB6.out hb7)) (by simp) HO5.out)
  have HA7 := Lib.hid (HO7.out.at_ (lo := 0) fun _ _ => Nat.zero_le _)
  clear hd7 hb7
  go_wp2_with fail
  go_region_held3 (fun w' => w'.cell? ⟨w5.heap.size, 0, none⟩ = some (.int .i64 T.kind) ∧ w'.cell? ⟨w5.heap.size, 1, none⟩ = some (.string T.name) ∧ w'.cell? ⟨w5.heap.size, 2, none⟩ = some (.slice A5 T.labels.length T.labels.length) ∧ w'.cell? ⟨w5.heap.size, 3, none⟩ = some (.slice B5 T.kids.length T.kids.length) ∧ w'.cell? ⟨w.heap.size, 0, none⟩ = some (.int .i64 T.kind) ∧ w'.cell? ⟨w.heap.size, 1, none⟩ = some (.string T.name) ∧ w'.cell? ⟨w.heap.size, 2, none⟩ = some (.slice A T.labels.length ca) ∧ w'.cell? ⟨w.heap.size, 3, none⟩ = some (.slice B T.kids.length cb) ∧ Below w7.heap.size w7 w')
    (first | assumption | (exact (Below.refl _ _).drew) | (exact ⟨j0, j1, j2, j3, k0, k1, k2, k3, (Below.refl _ _).drew⟩) | (refine ⟨?_, ?_, ?_, ?_, ?_, ?_, ?_, ?_, ?_⟩ <;> assumption))
    (first
      | (go_at_call 16; refine (HT.out _ (HA.out.below HC7.out.drew)).mono ?_; rintro e w8 ⟨A8, B8, rfl, ha8, hb8⟩; have hbw : Below w7.heap.size w7 w8 := (Below.refl w7.heap.size w7).drew.trans hb8; have pj0 := keepCell hbw j0; have pj1 := keepCell hbw j1; have pj2 := keepCell hbw j2; have pj3 := keepCell hbw j3; have pk0 := keepCell hbw k0; have pk1 := keepCell hbw k1; have pk2 := keepCell hbw k2; have pk3 := keepCell hbw k3)
      | (go_at_call 18; refine (HE.out _ _ _ _ _ _ _ _ _ _ _ (HA7.out.below hbw) ha8).mono ?_; rintro e w9 ⟨rfl, hb9⟩; have hbv : Below w7.heap.size w7 w9 := hbw.trans (hb9.mono hbw.size); have rj0 := keepCell hbv j0; have rj1 := keepCell hbv j1; have rj2 := keepCell hbv j2; have rj3 := keepCell hbv j3; have rk0 := keepCell hbv k0; have rk1 := keepCell hbv k1; have rk2 := keepCell hbv k2; have rk3 := keepCell hbv k3))
  replace k0 := rk0
  replace k1 := rk1
  replace k2 := rk2
  replace k3 := rk3
  have HB9 := Lib.hid hbv
  have HO9 : Hid (Ty.Own w9 T A5 B5 bs5) := Lib.hid (Ty.Own.keep (cs := []) (KeptBut.of_below hbv) (by simp) HO7.out)
  have HZ9 : Hid (w5.heap.size < w9.heap.size) := Lib.hid (World.block_lt_of_cell? w9 _ rj0)
  clear pj0 pj1 pj2 pj3 pk0 pk1 pk2 pk3 ha8 hb8 hbw hb9 hbv HO7 HA7 j0 j1 j2 j3 rk0 rk1 rk2 rk3
  go_wp2_with fail
  go_at_call 28
  refine (CMT.out _ _ _ _ _ _ HO9.out).mono ?_
  rintro e w10 ⟨m10, rfl, _, hk10⟩
  have hm10 : ¬ (m10 : Int) < 0 := by omega
  have kx : ∀ (i : Nat) (v : Value), w9.cell? ⟨w.heap.size, i, none⟩ = some v → w10.cell? ⟨w.heap.size, i, none⟩ = some v := fun i v h => hk10.cell (fun hm => by have h1 := (HBS5.out _ hm).1; have h2 := HZ4.out; simp only at h1; omega) h
  replace k0 := kx _ _ k0
  replace k1 := kx _ _ k1
  replace k2 := kx _ _ k2
  replace k3 := kx _ _ k3
  have HK10 := Lib.hid hk10
  have HD9 : Hid (Below w4.heap.size w4 w9) := Lib.hid (bnext (bnext (bnext HB5.out HB6.out) HB7.out) HB9.out)
  have HD10 : Hid (Below w4.heap.size w4 w10) := Lib.hid (HD9.out.trans (hk10.below (fun b hb => (HBS5.out b hb).1) HD9.out.size))
  have HO10 : Hid (StrsOwn w10 ls R6 bs6) := Lib.hid ((HO6.out.keep (cs := []) (KeptBut.of_below (bnext HB7.out HB9.out)) (by simp)).keep (cs := bs5) ⟨hk10.size, fun b hb hn => hk10.block b hb hn⟩ (fun b hb hm => by have h1 := (HBS6.out b hb).1; have h2 := (HBS5.out b hm).2; omega))
  clear hk10 kx rj0 rj1 rj2 rj3 CMT HO9
  go_wp2_with fail
  go_at_call 27
  refine (CE.out _ _ _ _ 0 _ _ (HO10.out.strs fun _ _ => Nat.zero_le _) (HS4.out.below HD10.out)).mono ?_
  rintro e w11 ⟨rfl, hd11⟩
  have hb11 : Below w10.heap.size w10 w11 := by
    obtain ⟨n7, h⟩ := hd11
    first | (rw [h]; exact belowN (Below.refl _ _) n7) | (rw [← h]; exact belowN (Below.refl _ _) n7)
  replace k0 := keepCell hb11 k0
  replace k1 := keepCell hb11 k1
  replace k2 := keepCell hb11 k2
  replace k3 := keepCell hb11 k3
  have HD11 := Lib.hid (bnext HD10.out hb11)
  have HO11 : Hid (StrsOwn w11 ls R6 bs6) := Lib.hid (HO10.out.keep (cs := []) (KeptBut.of_below hb11) (by simp))
  clear hd11 hb11
  go_wp2_with fail
  go_at_call 29
  refine (CMS.out _ _ _ _ HO11.out).mono ?_
  rintro e w12 ⟨rfl, ho12, hk12⟩
  have HZ5 := Lib.hid HB5.out.size
  have hge : ∀ b ∈ bs6, w4.heap.size ≤ b := fun b hb => by have h1 := (HBS6.out b hb).1; have h2 := HZ5.out; omega
  have HD12 : Hid (Below w4.heap.size w4 w12) := Lib.hid (HD11.out.trans (hk12.below hge HD11.out.size))
  have kx : ∀ (i : Nat) (v : Value), w11.cell? ⟨w.heap.size, i, none⟩ = some v → w12.cell? ⟨w.heap.size, i, none⟩ = some v := fun i v h => hk12.but.cell (fun hm => by have h1 := hge _ hm; have h2 := HZ4.out; simp only at h1; omega) h
  replace k0 := kx _ _ k0
  replace k1 := kx _ _ k1
  replace k2 := kx _ _ k2
  replace k3 := kx _ _ k3
  have HO12 := Lib.hid ho12
  have hnn : ¬ ((ls.length : Int) + 1 < 0) := by omega
  have hnn' : ¬ (1 + (ls.length : Int) < 0) := by omega
  clear ho12 hk12 kx hge CMS
  go_wp2_with fail
  go_at_call 30
  refine (CH.out _ _ 0 _ (HO12.out.strs fun _ _ => Nat.zero_le _)).mono ?_
  rintro e w13 ⟨rfl, hb13⟩
  replace k0 := keepCell hb13 k0
  replace k1 := keepCell hb13 k1
  replace k2 := keepCell hb13 k2
  replace k3 := keepCell hb13 k3
  have HD13 := Lib.hid (bnext HD12.out hb13)
  have HO13 : Hid (StrsOwn w13 (mts 1 ls.length) R6 bs6) := Lib.hid (HO12.out.keep (cs := []) (KeptBut.of_below hb13) (by simp))
  clear hb13
  go_wp2_with fail
  go_at_call 16
  refine (HT.out _ (HA.out.below (bnext HB4.out HD13.out))).mono ?_
  rintro e w14 ⟨A14, B14, rfl, ha14, hb14⟩
  have HD14 := Lib.hid (bnext HD13.out hb14)
  have HO14 : Hid (StrsOwn w14 (mts 1 ls.length) R6 bs6) := Lib.hid (HO13.out.keep (cs := []) (KeptBut.of_below hb14) (by simp))
  have HA14 := Lib.hid ha14
  clear hb14 ha14 k0 k1 k2 k3
  go_wp2_with fail
  go_at_call 26
  refine (CI.out _ _ _ _ _ _ HA14.out (HM.out.keep (bnext HB4.out HD14.out))).mono ?_
  rintro e w15 ⟨R15, cap15, bs15, rfl, ho15, _, hb15⟩
  have HD15 := Lib.hid (bnext HD14.out hb15)
  have HO15 := Lib.hid ho15
  have HQ15 : Hid (StrsOwn w15 (mts 1 ls.length) R6 bs6) := Lib.hid (HO14.out.keep (cs := []) (KeptBut.of_below hb15) (by simp))
  clear hb15 ho15
  go_wp2_with fail
  go_at_call 27
  refine (CE.out _ _ _ _ 0 _ _ (HO15.out.strs fun _ _ => Nat.zero_le _) (HS4.out.below HD15.out)).mono ?_
  rintro e w16 ⟨rfl, hd16⟩
  have hb16 : Below w15.heap.size w15 w16 := by
    obtain ⟨n7, h⟩ := hd16
    first | (rw [h]; exact belowN (Below.refl _ _) n7) | (rw [← h]; exact belowN (Below.refl _ _) n7)
  have HD16 := Lib.hid (bnext HD15.out hb16)
  have HQ16 : Hid (StrsOwn w16 (mts 1 ls.length) R6 bs6) := Lib.hid (HQ15.out.keep (cs := []) (KeptBut.of_below hb16) (by simp))
  clear hd16 hb16
  go_wp2_with fail
  go_at_call 30
  refine (CH.out _ _ 0 _ (HQ16.out.strs fun _ _ => Nat.zero_le _)).mono ?_
  rintro e w17 ⟨rfl, hb17⟩
  have HD17 := Lib.hid (bnext HD16.out hb17)
  clear hb17
  go_wp2_with fail
  go_ret
  exact ⟨rfl, bnext HB4.out HD17.out⟩
end Go.Proofs.Ytlmmbheamicdaaa
