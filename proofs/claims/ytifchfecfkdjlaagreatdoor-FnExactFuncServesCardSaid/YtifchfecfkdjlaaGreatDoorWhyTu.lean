/-
  The walk of the program's typePairing.tuples.
-/
import Derived.Test.YtifchfecfkdjlaaGreatDoorML
import Derived.Ground.NamesProg
import Derived.Shelf.Lay
import Derived.Shelf.Strconv.Itoa3
namespace Go.Proofs
open Go.Shelf
def Tryz.laysItoa_ren : Go.Shelf.Ren := ⟨fun | 171 => 88 | 243 => 95 | 246 => 99 | 283 => 109 | 284 => 110 | 285 => 111 | 286 => 112 | 129 => 119 | 317 => 118 | 318 => 120 | 319 => 121 | 320 => 122 | 337 => 130 | 338 => 131 | n => n, fun | 3 => 3 | 9 => 9 | 2 => 2 | 4 => 4 | 171 => 132 | 0 => 0 | 53 => 133 | 37 => 108 | 5 => 5 | 173 => 136 | 212 => 144 | 51 => 145 | 20 => 20 | 213 => 146 | 46 => 148 | 232 => 160 | 233 => 161 | n => n, fun | 17 => 1 | 18 => 5 | 19 => 6 | n => n⟩
theorem Tryz.laysItoa : Go.Proofs.Lays.n171 Tryz.prog Tryz.laysItoa_ren := {
  mixed := by kernel_rfl
  f129 := Tryz.func119.trans (congrArg some (by kernel_rfl))
  f171 := Tryz.func88.trans (congrArg some (by kernel_rfl))
  f243 := Tryz.func95.trans (congrArg some (by kernel_rfl))
  f246 := Tryz.func99.trans (congrArg some (by kernel_rfl))
  f283 := Tryz.func109.trans (congrArg some (by kernel_rfl))
  f284 := Tryz.func110.trans (congrArg some (by kernel_rfl))
  f285 := Tryz.func111.trans (congrArg some (by kernel_rfl))
  f286 := Tryz.func112.trans (congrArg some (by kernel_rfl))
  f317 := Tryz.func118.trans (congrArg some (by kernel_rfl))
  f318 := Tryz.func120.trans (congrArg some (by kernel_rfl))
  f319 := Tryz.func121.trans (congrArg some (by kernel_rfl))
  f320 := Tryz.func122.trans (congrArg some (by kernel_rfl))
  f337 := Tryz.func130.trans (congrArg some (by kernel_rfl))
  f338 := Tryz.func131.trans (congrArg some (by kernel_rfl))
  t0 := Tryz.underlying0
  a0 := Tryz.isAgg0
  z0 := Tryz.sizeOf0
  v0 := Tryz.zeroValue0
  t2 := Tryz.underlying2
  a2 := Tryz.isAgg2
  z2 := Tryz.sizeOf2
  v2 := Tryz.zeroValue2
  t3 := Tryz.underlying3
  a3 := Tryz.isAgg3
  z3 := Tryz.sizeOf3
  v3 := Tryz.zeroValue3
  t4 := Tryz.underlying4
  a4 := Tryz.isAgg4
  z4 := Tryz.sizeOf4
  v4 := Tryz.zeroValue4
  t5 := Tryz.underlying5
  a5 := Tryz.isAgg5
  z5 := Tryz.sizeOf5
  v5 := Tryz.zeroValue5
  t9 := Tryz.underlying9
  a9 := Tryz.isAgg9
  z9 := Tryz.sizeOf9
  v9 := Tryz.zeroValue9
  t20 := Tryz.underlying20
  a20 := Tryz.isAgg20
  z20 := Tryz.sizeOf20
  v20 := Tryz.zeroValue20
  t37 := Tryz.underlying108
  a37 := Tryz.isAgg108
  z37 := Tryz.sizeOf108
  v37 := Tryz.zeroValue108
  t46 := Tryz.underlying148
  a46 := Tryz.isAgg148
  z46 := Tryz.sizeOf148
  v46 := Tryz.zeroValue148
  t51 := Tryz.underlying145
  a51 := Tryz.isAgg145
  z51 := Tryz.sizeOf145
  v51 := Tryz.zeroValue145
  t53 := Tryz.underlying133
  a53 := Tryz.isAgg133
  z53 := Tryz.sizeOf133
  v53 := Tryz.zeroValue133
  t171 := Tryz.underlying132
  a171 := Tryz.isAgg132
  z171 := Tryz.sizeOf132
  v171 := Tryz.zeroValue132
  t173 := Tryz.underlying136
  a173 := Tryz.isAgg136
  z173 := Tryz.sizeOf136
  v173 := Tryz.zeroValue136
  t212 := Tryz.underlying144
  a212 := Tryz.isAgg144
  z212 := Tryz.sizeOf144
  v212 := Tryz.zeroValue144
  t213 := Tryz.underlying146
  a213 := Tryz.isAgg146
  z213 := Tryz.sizeOf146
  t232 := Tryz.underlying160
  a232 := Tryz.isAgg160
  z232 := Tryz.sizeOf160
  v232 := Tryz.zeroValue160
  t233 := Tryz.underlying161
  a233 := Tryz.isAgg161
  z233 := Tryz.sizeOf161
  v233 := Tryz.zeroValue161
  g17 := by kernel_rfl
  g18 := by kernel_rfl
  g19 := by kernel_rfl }
end Go.Proofs
namespace Go.Proofs.YtifchfecfkdjlaaGreatDoor
open Go.ChangeShapes Go.WideShapes Go.ChangeAt Go.RowKit Go.Deep

set_option maxHeartbeats 4000000 in
set_option maxRecDepth 100000 in
theorem tuples_other (a b : Ty) (hl : ¬ a.kids.length = b.kids.length) (A B A' B' : Option Addr) (ca cb ca' cb' : Nat) (w : World) :
    Calls Tryz.prog 72 #[.agg #[.int .i64 a.kind, .string a.name, .slice A a.labels.length ca, .slice B a.kids.length cb, .int .i64 b.kind, .string b.name, .slice A' b.labels.length ca', .slice B' b.kids.length cb']] w (RsnPost (some (3, sE)) w) := by
  have e1 : ((a.kids.length : Int) == (b.kids.length : Int)) = false := by rw [beq_eq_false_iff_ne]; omega
  have e2 : ((a.kids.length : Int) != (b.kids.length : Int)) = true := by rw [bne_iff_ne]; omega
  clear hl
  go_enter Tryz.func72, Tryz.ntmps72
  go_wp2_with fail
  exact bodyPost_ret (v := .agg #[.int .i64 3, .string ⟨#[]⟩]) (by simp [results, Tryz.results72, go_sem]) rfl ⟨rfl, by (first | (with_reducible exact (below2 _ _ _)) | ((with_reducible refine Below.setCell ((below2 _ _ _)) ?_ _) <;> (first | exact Nat.le_refl _ | exact Nat.le_add_right _ _ | (dsimp only; omega) | (simp; omega))) | ((with_reducible refine Below.setCell (Below.setCell ((below2 _ _ _)) ?_ _) ?_ _) <;> (first | exact Nat.le_refl _ | exact Nat.le_add_right _ _ | (dsimp only; omega) | (simp; omega))) | ((with_reducible refine Below.setCell (Below.setCell (Below.setCell ((below2 _ _ _)) ?_ _) ?_ _) ?_ _) <;> (first | exact Nat.le_refl _ | exact Nat.le_add_right _ _ | (dsimp only; omega) | (simp; omega))))⟩

set_option maxHeartbeats 4000000 in
set_option maxRecDepth 100000 in
theorem tuples_any (n : Nat) (hn : n ≤ 3) (IH : TyR n) (a b : Ty) (ga : Gd (n + 1) a) (gb : Gd (n + 1) b) (hkb : b.kind = 15) (hl : a.kids.length = b.kids.length) (A B A' B' : Option Addr) (ca cb ca' cb' : Nat) (w : World) (hat : Ty.Pl w 0 a A B) (hbt : Ty.Pl w 0 b A' B') (ht : RTable w) :
    Calls Tryz.prog 72 #[.agg #[.int .i64 a.kind, .string a.name, .slice A a.labels.length ca, .slice B a.kids.length cb, .int .i64 b.kind, .string b.name, .slice A' b.labels.length ca', .slice B' b.kids.length cb']] w (RsnPost (scanR (tupF (Ty.why n) a b) b.kids.length) w) := by
  have lb := gb.shape.six hkb
  have ka := ga.kids
  have CIT : Hid (∀ (k : Nat), k < 100 → ∀ W : World, Calls Tryz.prog 88 #[.int .i64 k] W fun e w' => e = .returned (.string (decB k)) ∧ w' = W) := Lib.hid (fun k hk W => Any.strconv_Itoa_small Tryz.laysItoa k hk W)
  have CK : Hid (∀ (k : Nat) (x y : Ty), a.kids[k]? = some x → b.kids[k]? = some y → ∀ W : World, Ty.Pl W 0 a A B → Ty.Pl W 0 b A' B' → RTable W → Calls Tryz.prog 87 #[.agg #[.int .i64 a.kind, .string a.name, .slice A a.labels.length ca, .slice B a.kids.length cb, .int .i64 b.kind, .string b.name, .slice A' b.labels.length ca', .slice B' b.kids.length cb'], .int .i64 k, .int .i64 k, .string (⟨#[46]⟩ ++ decB k)] W (RsnPost (preR (⟨#[46]⟩ ++ decB k) (Ty.why n x y)) W)) := Lib.hid (fun k x y hx hy W h1 h2 h3 => kid_any n (by omega) IH a b x y k k hx hy (ga.kid hx) (gb.kid hy) (by omega) _ (by have h5 := (List.getElem?_eq_some_iff.1 hy).1; rw [appS_size]; have : (⟨#[46]⟩ : ByteArray).size = 1 := rfl; have := decB_le k (by omega); omega) A B A' B' ca cb ca' cb' W h1 h2 h3)
  have RS : Hid (∀ (k : Nat) (x y : Ty), a.kids[k]? = some x → b.kids[k]? = some y → RsnOk 5000000 (Ty.why n x y)) := Lib.hid (fun k x y hx hy => Ty.why_small (by omega) (ga.kid hx) (gb.kid hy))
  have HLB := Lib.hid lb
  have HL := Lib.hid hl
  have e1 : ((a.kids.length : Int) == (b.kids.length : Int)) = true := by rw [beq_iff_eq, hl]
  have e2 : ((a.kids.length : Int) != (b.kids.length : Int)) = false := by rw [bne_eq_false_iff_eq, hl]
  have HA := Lib.hid hat
  have HB := Lib.hid hbt
  have HT := Lib.hid ht
  have hlr : b.kids.length ≤ 6 := lb
  clear IH ga gb hat hbt ht hn hkb lb ka hl
  go_enter Tryz.func72, Tryz.ntmps72
  go_wp2_with fail
  go_loopw [19] (fun i wr => ∃ k : Nat, k ≤ b.kids.length ∧ i = .int .i64 k ∧ Hid (scanR (tupF (Ty.why n) a b) k = none) ∧ Hid (Below w.heap.size w wr) ∧ wr.cell? ⟨w.heap.size, 0, none⟩ = some (.int .i64 a.kind) ∧ wr.cell? ⟨w.heap.size, 1, none⟩ = some (.string a.name) ∧ wr.cell? ⟨w.heap.size, 2, none⟩ = some (.slice A a.labels.length ca) ∧ wr.cell? ⟨w.heap.size, 3, none⟩ = some (.slice B a.kids.length cb) ∧ wr.cell? ⟨w.heap.size, 4, none⟩ = some (.int .i64 b.kind) ∧ wr.cell? ⟨w.heap.size, 5, none⟩ = some (.string b.name) ∧ wr.cell? ⟨w.heap.size, 6, none⟩ = some (.slice A' b.labels.length ca') ∧ wr.cell? ⟨w.heap.size, 7, none⟩ = some (.slice B' b.kids.length cb') ∧ wr.cell? ⟨w.heap.size + 1, 0, none⟩ = some (.int .i64 0) ∧ wr.cell? ⟨w.heap.size + 1, 1, none⟩ = some (.string ⟨#[]⟩) ∧ wr.frozen? ⟨w.heap.size + 1, 0, none⟩ = false ∧ wr.frozen? ⟨w.heap.size + 1, 1, none⟩ = false) (fun i _ => b.kids.length - (intOf i).toNat)
  case atStart => exact ⟨0, Nat.zero_le _, rfl, rfl, below2 _ _ _, by go_simp, by go_simp, by go_simp, by go_simp, by go_simp, by go_simp, by go_simp, by go_simp, by go_simp, by go_simp, by go_simp, by go_simp⟩
  case round =>
    obtain ⟨k, hk, rfl, hno, hbel, p0, p1, p2, p3, p4, p5, p6, p7, r0, r1, rf0, rf1⟩ := hrel
    have hz : w.heap.size + 1 < wr.heap.size := World.block_lt_of_cell? wr _ r0
    by_cases hlt : k < b.kids.length
    · obtain ⟨x, hx⟩ : ∃ x, a.kids[k]? = some x := ⟨_, List.getElem?_eq_getElem (by have := HL.out; omega)⟩
      obtain ⟨y, hy⟩ : ∃ y, b.kids[k]? = some y := ⟨_, List.getElem?_eq_getElem hlt⟩
      have C := CK.out k x y hx hy
      have CI := Lib.hid (CIT.out k (by omega))
      have hds := decB_le k (by omega)
      have hs1 : ¬ 9223372036854775807 < (⟨#[46]⟩ : ByteArray).size + (decB (k : Int)).size := by have : (⟨#[46]⟩ : ByteArray).size = 1 := rfl; omega
      have hs2 : ¬ 9223372036854775807 < 1 + (decB (k : Int)).size := by omega
      have HFK : Hid (tupF (Ty.why n) a b k = preR (⟨#[46]⟩ ++ decB k) (Ty.why n x y)) := Lib.hid (tupF_eq hx hy)
      have HRO := RS.out k x y hx hy
      have HLT := Lib.hid hlt
      have hli : (k : Int) < (b.kids.length : Int) := by omega
      have hne : w.heap.size ≠ wr.heap.size := by omega
      generalize decB (k : Int) = D at *
      clear hx hy hlt
      cases hr : Ty.why n x y with
      | none =>
        rw [hr, preR_none] at C HFK
        have C := Lib.hid (fun W h1 h2 h3 => (C W h1 h2 h3).mono fun _ _ j => j.none_)
        have HSC : Hid (scanR (tupF (Ty.why n) a b) (k + 1) = none) := Lib.hid (by rw [scanR_step hno.out, HFK.out])
        clear hr HRO HFK CK RS CIT
        go_wp2_with fail
        go_region_held3 (fun w' => w'.cell? ⟨w.heap.size, 0, none⟩ = some (.int .i64 a.kind) ∧ w'.cell? ⟨w.heap.size, 1, none⟩ = some (.string a.name) ∧ w'.cell? ⟨w.heap.size, 2, none⟩ = some (.slice A a.labels.length ca) ∧ w'.cell? ⟨w.heap.size, 3, none⟩ = some (.slice B a.kids.length cb) ∧ w'.cell? ⟨w.heap.size, 4, none⟩ = some (.int .i64 b.kind) ∧ w'.cell? ⟨w.heap.size, 5, none⟩ = some (.string b.name) ∧ w'.cell? ⟨w.heap.size, 6, none⟩ = some (.slice A' b.labels.length ca') ∧ w'.cell? ⟨w.heap.size, 7, none⟩ = some (.slice B' b.kids.length cb'))
            (first | assumption | (with_reducible exact ⟨p0, p1, p2, p3, p4, p5, p6, p7⟩) | (with_reducible exact ⟨keepCell (Below.refl _ _).drew p0, keepCell (Below.refl _ _).drew p1, keepCell (Below.refl _ _).drew p2, keepCell (Below.refl _ _).drew p3, keepCell (Below.refl _ _).drew p4, keepCell (Below.refl _ _).drew p5, keepCell (Below.refl _ _).drew p6, keepCell (Below.refl _ _).drew p7⟩) | (with_reducible exact ⟨keepCell (below1 _ _) p0, keepCell (below1 _ _) p1, keepCell (below1 _ _) p2, keepCell (below1 _ _) p3, keepCell (below1 _ _) p4, keepCell (below1 _ _) p5, keepCell (below1 _ _) p6, keepCell (below1 _ _) p7⟩) | (with_reducible exact ⟨keepCell (below1 _ _).drew p0, keepCell (below1 _ _).drew p1, keepCell (below1 _ _).drew p2, keepCell (below1 _ _).drew p3, keepCell (below1 _ _).drew p4, keepCell (below1 _ _).drew p5, keepCell (below1 _ _).drew p6, keepCell (below1 _ _).drew p7⟩) | (with_reducible exact ⟨keepCell (bnext (Below.refl _ _).drew (below1 _ _)) p0, keepCell (bnext (Below.refl _ _).drew (below1 _ _)) p1, keepCell (bnext (Below.refl _ _).drew (below1 _ _)) p2, keepCell (bnext (Below.refl _ _).drew (below1 _ _)) p3, keepCell (bnext (Below.refl _ _).drew (below1 _ _)) p4, keepCell (bnext (Below.refl _ _).drew (below1 _ _)) p5, keepCell (bnext (Below.refl _ _).drew (below1 _ _)) p6, keepCell (bnext (Below.refl _ _).drew (below1 _ _)) p7⟩) | (with_reducible exact ⟨up0, up1, up2, up3, up4, up5, up6, up7⟩) | (with_reducible exact ⟨keepCell (Below.refl _ _).drew up0, keepCell (Below.refl _ _).drew up1, keepCell (Below.refl _ _).drew up2, keepCell (Below.refl _ _).drew up3, keepCell (Below.refl _ _).drew up4, keepCell (Below.refl _ _).drew up5, keepCell (Below.refl _ _).drew up6, keepCell (Below.refl _ _).drew up7⟩) | (with_reducible exact ⟨keepCell (below1 _ _) up0, keepCell (below1 _ _) up1, keepCell (below1 _ _) up2, keepCell (below1 _ _) up3, keepCell (below1 _ _) up4, keepCell (below1 _ _) up5, keepCell (below1 _ _) up6, keepCell (below1 _ _) up7⟩) | (with_reducible exact ⟨keepCell (below1 _ _).drew up0, keepCell (below1 _ _).drew up1, keepCell (below1 _ _).drew up2, keepCell (below1 _ _).drew up3, keepCell (below1 _ _).drew up4, keepCell (below1 _ _).drew up5, keepCell (below1 _ _).drew up6, keepCell (below1 _ _).drew up7⟩) | (with_reducible exact ⟨keepCell (bnext (Below.refl _ _).drew (below1 _ _)) up0, keepCell (bnext (Below.refl _ _).drew (below1 _ _)) up1, keepCell (bnext (Below.refl _ _).drew (below1 _ _)) up2, keepCell (bnext (Below.refl _ _).drew (below1 _ _)) up3, keepCell (bnext (Below.refl _ _).drew (below1 _ _)) up4, keepCell (bnext (Below.refl _ _).drew (below1 _ _)) up5, keepCell (bnext (Below.refl _ _).drew (below1 _ _)) up6, keepCell (bnext (Below.refl _ _).drew (below1 _ _)) up7⟩) | (with_reducible exact ⟨(cells_far2 hne).trans up0, (cells_far2 hne).trans up1, (cells_far2 hne).trans up2, (cells_far2 hne).trans up3, (cells_far2 hne).trans up4, (cells_far2 hne).trans up5, (cells_far2 hne).trans up6, (cells_far2 hne).trans up7⟩) | (with_reducible exact ⟨(cells_far2 hne4).trans (keepCell (below1 _ _) up0), (cells_far2 hne4).trans (keepCell (below1 _ _) up1), (cells_far2 hne4).trans (keepCell (below1 _ _) up2), (cells_far2 hne4).trans (keepCell (below1 _ _) up3), (cells_far2 hne4).trans (keepCell (below1 _ _) up4), (cells_far2 hne4).trans (keepCell (below1 _ _) up5), (cells_far2 hne4).trans (keepCell (below1 _ _) up6), (cells_far2 hne4).trans (keepCell (below1 _ _) up7)⟩))
            (first | (go_at_call 88; refine (CI.out _).mono ?_; rintro e w' ⟨rfl, rfl⟩) | (go_at_call 87; (first | ((with_reducible refine (C.out _ (HA.out.on hbel.out.drew) (HB.out.on hbel.out.drew) (HT.out.keep hbel.out.drew)).mono ?_); rintro e w4 ⟨rfl, hb4⟩; have hbw : Below wr.heap.size wr w4 := (Below.refl wr.heap.size wr).drew.trans hb4; have up0 := keepCell hbw p0; have up1 := keepCell hbw p1; have up2 := keepCell hbw p2; have up3 := keepCell hbw p3; have up4 := keepCell hbw p4; have up5 := keepCell hbw p5; have up6 := keepCell hbw p6; have up7 := keepCell hbw p7; have ur0 := keepCell hbw r0; have ur1 := keepCell hbw r1; have uf0 : w4.frozen? ⟨w.heap.size + 1, 0, none⟩ = false := ((bcell hbw).2 _ _ hz).trans rf0; have uf1 : w4.frozen? ⟨w.heap.size + 1, 1, none⟩ = false := ((bcell hbw).2 _ _ hz).trans rf1; have hz4 : w.heap.size + 1 < w4.heap.size := World.block_lt_of_cell? w4 _ ur0; have hne4 : w.heap.size ≠ w4.heap.size := by omega) | ((with_reducible refine (C.out _ (HA.out.on (bnext hbel.out (below1 _ _)).drew) (HB.out.on (bnext hbel.out (below1 _ _)).drew) (HT.out.keep (bnext hbel.out (below1 _ _)).drew)).mono ?_); rintro e w4 ⟨rfl, hb4⟩; have hbw : Below wr.heap.size wr w4 := (below1 wr _).drew.trans (hb4.mono (by simp)); have up0 := keepCell hbw p0; have up1 := keepCell hbw p1; have up2 := keepCell hbw p2; have up3 := keepCell hbw p3; have up4 := keepCell hbw p4; have up5 := keepCell hbw p5; have up6 := keepCell hbw p6; have up7 := keepCell hbw p7; have ur0 := keepCell hbw r0; have ur1 := keepCell hbw r1; have uf0 : w4.frozen? ⟨w.heap.size + 1, 0, none⟩ = false := ((bcell hbw).2 _ _ hz).trans rf0; have uf1 : w4.frozen? ⟨w.heap.size + 1, 1, none⟩ = false := ((bcell hbw).2 _ _ hz).trans rf1; have hz4 : w.heap.size + 1 < w4.heap.size := World.block_lt_of_cell? w4 _ ur0; have uz0 := keepCell (a := ⟨wr.heap.size, 0, none⟩) (v := .int .i64 0) hb4 (by go_simp); have uz1 := keepCell (a := ⟨wr.heap.size, 1, none⟩) (v := .string ⟨#[]⟩) hb4 (by go_simp); have ug0 : w4.frozen? ⟨wr.heap.size, 0, none⟩ = false := ((bcell hb4).2 _ _ (by simp)).trans (by go_simp); have ug1 : w4.frozen? ⟨wr.heap.size, 1, none⟩ = false := ((bcell hb4).2 _ _ (by simp)).trans (by go_simp)))))
        all_goals
          have HB4 := Lib.hid (bnext hbel.out hbw)
          have hz5 : wr.heap.size ≤ w4.heap.size := hbw.size
          clear hbw hb4 C CI
          go_wp2_with fail
          go_roundw
          case rel =>
            refine ⟨k + 1, by omega, by go_num, HSC.out, ?_, ?_, ?_, ?_, ?_, ?_, ?_, ?_, ?_, ?_, ?_, ?_, ?_⟩
            · first | exact bnext HB4.out (below1 _ _) | exact (HB4.out.setCell (by first | exact Nat.le_refl _ | exact Nat.le_add_right _ _ | (dsimp only; omega) | (simp; omega)) _).setCell (by first | exact Nat.le_refl _ | exact Nat.le_add_right _ _ | (dsimp only; omega) | (simp; omega)) _
            all_goals first | (with_reducible assumption) | ((with_reducible refine (cells_far2 hne).trans ?_); assumption) | (exact keepCell (below1 _ _) (by assumption)) | (exact (cells_far2 (by omega)).trans (by assumption)) | go_simp
          case measure => simp [intOf]; omega
      | some v =>
        obtain ⟨z, p⟩ := v
        obtain ⟨⟨z1, z2⟩, z3⟩ := HRO z p hr
        rw [hr, preR_some] at C HFK
        have C := Lib.hid (fun W h1 h2 h3 => (C W h1 h2 h3).mono fun _ _ j => j.some_)
        have HRS : Hid (scanR (tupF (Ty.why n) a b) b.kids.length = some (z, ⟨#[46]⟩ ++ D ++ p)) := Lib.hid (scanR_of hno.out HFK.out HLT.out)
        have ez : (z == 0) = false := by rw [beq_eq_false_iff_ne]; omega
        have ez' : (z != 0) = true := by rw [bne_iff_ne]; omega
        clear hr HRO HFK CK RS CIT
        go_wp2_with fail
        go_region_held3 (fun w' => w'.cell? ⟨w.heap.size, 0, none⟩ = some (.int .i64 a.kind) ∧ w'.cell? ⟨w.heap.size, 1, none⟩ = some (.string a.name) ∧ w'.cell? ⟨w.heap.size, 2, none⟩ = some (.slice A a.labels.length ca) ∧ w'.cell? ⟨w.heap.size, 3, none⟩ = some (.slice B a.kids.length cb) ∧ w'.cell? ⟨w.heap.size, 4, none⟩ = some (.int .i64 b.kind) ∧ w'.cell? ⟨w.heap.size, 5, none⟩ = some (.string b.name) ∧ w'.cell? ⟨w.heap.size, 6, none⟩ = some (.slice A' b.labels.length ca') ∧ w'.cell? ⟨w.heap.size, 7, none⟩ = some (.slice B' b.kids.length cb'))
            (first | assumption | (with_reducible exact ⟨p0, p1, p2, p3, p4, p5, p6, p7⟩) | (with_reducible exact ⟨keepCell (Below.refl _ _).drew p0, keepCell (Below.refl _ _).drew p1, keepCell (Below.refl _ _).drew p2, keepCell (Below.refl _ _).drew p3, keepCell (Below.refl _ _).drew p4, keepCell (Below.refl _ _).drew p5, keepCell (Below.refl _ _).drew p6, keepCell (Below.refl _ _).drew p7⟩) | (with_reducible exact ⟨keepCell (below1 _ _) p0, keepCell (below1 _ _) p1, keepCell (below1 _ _) p2, keepCell (below1 _ _) p3, keepCell (below1 _ _) p4, keepCell (below1 _ _) p5, keepCell (below1 _ _) p6, keepCell (below1 _ _) p7⟩) | (with_reducible exact ⟨keepCell (below1 _ _).drew p0, keepCell (below1 _ _).drew p1, keepCell (below1 _ _).drew p2, keepCell (below1 _ _).drew p3, keepCell (below1 _ _).drew p4, keepCell (below1 _ _).drew p5, keepCell (below1 _ _).drew p6, keepCell (below1 _ _).drew p7⟩) | (with_reducible exact ⟨keepCell (bnext (Below.refl _ _).drew (below1 _ _)) p0, keepCell (bnext (Below.refl _ _).drew (below1 _ _)) p1, keepCell (bnext (Below.refl _ _).drew (below1 _ _)) p2, keepCell (bnext (Below.refl _ _).drew (below1 _ _)) p3, keepCell (bnext (Below.refl _ _).drew (below1 _ _)) p4, keepCell (bnext (Below.refl _ _).drew (below1 _ _)) p5, keepCell (bnext (Below.refl _ _).drew (below1 _ _)) p6, keepCell (bnext (Below.refl _ _).drew (below1 _ _)) p7⟩) | (with_reducible exact ⟨up0, up1, up2, up3, up4, up5, up6, up7⟩) | (with_reducible exact ⟨keepCell (Below.refl _ _).drew up0, keepCell (Below.refl _ _).drew up1, keepCell (Below.refl _ _).drew up2, keepCell (Below.refl _ _).drew up3, keepCell (Below.refl _ _).drew up4, keepCell (Below.refl _ _).drew up5, keepCell (Below.refl _ _).drew up6, keepCell (Below.refl _ _).drew up7⟩) | (with_reducible exact ⟨keepCell (below1 _ _) up0, keepCell (below1 _ _) up1, keepCell (below1 _ _) up2, keepCell (below1 _ _) up3, keepCell (below1 _ _) up4, keepCell (below1 _ _) up5, keepCell (below1 _ _) up6, keepCell (below1 _ _) up7⟩) | (with_reducible exact ⟨keepCell (below1 _ _).drew up0, keepCell (below1 _ _).drew up1, keepCell (below1 _ _).drew up2, keepCell (below1 _ _).drew up3, keepCell (below1 _ _).drew up4, keepCell (below1 _ _).drew up5, keepCell (below1 _ _).drew up6, keepCell (below1 _ _).drew up7⟩) | (with_reducible exact ⟨keepCell (bnext (Below.refl _ _).drew (below1 _ _)) up0, keepCell (bnext (Below.refl _ _).drew (below1 _ _)) up1, keepCell (bnext (Below.refl _ _).drew (below1 _ _)) up2, keepCell (bnext (Below.refl _ _).drew (below1 _ _)) up3, keepCell (bnext (Below.refl _ _).drew (below1 _ _)) up4, keepCell (bnext (Below.refl _ _).drew (below1 _ _)) up5, keepCell (bnext (Below.refl _ _).drew (below1 _ _)) up6, keepCell (bnext (Below.refl _ _).drew (below1 _ _)) up7⟩) | (with_reducible exact ⟨(cells_far2 hne).trans up0, (cells_far2 hne).trans up1, (cells_far2 hne).trans up2, (cells_far2 hne).trans up3, (cells_far2 hne).trans up4, (cells_far2 hne).trans up5, (cells_far2 hne).trans up6, (cells_far2 hne).trans up7⟩) | (with_reducible exact ⟨(cells_far2 hne4).trans (keepCell (below1 _ _) up0), (cells_far2 hne4).trans (keepCell (below1 _ _) up1), (cells_far2 hne4).trans (keepCell (below1 _ _) up2), (cells_far2 hne4).trans (keepCell (below1 _ _) up3), (cells_far2 hne4).trans (keepCell (below1 _ _) up4), (cells_far2 hne4).trans (keepCell (below1 _ _) up5), (cells_far2 hne4).trans (keepCell (below1 _ _) up6), (cells_far2 hne4).trans (keepCell (below1 _ _) up7)⟩))
            (first | (go_at_call 88; refine (CI.out _).mono ?_; rintro e w' ⟨rfl, rfl⟩) | (go_at_call 87; (first | ((with_reducible refine (C.out _ (HA.out.on hbel.out.drew) (HB.out.on hbel.out.drew) (HT.out.keep hbel.out.drew)).mono ?_); rintro e w4 ⟨rfl, hb4⟩; have hbw : Below wr.heap.size wr w4 := (Below.refl wr.heap.size wr).drew.trans hb4; have up0 := keepCell hbw p0; have up1 := keepCell hbw p1; have up2 := keepCell hbw p2; have up3 := keepCell hbw p3; have up4 := keepCell hbw p4; have up5 := keepCell hbw p5; have up6 := keepCell hbw p6; have up7 := keepCell hbw p7; have ur0 := keepCell hbw r0; have ur1 := keepCell hbw r1; have uf0 : w4.frozen? ⟨w.heap.size + 1, 0, none⟩ = false := ((bcell hbw).2 _ _ hz).trans rf0; have uf1 : w4.frozen? ⟨w.heap.size + 1, 1, none⟩ = false := ((bcell hbw).2 _ _ hz).trans rf1; have hz4 : w.heap.size + 1 < w4.heap.size := World.block_lt_of_cell? w4 _ ur0; have hne4 : w.heap.size ≠ w4.heap.size := by omega) | ((with_reducible refine (C.out _ (HA.out.on (bnext hbel.out (below1 _ _)).drew) (HB.out.on (bnext hbel.out (below1 _ _)).drew) (HT.out.keep (bnext hbel.out (below1 _ _)).drew)).mono ?_); rintro e w4 ⟨rfl, hb4⟩; have hbw : Below wr.heap.size wr w4 := (below1 wr _).drew.trans (hb4.mono (by simp)); have up0 := keepCell hbw p0; have up1 := keepCell hbw p1; have up2 := keepCell hbw p2; have up3 := keepCell hbw p3; have up4 := keepCell hbw p4; have up5 := keepCell hbw p5; have up6 := keepCell hbw p6; have up7 := keepCell hbw p7; have ur0 := keepCell hbw r0; have ur1 := keepCell hbw r1; have uf0 : w4.frozen? ⟨w.heap.size + 1, 0, none⟩ = false := ((bcell hbw).2 _ _ hz).trans rf0; have uf1 : w4.frozen? ⟨w.heap.size + 1, 1, none⟩ = false := ((bcell hbw).2 _ _ hz).trans rf1; have hz4 : w.heap.size + 1 < w4.heap.size := World.block_lt_of_cell? w4 _ ur0; have uz0 := keepCell (a := ⟨wr.heap.size, 0, none⟩) (v := .int .i64 0) hb4 (by go_simp); have uz1 := keepCell (a := ⟨wr.heap.size, 1, none⟩) (v := .string ⟨#[]⟩) hb4 (by go_simp); have ug0 : w4.frozen? ⟨wr.heap.size, 0, none⟩ = false := ((bcell hb4).2 _ _ (by simp)).trans (by go_simp); have ug1 : w4.frozen? ⟨wr.heap.size, 1, none⟩ = false := ((bcell hb4).2 _ _ (by simp)).trans (by go_simp)))))
        all_goals
          have HB4 := Lib.hid (bnext hbel.out hbw)
          have hz5 : wr.heap.size ≤ w4.heap.size := hbw.size
          clear hbw hb4 C CI
          go_wp2_with fail
          refine bodyPost_ret (v := .agg #[.int .i64 z, .string (⟨#[46]⟩ ++ D ++ p)]) ?_ rfl ⟨by rw [HRS.out]; rfl, ?_⟩
          · first | (simp [results, Tryz.results72, go_sem, ur0, ur1, hz4]; done) | (simp [results, Tryz.results72, go_sem, ur0, ur1, hz4, uz0, uz1, hz5])
          · first | exact ((bnext HB4.out (below1 _ _)).setCell (by first | exact Nat.le_refl _ | exact Nat.le_add_right _ _ | (dsimp only; omega) | (simp; omega)) _).setCell (by first | exact Nat.le_refl _ | exact Nat.le_add_right _ _ | (dsimp only; omega) | (simp; omega)) _ | exact (Below.alloc ((HB4.out.setCell (by first | exact Nat.le_refl _ | exact Nat.le_add_right _ _ | (dsimp only; omega) | (simp; omega)) _).setCell (by first | exact Nat.le_refl _ | exact Nat.le_add_right _ _ | (dsimp only; omega) | (simp; omega)) _) (by first | (simp only [World.setCell_size]; omega) | (simp; omega)) _) | exact (((HB4.out.setCell (by first | exact Nat.le_refl _ | exact Nat.le_add_right _ _ | (dsimp only; omega) | (simp; omega)) _).setCell (by first | exact Nat.le_refl _ | exact Nat.le_add_right _ _ | (dsimp only; omega) | (simp; omega)) _).setCell (by first | exact Nat.le_refl _ | exact Nat.le_add_right _ _ | (dsimp only; omega) | (simp; omega)) _).setCell (by first | exact Nat.le_refl _ | exact Nat.le_add_right _ _ | (dsimp only; omega) | (simp; omega)) _
    · have hk' : k = b.kids.length := by omega
      have h9 := hno.out
      rw [hk'] at h9
      have HRS := Lib.hid h9
      clear h9 hk' CK RS CIT
      go_wp2_with fail
      refine bodyPost_ret (v := .agg #[.int .i64 0, .string ⟨#[]⟩]) (by simp [results, Tryz.results72, go_sem, r0, r1]) rfl ⟨by rw [HRS.out]; rfl, by (first | (with_reducible exact hbel.out) | ((with_reducible refine Below.setCell (hbel.out) ?_ _) <;> (first | exact Nat.le_refl _ | exact Nat.le_add_right _ _ | (dsimp only; omega) | (simp; omega))) | ((with_reducible refine Below.setCell (Below.setCell (hbel.out) ?_ _) ?_ _) <;> (first | exact Nat.le_refl _ | exact Nat.le_add_right _ _ | (dsimp only; omega) | (simp; omega))) | ((with_reducible refine Below.setCell (Below.setCell (Below.setCell (hbel.out) ?_ _) ?_ _) ?_ _) <;> (first | exact Nat.le_refl _ | exact Nat.le_add_right _ _ | (dsimp only; omega) | (simp; omega))))⟩
end Go.Proofs.YtifchfecfkdjlaaGreatDoor
