/-
  StPm, StFn, StEx, StWPm: in one text.
-/
import Derived.Test.YtifchfecfkdjlaaGreatDoorMG
import Derived.Test.YtifchfecfkdjlaaGreatDoorMC
import Derived.Test.YtifchfecfkdjlaaGreatDoorME
namespace Go.Proofs.YtifchfecfkdjlaaGreatDoor
open Go.ChangeShapes Go.WideShapes Go.ChangeAt Go.RowKit Go.Deep

structure Pm where
  name : ByteArray
  ty : Ty
/-- The weight. -/
def Pm.wt (x : Pm) : Int := (x.name.size : Int) + x.ty.wt
def Pm.wts : List Pm → Int | [] => 0 | x :: xs => x.wt + Pm.wts xs
theorem Pm.wt_nonneg (x : Pm) : 0 ≤ x.wt := by
  have := x.ty.wt_nonneg
  unfold Pm.wt
  omega
theorem Pm.wts_append : ∀ xs ys : List Pm, Pm.wts (xs ++ ys) = Pm.wts xs + Pm.wts ys
  | [], ys => by simp [Pm.wts]
  | x :: xs, ys => by
    simp only [List.cons_append, Pm.wts, Pm.wts_append xs ys]
    omega
theorem Pm.wts_nonneg : ∀ xs : List Pm, 0 ≤ Pm.wts xs
  | [] => by simp [Pm.wts]
  | x :: xs => by
    have h1 := x.wt_nonneg
    have h2 := Pm.wts_nonneg xs
    simp only [Pm.wts]
    omega
theorem Pm.wts_take {xs : List Pm} {i : Nat} {x : Pm} (h : xs[i]? = some x) : Pm.wts (xs.take (i + 1)) = Pm.wts (xs.take i) + x.wt := by
  obtain ⟨hi, rfl⟩ := List.getElem?_eq_some_iff.1 h
  rw [List.take_succ_eq_append_getElem hi, Pm.wts_append]
  simp [Pm.wts]
theorem Pm.wts_take_le (xs : List Pm) (i : Nat) : Pm.wts (xs.take i) ≤ Pm.wts xs := by
  have h := Pm.wts_append (xs.take i) (xs.drop i)
  rw [List.take_append_drop] at h
  have := Pm.wts_nonneg (xs.drop i)
  omega
theorem Pm.wt_mem {xs : List Pm} {i : Nat} {x : Pm} (h : xs[i]? = some x) : x.wt ≤ Pm.wts xs := by
  have h1 := Pm.wts_take h
  have h2 := Pm.wts_take_le xs (i + 1)
  have h3 := Pm.wts_nonneg (xs.take i)
  omega
/-- What a machine holds. -/
def Pm.Fin (x : Pm) : Prop := x.name.size ≤ maxLen ∧ x.ty.Fin
/-- What the value points to lies in memory. -/
def Pm.At (w : World) (lo : Nat) (x : Pm) (Aty : Option Addr) (Bty : Option Addr) : Prop := Ty.Ao w lo x.ty Aty Bty
theorem Pm.At.keep {w w' : World} {lo : Nat} {x : Pm} {Aty : Option Addr} {Bty : Option Addr} (h : Pm.At w lo x Aty Bty) (hk : KeptFrom lo w w') : Pm.At w' lo x Aty Bty := by
  have h0 := h
  exact Ty.Ao.keep hk h0
theorem Pm.At.low {w : World} {lo lo' : Nat} {x : Pm} {Aty : Option Addr} {Bty : Option Addr} (h : Pm.At w lo x Aty Bty) (hl : lo' ≤ lo) : Pm.At w lo' x Aty Bty := by
  have h0 := h
  exact Ty.Ao.low hl h0
theorem Pm.At.below {w w' : World} {lo : Nat} {x : Pm} {Aty : Option Addr} {Bty : Option Addr} (h : Pm.At w lo x Aty Bty) (hb : Below w.heap.size w w') : Pm.At w' lo x Aty Bty := h.keep (KeptFrom.below hb lo)
/-- One element's cells. -/
structure Pm.Cells (w : World) (lo : Nat) (x : Pm) (b o : Nat) (Aty : Option Addr) (Bty : Option Addr) (cty : Nat) (dty : Nat) : Prop where
  c0_ : w.cell? ⟨b, o, none⟩ = some (.string x.name)
  c1_ : w.cell? ⟨b, o + 1, none⟩ = some (.int .i64 x.ty.kind)
  c2_ : w.cell? ⟨b, o + 2, none⟩ = some (.string x.ty.name)
  c3_ : w.cell? ⟨b, o + 3, none⟩ = some (.slice Aty x.ty.labels.length cty)
  c4_ : w.cell? ⟨b, o + 4, none⟩ = some (.slice Bty x.ty.kids.length dty)
  at_ : Pm.At w lo x Aty Bty
theorem Pm.Cells.keep {w w' : World} {lo : Nat} {x : Pm} {b o : Nat} {Aty : Option Addr} {Bty : Option Addr} {cty : Nat} {dty : Nat} (h : Pm.Cells w lo x b o Aty Bty cty dty) (hk : KeptFrom lo w w') (hlo : lo ≤ b) : Pm.Cells w' lo x b o Aty Bty cty dty :=
  ⟨hk _ _ hlo h.c0_, hk _ _ hlo h.c1_, hk _ _ hlo h.c2_, hk _ _ hlo h.c3_, hk _ _ hlo h.c4_, h.at_.keep hk⟩
/-- A slice's elements lie in memory, no block of them below lo. -/
def Pms (w : World) (lo : Nat) (xs : List Pm) (R : Option Addr) : Prop := 0 < xs.length → ∃ b o : Nat, R = some ⟨b, o, none⟩ ∧ lo ≤ b ∧ ∀ (i : Nat) (x : Pm), xs[i]? = some x → ∃ (Aty : Option Addr), ∃ (Bty : Option Addr), ∃ (cty : Nat), ∃ (dty : Nat), Pm.Cells w lo x b (o + i * 5) Aty Bty cty dty
theorem Pms.keep {w w' : World} {lo : Nat} {xs : List Pm} {R : Option Addr} (h : Pms w lo xs R) (hk : KeptFrom lo w w') : Pms w' lo xs R := fun hp => by
  obtain ⟨b, o, hb, hlo, hr⟩ := h hp
  refine ⟨b, o, hb, hlo, fun i x hx => ?_⟩
  obtain ⟨Aty, Bty, cty, dty, hc⟩ := hr i x hx
  exact ⟨_, _, _, _, hc.keep hk hlo⟩
theorem Pms.low {w : World} {lo lo' : Nat} {xs : List Pm} {R : Option Addr} (h : Pms w lo xs R) (hl : lo' ≤ lo) : Pms w lo' xs R := fun hp => by
  obtain ⟨b, o, hb, hlo, hr⟩ := h hp
  refine ⟨b, o, hb, by omega, fun i x hx => ?_⟩
  obtain ⟨Aty, Bty, cty, dty, hc⟩ := hr i x hx
  exact ⟨_, _, _, _, ⟨hc.c0_, hc.c1_, hc.c2_, hc.c3_, hc.c4_, hc.at_.low hl⟩⟩
theorem Pms.below {w w' : World} {lo : Nat} {xs : List Pm} {R : Option Addr} (h : Pms w lo xs R) (hb : Below w.heap.size w w') : Pms w' lo xs R := h.keep (KeptFrom.below hb lo)
theorem Pms.at_ {w : World} {lo : Nat} {xs : List Pm} {R : Option Addr} (h : Pms w lo xs R) {k : Nat} (hk : k < xs.length) : ∃ (b o : Nat) (x : Pm), ∃ (Aty : Option Addr), ∃ (Bty : Option Addr), ∃ (cty : Nat), ∃ (dty : Nat), R = some ⟨b, o, none⟩ ∧ lo ≤ b ∧ xs[k]? = some x ∧ Pm.Cells w lo x b (o + k * 5) Aty Bty cty dty := by
  obtain ⟨b, o, ha, hlo, hc⟩ := h (by omega)
  obtain ⟨Aty, Bty, cty, dty, hc⟩ := hc k _ (List.getElem?_eq_getElem hk)
  exact ⟨b, o, xs[k], _, _, _, _, ha, hlo, List.getElem?_eq_getElem hk, hc⟩
end Go.Proofs.YtifchfecfkdjlaaGreatDoor

namespace Go.Proofs.YtifchfecfkdjlaaGreatDoor
open Go.ChangeShapes Go.WideShapes Go.ChangeAt Go.RowKit Go.Deep

structure Fn where
  params : List Pm
  res : Ty
  async : Bool
/-- The weight. -/
def Fn.wt (x : Fn) : Int := ((x.params.length : Int) + Pm.wts x.params) + x.res.wt
def Fn.wts : List Fn → Int | [] => 0 | x :: xs => x.wt + Fn.wts xs
theorem Fn.wt_nonneg (x : Fn) : 0 ≤ x.wt := by
  have := Pm.wts_nonneg x.params
  have := x.res.wt_nonneg
  unfold Fn.wt
  omega
theorem Fn.wts_append : ∀ xs ys : List Fn, Fn.wts (xs ++ ys) = Fn.wts xs + Fn.wts ys
  | [], ys => by simp [Fn.wts]
  | x :: xs, ys => by
    simp only [List.cons_append, Fn.wts, Fn.wts_append xs ys]
    omega
theorem Fn.wts_nonneg : ∀ xs : List Fn, 0 ≤ Fn.wts xs
  | [] => by simp [Fn.wts]
  | x :: xs => by
    have h1 := x.wt_nonneg
    have h2 := Fn.wts_nonneg xs
    simp only [Fn.wts]
    omega
theorem Fn.wts_take {xs : List Fn} {i : Nat} {x : Fn} (h : xs[i]? = some x) : Fn.wts (xs.take (i + 1)) = Fn.wts (xs.take i) + x.wt := by
  obtain ⟨hi, rfl⟩ := List.getElem?_eq_some_iff.1 h
  rw [List.take_succ_eq_append_getElem hi, Fn.wts_append]
  simp [Fn.wts]
theorem Fn.wts_take_le (xs : List Fn) (i : Nat) : Fn.wts (xs.take i) ≤ Fn.wts xs := by
  have h := Fn.wts_append (xs.take i) (xs.drop i)
  rw [List.take_append_drop] at h
  have := Fn.wts_nonneg (xs.drop i)
  omega
theorem Fn.wt_mem {xs : List Fn} {i : Nat} {x : Fn} (h : xs[i]? = some x) : x.wt ≤ Fn.wts xs := by
  have h1 := Fn.wts_take h
  have h2 := Fn.wts_take_le xs (i + 1)
  have h3 := Fn.wts_nonneg (xs.take i)
  omega
/-- What a machine holds. -/
def Fn.Fin (x : Fn) : Prop := (x.params.length ≤ maxLen ∧ ∀ y ∈ x.params, Pm.Fin y) ∧ x.res.Fin
/-- What the value points to lies in memory. -/
def Fn.At (w : World) (lo : Nat) (x : Fn) (Rparams : Option Addr) (Ares : Option Addr) (Bres : Option Addr) : Prop := Pms w lo x.params Rparams ∧ Ty.Ao w lo x.res Ares Bres
theorem Fn.At.keep {w w' : World} {lo : Nat} {x : Fn} {Rparams : Option Addr} {Ares : Option Addr} {Bres : Option Addr} (h : Fn.At w lo x Rparams Ares Bres) (hk : KeptFrom lo w w') : Fn.At w' lo x Rparams Ares Bres := by
  obtain ⟨h0, h1⟩ := h
  exact ⟨Pms.keep h0 hk, Ty.Ao.keep hk h1⟩
theorem Fn.At.low {w : World} {lo lo' : Nat} {x : Fn} {Rparams : Option Addr} {Ares : Option Addr} {Bres : Option Addr} (h : Fn.At w lo x Rparams Ares Bres) (hl : lo' ≤ lo) : Fn.At w lo' x Rparams Ares Bres := by
  obtain ⟨h0, h1⟩ := h
  exact ⟨Pms.low h0 hl, Ty.Ao.low hl h1⟩
theorem Fn.At.below {w w' : World} {lo : Nat} {x : Fn} {Rparams : Option Addr} {Ares : Option Addr} {Bres : Option Addr} (h : Fn.At w lo x Rparams Ares Bres) (hb : Below w.heap.size w w') : Fn.At w' lo x Rparams Ares Bres := h.keep (KeptFrom.below hb lo)
/-- One element's cells. -/
structure Fn.Cells (w : World) (lo : Nat) (x : Fn) (b o : Nat) (Rparams : Option Addr) (cparams : Nat) (Ares : Option Addr) (Bres : Option Addr) (cres : Nat) (dres : Nat) : Prop where
  c0_ : w.cell? ⟨b, o, none⟩ = some (.slice Rparams x.params.length cparams)
  c1_ : w.cell? ⟨b, o + 1, none⟩ = some (.int .i64 x.res.kind)
  c2_ : w.cell? ⟨b, o + 2, none⟩ = some (.string x.res.name)
  c3_ : w.cell? ⟨b, o + 3, none⟩ = some (.slice Ares x.res.labels.length cres)
  c4_ : w.cell? ⟨b, o + 4, none⟩ = some (.slice Bres x.res.kids.length dres)
  c5_ : w.cell? ⟨b, o + 5, none⟩ = some (.bool x.async)
  at_ : Fn.At w lo x Rparams Ares Bres
theorem Fn.Cells.keep {w w' : World} {lo : Nat} {x : Fn} {b o : Nat} {Rparams : Option Addr} {cparams : Nat} {Ares : Option Addr} {Bres : Option Addr} {cres : Nat} {dres : Nat} (h : Fn.Cells w lo x b o Rparams cparams Ares Bres cres dres) (hk : KeptFrom lo w w') (hlo : lo ≤ b) : Fn.Cells w' lo x b o Rparams cparams Ares Bres cres dres :=
  ⟨hk _ _ hlo h.c0_, hk _ _ hlo h.c1_, hk _ _ hlo h.c2_, hk _ _ hlo h.c3_, hk _ _ hlo h.c4_, hk _ _ hlo h.c5_, h.at_.keep hk⟩
/-- A slice's elements lie in memory, no block of them below lo. -/
def Fns (w : World) (lo : Nat) (xs : List Fn) (R : Option Addr) : Prop := 0 < xs.length → ∃ b o : Nat, R = some ⟨b, o, none⟩ ∧ lo ≤ b ∧ ∀ (i : Nat) (x : Fn), xs[i]? = some x → ∃ (Rparams : Option Addr), ∃ (cparams : Nat), ∃ (Ares : Option Addr), ∃ (Bres : Option Addr), ∃ (cres : Nat), ∃ (dres : Nat), Fn.Cells w lo x b (o + i * 6) Rparams cparams Ares Bres cres dres
theorem Fns.keep {w w' : World} {lo : Nat} {xs : List Fn} {R : Option Addr} (h : Fns w lo xs R) (hk : KeptFrom lo w w') : Fns w' lo xs R := fun hp => by
  obtain ⟨b, o, hb, hlo, hr⟩ := h hp
  refine ⟨b, o, hb, hlo, fun i x hx => ?_⟩
  obtain ⟨Rparams, cparams, Ares, Bres, cres, dres, hc⟩ := hr i x hx
  exact ⟨_, _, _, _, _, _, hc.keep hk hlo⟩
theorem Fns.low {w : World} {lo lo' : Nat} {xs : List Fn} {R : Option Addr} (h : Fns w lo xs R) (hl : lo' ≤ lo) : Fns w lo' xs R := fun hp => by
  obtain ⟨b, o, hb, hlo, hr⟩ := h hp
  refine ⟨b, o, hb, by omega, fun i x hx => ?_⟩
  obtain ⟨Rparams, cparams, Ares, Bres, cres, dres, hc⟩ := hr i x hx
  exact ⟨_, _, _, _, _, _, ⟨hc.c0_, hc.c1_, hc.c2_, hc.c3_, hc.c4_, hc.c5_, hc.at_.low hl⟩⟩
theorem Fns.below {w w' : World} {lo : Nat} {xs : List Fn} {R : Option Addr} (h : Fns w lo xs R) (hb : Below w.heap.size w w') : Fns w' lo xs R := h.keep (KeptFrom.below hb lo)
theorem Fns.at_ {w : World} {lo : Nat} {xs : List Fn} {R : Option Addr} (h : Fns w lo xs R) {k : Nat} (hk : k < xs.length) : ∃ (b o : Nat) (x : Fn), ∃ (Rparams : Option Addr), ∃ (cparams : Nat), ∃ (Ares : Option Addr), ∃ (Bres : Option Addr), ∃ (cres : Nat), ∃ (dres : Nat), R = some ⟨b, o, none⟩ ∧ lo ≤ b ∧ xs[k]? = some x ∧ Fn.Cells w lo x b (o + k * 6) Rparams cparams Ares Bres cres dres := by
  obtain ⟨b, o, ha, hlo, hc⟩ := h (by omega)
  obtain ⟨Rparams, cparams, Ares, Bres, cres, dres, hc⟩ := hc k _ (List.getElem?_eq_getElem hk)
  exact ⟨b, o, xs[k], _, _, _, _, _, _, ha, hlo, List.getElem?_eq_getElem hk, hc⟩
end Go.Proofs.YtifchfecfkdjlaaGreatDoor

namespace Go.Proofs.YtifchfecfkdjlaaGreatDoor
open Go.ChangeShapes Go.WideShapes Go.ChangeAt Go.RowKit Go.Deep

theorem szStrs_ex (ls : List ByteArray) (A : Option Addr) (cap : Nat) (left : Int) (h0 : 0 ≤ left) (h1 : left ≤ 1048576) (hl : ls.length ≤ maxLen) (hs : ∀ s ∈ ls, s.size ≤ maxLen) (lo : Nat) (w : World) (h : Strs w lo ls A) :
    Calls Tryz.prog 22 #[.slice A ls.length cap, .int .i64 left] w fun e w' => e = .returned (.int .i64 (leftOr (left - ((ls.length : Int) + sumSz ls)))) ∧ Below w.heap.size w w' := by
  have e : left - ((ls.length : Int) + sumSz ls) = left - (ls.length : Int) - sumSz ls := by omega
  rw [e]
  exact (szStringS_any ls A cap left h0 h1 hl hs lo w h).mono fun _ _ ⟨h1, h2⟩ => ⟨h1, h2 ▸ Below.refl _ _⟩
theorem toStrs_ex (ls : List ByteArray) (A : Option Addr) (cap : Nat) (hl : ls.length ≤ 1048576) (lo : Nat) (w : World) (h : Strs w lo ls A) :
    Calls Tryz.prog 26 #[.slice A ls.length cap] w fun e w' => ∃ (A' : Option Addr) (c' : Nat), e = .returned (.slice A' ls.length c') ∧ Strs w' w.heap.size ls A' ∧ Below w.heap.size w w' :=
  (toStringS_any ls A cap hl lo w h).mono fun _ _ ⟨h1, h2, h3⟩ => ⟨_, _, h1, h2, h3⟩
theorem toType_ex (T : Ty) (hT : T.wt ≤ 1048576) (A B : Option Addr) (ca cb lo : Nat) (w : World) (h : Ty.At w lo T A B) :
    Calls Tryz.prog 9 #[.agg #[.int .i64 T.kind, .string T.name, .slice A T.labels.length ca, .slice B T.kids.length cb]] w fun e w' => ∃ (A' B' : Option Addr) (c' d' : Nat), e = .returned (.agg #[.int .i64 T.kind, .string T.name, .slice A' T.labels.length c', .slice B' T.kids.length d']) ∧ Ty.At w' w.heap.size T A' B' ∧ Below w.heap.size w w' :=
  (toType_any T hT A B ca cb lo w h).mono fun _ _ ⟨A', B', h1, h2, h3⟩ => ⟨A', B', _, _, h1, h2, h3⟩
theorem eqStrs_ex (ls : List ByteArray) (A A' : Option Addr) (ca ca' : Nat) (hl : ls.length ≤ maxLen) (lo lo' : Nat) (w : World) (h : Strs w lo ls A) (h' : Strs w lo' ls A') :
    Calls Tryz.prog 29 #[.slice A ls.length ca, .slice A' ls.length ca'] w fun e w' => e = .returned (.bool true) ∧ Below w.heap.size w w' :=
  (eqStringS_same ls A A' ca ca' hl lo lo' w h h').mono fun _ _ ⟨h1, n, h2⟩ => ⟨h1, h2 ▸ belowN (Below.refl _ _) n⟩
end Go.Proofs.YtifchfecfkdjlaaGreatDoor

namespace Go.Proofs.YtifchfecfkdjlaaGreatDoor
open Go.ChangeShapes Go.WideShapes Go.ChangeAt Go.RowKit Go.Deep

theorem Pm.parts_le {x : Pm} (h : x.wt ≤ 1048576) : (x.name.size : Int) ≤ 1048576 ∧ x.ty.wt ≤ 1048576 ∧ True := by
  have := x.ty.wt_nonneg
  unfold Pm.wt at h
  refine ⟨by omega, by omega, trivial⟩

theorem szParam_any (x : Pm) (hf : x.Fin) (left : Int) (h0 : 0 ≤ left) (h1 : left ≤ 1048576) (Aty : Option Addr) (Bty : Option Addr) (cty : Nat) (dty : Nat) (lo : Nat) (w : World) (h : Pm.At w lo x Aty Bty) :
    Calls Tryz.prog 52 #[.agg #[.string x.name, .int .i64 x.ty.kind, .string x.ty.name, .slice Aty x.ty.labels.length cty, .slice Bty x.ty.kids.length dty], .int .i64 left] w fun e w' => e = .returned (.int .i64 (leftOr (left - x.wt))) ∧ Below w.heap.size w w' := by
  obtain ⟨f0, f1⟩ := hf
  have hw : x.wt = (x.name.size : Int) + x.ty.wt := rfl
  have n_ty := x.ty.wt_nonneg
  have p_ty := h
  have HP_ty := Lib.hid p_ty
  have C_ty : Hid (∀ (l : Int), 0 ≤ l → l ≤ 1048576 → ∀ W : World, Ty.Ao W lo x.ty Aty Bty → Calls Tryz.prog 7 #[.agg #[.int .i64 x.ty.kind, .string x.ty.name, .slice Aty x.ty.labels.length cty, .slice Bty x.ty.kids.length dty], .int .i64 l] W fun e w' => e = .returned (.int .i64 (leftOr (l - x.ty.wt))) ∧ Below W.heap.size W w') := Lib.hid (fun l l0 l1 W hW => szType_any x.ty f1 l l0 l1 Aty Bty cty dty lo W hW.1)
  unfold maxLen at f0
  obtain ⟨R, hR⟩ : ∃ R, leftOr (left - x.wt) = R := ⟨_, rfl⟩
  rw [hR]
  have HRR := Lib.hid hR
  have HW := Lib.hid hw
  clear hR hw p_ty
  generalize x.ty.wt = w_ty at *
  generalize x.wt = W0 at *
  by_cases e1 : left - (x.name.size : Int) < 0
  · go_enter Tryz.func52, Tryz.ntmps52
    go_wp2_with fail
    go_ret
    refine ⟨ret_int ?_, below1 _ _⟩
    have := HW.out
    rw [← HRR.out, leftOr_neg (by omega)]
  · obtain ⟨M1, hm1⟩ : ∃ M, left - (x.name.size : Int) = M := ⟨_, rfl⟩
    have hx1 : 0 ≤ M1 := by omega
    have hy1 : M1 ≤ 1048576 := by omega
    have Hm1 := Lib.hid hm1
    have e1' : (x.name.size : Int) ≤ left := by omega
    clear e1
    go_enter Tryz.func52, Tryz.ntmps52
    go_wp2_with fail
    (try rw [hm1])
    go_at_call 7
    refine (C_ty.out _ hx1 hy1 _ (HP_ty.out.below (below1 _ _))).mono ?_
    rintro e v2 ⟨rfl, hb2⟩
    have HB2 := Lib.hid (bnext (below1 _ _) hb2)
    clear hb2
    by_cases e2 : M1 - w_ty < 0
    · rw [leftOr_neg e2]
      go_wp2_with fail
      go_ret
      refine ⟨ret_int ?_, HB2.out⟩
      have := HW.out
      have := Hm1.out
      rw [← HRR.out, leftOr_neg (by omega)]
    · rw [leftOr_pos (by omega)]
      obtain ⟨M2, hm2⟩ : ∃ M, M1 - w_ty = M := ⟨_, rfl⟩
      rw [hm2]
      have hx2 : 0 ≤ M2 := by omega
      have hy2 : M2 ≤ 1048576 := by omega
      have Hm2 := Lib.hid hm2
      clear e2 hm2
      go_wp2_with fail
      go_ret
      refine ⟨ret_int ?_, HB2.out⟩
      have := HW.out
      have := Hm1.out
      have := Hm2.out
      rw [← HRR.out, leftOr_pos (by omega)]
      omega

/-- What copying leaves: the same in new memory. -/
def ToParamPost (x : Pm) (w : World) (e : Ending) (w' : World) : Prop := ∃ (Aty : Option Addr), ∃ (Bty : Option Addr), ∃ (cty : Nat), ∃ (dty : Nat), e = .returned (.agg #[.string x.name, .int .i64 x.ty.kind, .string x.ty.name, .slice Aty x.ty.labels.length cty, .slice Bty x.ty.kids.length dty]) ∧ Pm.At w' w.heap.size x Aty Bty ∧ Below w.heap.size w w'
set_option maxRecDepth 100000 in
theorem toParam_any (x : Pm) (hT : x.wt ≤ 1048576) (Aty : Option Addr) (Bty : Option Addr) (cty : Nat) (dty : Nat) (lo : Nat) (w : World) (h : Pm.At w lo x Aty Bty) :
    Calls Tryz.prog 54 #[.agg #[.string x.name, .int .i64 x.ty.kind, .string x.ty.name, .slice Aty x.ty.labels.length cty, .slice Bty x.ty.kids.length dty]] w (ToParamPost x w) := by
  obtain ⟨q_name, q_ty, _⟩ := Pm.parts_le hT
  have p_ty := h
  have HP_ty := Lib.hid p_ty
  have C_ty : Hid (∀ W : World, Ty.Ao W lo x.ty Aty Bty → Calls Tryz.prog 9 #[.agg #[.int .i64 x.ty.kind, .string x.ty.name, .slice Aty x.ty.labels.length cty, .slice Bty x.ty.kids.length dty]] W fun e w' => ∃ (Aty' : Option Addr), ∃ (Bty' : Option Addr), ∃ (cty' : Nat), ∃ (dty' : Nat), e = .returned (.agg #[.int .i64 x.ty.kind, .string x.ty.name, .slice Aty' x.ty.labels.length cty', .slice Bty' x.ty.kids.length dty']) ∧ Ty.Ao w' W.heap.size x.ty Aty' Bty' ∧ Below W.heap.size W w') := Lib.hid (fun W hW => toType_ax x.ty q_ty Aty Bty cty dty lo W hW)
  clear hT p_ty q_name q_ty
  go_enter Tryz.func54, Tryz.ntmps54
  go_wp2_with fail
  go_at_call 9
  refine (C_ty.out _ (HP_ty.out.below (by (repeat (with_reducible refine Below.setCell ?_ (by first | (simp; done) | (simp; omega)) _)); exact below3 _ _ _ _))).mono ?_
  rintro e v1 ⟨Atyz, Btyz, ctyz, dtyz, rfl, hp1, hb1⟩
  obtain ⟨hc1, hf1⟩ := bcell hb1
  have d1_0 := keepCell (a := ⟨w.heap.size + 1 + 1, 0, none⟩) (v := .string x.name) hb1 (by go_simp)
  have r1_0 := keepCell (a := ⟨w.heap.size + 1, 0, none⟩) (v := .string ⟨#[]⟩) hb1 (by go_simp)
  have d1_1 := keepCell (a := ⟨w.heap.size + 1 + 1, 1, none⟩) (v := .int .i64 0) hb1 (by go_simp)
  have r1_1 := keepCell (a := ⟨w.heap.size + 1, 1, none⟩) (v := .int .i64 0) hb1 (by go_simp)
  have d1_2 := keepCell (a := ⟨w.heap.size + 1 + 1, 2, none⟩) (v := .string ⟨#[]⟩) hb1 (by go_simp)
  have r1_2 := keepCell (a := ⟨w.heap.size + 1, 2, none⟩) (v := .string ⟨#[]⟩) hb1 (by go_simp)
  have d1_3 := keepCell (a := ⟨w.heap.size + 1 + 1, 3, none⟩) (v := .slice none 0 0) hb1 (by go_simp)
  have r1_3 := keepCell (a := ⟨w.heap.size + 1, 3, none⟩) (v := .slice none 0 0) hb1 (by go_simp)
  have d1_4 := keepCell (a := ⟨w.heap.size + 1 + 1, 4, none⟩) (v := .slice none 0 0) hb1 (by go_simp)
  have r1_4 := keepCell (a := ⟨w.heap.size + 1, 4, none⟩) (v := .slice none 0 0) hb1 (by go_simp)
  have HB1 : Hid (Below w.heap.size w v1) := Lib.hid (bnext (by (repeat (with_reducible refine Below.setCell ?_ (by first | (simp; done) | (simp; omega)) _)); exact below3 _ _ _ _) hb1)
  have HS1 := Lib.hid hb1
  have hz1 : w.heap.size + 1 + 1 < v1.heap.size := (by have h9 := hb1.size; simp at h9; omega)
  have g1 : ∀ o, v1.frozen? ⟨w.heap.size + 1, o, none⟩ = false := (fun o => (hf1 _ _ (by first | (simp; done) | (simp; omega))).trans (by go_simp))
  have h1 : ∀ o, v1.frozen? ⟨w.heap.size + 1 + 1, o, none⟩ = false := (fun o => (hf1 _ _ (by first | (simp; done) | (simp; omega))).trans (by go_simp))
  have P1 := Lib.hid (Ty.Ao.low (lo' := w.heap.size + 1 + 1 + 1) (by first | (simp; done) | (simp; omega)) hp1)
  clear hp1 hb1 hc1 hf1
  go_wp2_with fail
  have kk := sets_in ((((v1.setCell ⟨w.heap.size + 1 + 1, 1, none⟩ (.int .i64 x.ty.kind)).setCell ⟨w.heap.size + 1 + 1, 2, none⟩ (.string x.ty.name)).setCell ⟨w.heap.size + 1 + 1, 3, none⟩ (.slice Atyz x.ty.labels.length ctyz)).setCell ⟨w.heap.size + 1 + 1, 4, none⟩ (.slice Btyz x.ty.kids.length dtyz)) (w.heap.size + 1) [.string x.name, .int .i64 x.ty.kind, .string x.ty.name, .slice Atyz x.ty.labels.length ctyz, .slice Btyz x.ty.kids.length dtyz] (fun j hj => by
    have h4 : j = 0 ∨ j = 1 ∨ j = 2 ∨ j = 3 ∨ j = 4 := by simp at hj; omega
    rcases h4 with rfl | rfl | rfl | rfl | rfl <;> simp [World.cell?_setCell_other, r1_0, r1_1, r1_2, r1_3, r1_4])
  have k0 : (((((((((v1.setCell ⟨w.heap.size + 1 + 1, 1, none⟩ (.int .i64 x.ty.kind)).setCell ⟨w.heap.size + 1 + 1, 2, none⟩ (.string x.ty.name)).setCell ⟨w.heap.size + 1 + 1, 3, none⟩ (.slice Atyz x.ty.labels.length ctyz)).setCell ⟨w.heap.size + 1 + 1, 4, none⟩ (.slice Btyz x.ty.kids.length dtyz)).setCell ⟨w.heap.size + 1, 0, none⟩ (.string x.name)).setCell ⟨w.heap.size + 1, 1, none⟩ (.int .i64 x.ty.kind)).setCell ⟨w.heap.size + 1, 2, none⟩ (.string x.ty.name)).setCell ⟨w.heap.size + 1, 3, none⟩ (.slice Atyz x.ty.labels.length ctyz)).setCell ⟨w.heap.size + 1, 4, none⟩ (.slice Btyz x.ty.kids.length dtyz)).cell? ⟨w.heap.size + 1, 0, none⟩ = some (.string x.name) := kk 0 (by simp)
  have k1 : (((((((((v1.setCell ⟨w.heap.size + 1 + 1, 1, none⟩ (.int .i64 x.ty.kind)).setCell ⟨w.heap.size + 1 + 1, 2, none⟩ (.string x.ty.name)).setCell ⟨w.heap.size + 1 + 1, 3, none⟩ (.slice Atyz x.ty.labels.length ctyz)).setCell ⟨w.heap.size + 1 + 1, 4, none⟩ (.slice Btyz x.ty.kids.length dtyz)).setCell ⟨w.heap.size + 1, 0, none⟩ (.string x.name)).setCell ⟨w.heap.size + 1, 1, none⟩ (.int .i64 x.ty.kind)).setCell ⟨w.heap.size + 1, 2, none⟩ (.string x.ty.name)).setCell ⟨w.heap.size + 1, 3, none⟩ (.slice Atyz x.ty.labels.length ctyz)).setCell ⟨w.heap.size + 1, 4, none⟩ (.slice Btyz x.ty.kids.length dtyz)).cell? ⟨w.heap.size + 1, 1, none⟩ = some (.int .i64 x.ty.kind) := kk 1 (by simp)
  have k2 : (((((((((v1.setCell ⟨w.heap.size + 1 + 1, 1, none⟩ (.int .i64 x.ty.kind)).setCell ⟨w.heap.size + 1 + 1, 2, none⟩ (.string x.ty.name)).setCell ⟨w.heap.size + 1 + 1, 3, none⟩ (.slice Atyz x.ty.labels.length ctyz)).setCell ⟨w.heap.size + 1 + 1, 4, none⟩ (.slice Btyz x.ty.kids.length dtyz)).setCell ⟨w.heap.size + 1, 0, none⟩ (.string x.name)).setCell ⟨w.heap.size + 1, 1, none⟩ (.int .i64 x.ty.kind)).setCell ⟨w.heap.size + 1, 2, none⟩ (.string x.ty.name)).setCell ⟨w.heap.size + 1, 3, none⟩ (.slice Atyz x.ty.labels.length ctyz)).setCell ⟨w.heap.size + 1, 4, none⟩ (.slice Btyz x.ty.kids.length dtyz)).cell? ⟨w.heap.size + 1, 2, none⟩ = some (.string x.ty.name) := kk 2 (by simp)
  have k3 : (((((((((v1.setCell ⟨w.heap.size + 1 + 1, 1, none⟩ (.int .i64 x.ty.kind)).setCell ⟨w.heap.size + 1 + 1, 2, none⟩ (.string x.ty.name)).setCell ⟨w.heap.size + 1 + 1, 3, none⟩ (.slice Atyz x.ty.labels.length ctyz)).setCell ⟨w.heap.size + 1 + 1, 4, none⟩ (.slice Btyz x.ty.kids.length dtyz)).setCell ⟨w.heap.size + 1, 0, none⟩ (.string x.name)).setCell ⟨w.heap.size + 1, 1, none⟩ (.int .i64 x.ty.kind)).setCell ⟨w.heap.size + 1, 2, none⟩ (.string x.ty.name)).setCell ⟨w.heap.size + 1, 3, none⟩ (.slice Atyz x.ty.labels.length ctyz)).setCell ⟨w.heap.size + 1, 4, none⟩ (.slice Btyz x.ty.kids.length dtyz)).cell? ⟨w.heap.size + 1, 3, none⟩ = some (.slice Atyz x.ty.labels.length ctyz) := kk 3 (by simp)
  have k4 : (((((((((v1.setCell ⟨w.heap.size + 1 + 1, 1, none⟩ (.int .i64 x.ty.kind)).setCell ⟨w.heap.size + 1 + 1, 2, none⟩ (.string x.ty.name)).setCell ⟨w.heap.size + 1 + 1, 3, none⟩ (.slice Atyz x.ty.labels.length ctyz)).setCell ⟨w.heap.size + 1 + 1, 4, none⟩ (.slice Btyz x.ty.kids.length dtyz)).setCell ⟨w.heap.size + 1, 0, none⟩ (.string x.name)).setCell ⟨w.heap.size + 1, 1, none⟩ (.int .i64 x.ty.kind)).setCell ⟨w.heap.size + 1, 2, none⟩ (.string x.ty.name)).setCell ⟨w.heap.size + 1, 3, none⟩ (.slice Atyz x.ty.labels.length ctyz)).setCell ⟨w.heap.size + 1, 4, none⟩ (.slice Btyz x.ty.kids.length dtyz)).cell? ⟨w.heap.size + 1, 4, none⟩ = some (.slice Btyz x.ty.kids.length dtyz) := kk 4 (by simp)
  clear kk
  refine bodyPost_ret (v := .agg #[.string x.name, .int .i64 x.ty.kind, .string x.ty.name, .slice Atyz x.ty.labels.length ctyz, .slice Btyz x.ty.kids.length dtyz]) (by simp [results, Tryz.results54, go_sem, k0, k1, k2, k3, k4]) rfl ?_
  refine ⟨_, _, _, _, rfl, ?_, ?_⟩
  · refine Ty.Ao.low (lo := w.heap.size + 1 + 1 + 1) (by omega) ?_
    (repeat (with_reducible refine Ty.Ao.keep (KeptFrom.setCell (by first | (simp; done) | (simp; omega)) _) ?_))
    exact P1.out
  · (repeat (with_reducible refine Below.setCell ?_ (by first | (simp; done) | (simp; omega)) _))
    exact HB1.out

theorem eqParam_any (x : Pm) (hT : x.wt ≤ 1048576) (Aty : Option Addr) (Bty : Option Addr) (cty : Nat) (dty : Nat) (Aty' : Option Addr) (Bty' : Option Addr) (cty' : Nat) (dty' : Nat) (lo lo' : Nat) (w : World) (h : Pm.At w lo x Aty Bty) (h' : Pm.At w lo' x Aty' Bty') :
    Calls Tryz.prog 58 #[.agg #[.string x.name, .int .i64 x.ty.kind, .string x.ty.name, .slice Aty x.ty.labels.length cty, .slice Bty x.ty.kids.length dty], .agg #[.string x.name, .int .i64 x.ty.kind, .string x.ty.name, .slice Aty' x.ty.labels.length cty', .slice Bty' x.ty.kids.length dty']] w fun e w' => e = .returned (.bool true) ∧ Below w.heap.size w w' := by
  obtain ⟨q_name, q_ty, _⟩ := Pm.parts_le hT
  have p_ty := h
  have pp_ty := h'
  have HP_ty := Lib.hid p_ty
  have HQ_ty := Lib.hid pp_ty
  have C_ty : Hid (∀ W : World, Ty.Ao W lo x.ty Aty Bty → Ty.Ao W lo' x.ty Aty' Bty' → Calls Tryz.prog 11 #[.agg #[.int .i64 x.ty.kind, .string x.ty.name, .slice Aty x.ty.labels.length cty, .slice Bty x.ty.kids.length dty], .agg #[.int .i64 x.ty.kind, .string x.ty.name, .slice Aty' x.ty.labels.length cty', .slice Bty' x.ty.kids.length dty']] W fun e w' => e = .returned (.bool true) ∧ Below W.heap.size W w') := Lib.hid (fun W h1 h2 => eqType_any x.ty q_ty Aty Bty Aty' Bty' cty dty cty' dty' lo lo' W h1.1 h2.1)
  clear hT p_ty pp_ty q_name q_ty
  go_enter Tryz.func58, Tryz.ntmps58
  go_wp2_with fail
  go_at_call 11
  refine (C_ty.out _ (HP_ty.out.below (below2 _ _ _)) (HQ_ty.out.below (below2 _ _ _))).mono ?_
  rintro e v1 ⟨rfl, hb1⟩
  have HB1 := Lib.hid (bnext (below2 _ _ _) hb1)
  clear hb1
  go_wp2_with fail
  go_ret
  exact ⟨rfl, HB1.out⟩
end Go.Proofs.YtifchfecfkdjlaaGreatDoor

