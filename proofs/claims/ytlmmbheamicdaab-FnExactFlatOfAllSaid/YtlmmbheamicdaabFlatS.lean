/-
  The walks of the model's l12All and l12Flat.
-/
import Derived.Test.YtlmmbheamicdaabFlatP
import Derived.Test.YtlmmbheamicdaabJoinS0
import Derived.Test.YtlmmbheamicdaabAppEx
import Derived.Laws.OwnMore
namespace Go.Proofs.Ytlmmbheamicdaab
open Go.ChangeShapes Go.WideShapes Go.ChangeAt Go.RowKit Go.Deep

/-- Numbers in a row of one's own, with its form. -/
def OwnF (W : World) (base : Nat) (xs : List Int) (R : Option Addr) (n c : Nat) : Prop := xs.length = n ∧ W.ownsRow base 2 1 (.slice R n c) n (xs.map num6)
theorem OwnF.keep {w w' : World} {base : Nat} {xs : List Int} {R : Option Addr} {n c : Nat} (h : OwnF w base xs R n c) (hb : Below w.heap.size w w') : OwnF w' base xs R n c := ⟨h.1, keep6 h.2 hb⟩
/-- What a type's kinds are answered as. -/
def FlatPost (P : List Int) (w : World) (e : Ending) (w' : World) : Prop := ∃ (R : Option Addr) (n c : Nat), e = .returned (.slice R n c) ∧ OwnF w' w.heap.size P R n c ∧ Below w.heap.size w w'
theorem OwnF.row {w : World} {base : Nat} {xs : List Int} {R : Option Addr} {n c : Nat} (h : OwnF w base xs R n c) : n = xs.length ∧ Row6 w xs R := by
  obtain ⟨rfl, h2⟩ := h
  obtain ⟨g, _, _, h3⟩ := Own6.of_own h2
  exact ⟨rfl, h3.row⟩
theorem OwnF.lit {base : Nat} (w : World) (hb : base ≤ w.heap.size) (xs : List Int) (h : xs.length ≤ 60) : OwnF (w.alloc (.cells (xs.map num6).toArray 2)) base xs (some ⟨w.heap.size, 0, none⟩) xs.length xs.length :=
  ⟨rfl, by
    have h1 := World.ownsRow_lit (base := base) (e := 2) (size := 1) w (xs.map num6).toArray xs.length hb (by unfold maxLen; omega) (by simp)
    simpa using h1⟩
theorem OwnF.down {w : World} {base b2 : Nat} {xs : List Int} {R : Option Addr} {n c : Nat} (h : OwnF w base xs R n c) (hb : b2 ≤ base) : OwnF w b2 xs R n c := by
  obtain ⟨h0, h1, h2⟩ := h
  refine ⟨h0, h1, ?_⟩
  rcases h2 with h2 | ⟨g, cap, cur, hv, hg, r⟩
  · exact Or.inl h2
  · exact Or.inr ⟨g, cap, cur, hv, Nat.le_trans hb hg, r⟩
theorem app0 {w : World} {base : Nat} {v : Value} {n : Nat} {xs : List Value} (hown : w.ownsRow base 2 1 v n xs) (ca : Nat) (ty : TypeId) : (Builtin.append_ #[41, 41] ty #[v, .slice none 0 ca]).run Try.prog w = .ok v w := by
  obtain ⟨i0, hi, hz0, hz1, hz2⟩ := info_parts infoI64
  have ht := Try.underlying41
  rcases hown.2 with ⟨rfl, rfl⟩ | ⟨g, cap, cur, rfl, _, _, hnc, _⟩
  · simp [Builtin.append_, run_underlying ht, sizeOf, typeInfo, hi, Builtin.lenOf, Builtin.firstCells]
  · simp [Builtin.append_, run_underlying ht, sizeOf, typeInfo, hi, Builtin.lenOf, Builtin.firstCells, hnc, storeCells]
/-- One row behind another. -/
theorem app6 {w : World} {base : Nat} {xs ys : List Int} {R R2 : Option Addr} {n c c2 : Nat} (h : OwnF w base xs R n c) (h2 : Row6 w ys R2) (hb : base ≤ w.heap.size) (hn : n + ys.length ≤ 1048576) (ty : TypeId) :
    ∃ v' w', (Builtin.append_ #[41, 41] ty #[.slice R n c, .slice R2 ys.length c2]).run Try.prog w = .ok v' w' ∧ ∃ (R' : Option Addr) (c' : Nat), v' = .slice R' (n + ys.length) c' ∧ OwnF w' base (xs ++ ys) R' (n + ys.length) c' ∧ w.grownBy w' (Value.slice R n c).ownBlock := by
  obtain ⟨i0, hi, hz0, hz1, hz2⟩ := info_parts infoI64
  obtain ⟨hl, ho⟩ := h
  have main : ∀ a : Addr, (∀ j u, (ys.map num6)[j]? = some u → w.cell? (a.add j) = some u) → ∃ v' w', (Builtin.append_ #[41, 41] ty #[.slice R n c, .slice (some a) ys.length c2]).run Try.prog w = .ok v' w' ∧ ∃ (R' : Option Addr) (c' : Nat), v' = .slice R' (n + ys.length) c' ∧ OwnF w' base (xs ++ ys) R' (n + ys.length) c' ∧ w.grownBy w' (Value.slice R n c).ownBlock := fun a ha => by
    obtain ⟨v', w', hr, ho', hg, _⟩ := run_append_own (P := Try.prog) w base 41 ty 2 i0 (.int .i64 0) 1 8 Try.underlying41 hi hz0 hz1 hz2 rfl (by decide) (.slice R n c) n (xs.map num6) ho a ys.length c2 (ys.map num6) (by simp) ha (fun u hu => by
      obtain ⟨x, _, rfl⟩ := List.mem_map.1 hu
      rfl) (by unfold maxLen; omega) (by omega) hb
    obtain ⟨R', c', rfl⟩ := formF ho'
    exact ⟨_, w', hr, R', c', rfl, ⟨by rw [List.length_append, hl], by rw [List.map_append]; exact ho'⟩, hg⟩
  cases ys with
  | nil =>
    cases R2 with
    | none => exact ⟨_, w, app0 ho c2 ty, R, c, rfl, ⟨by simpa using hl, by simpa using ho⟩, ⟨rfl, rfl, rfl, Nat.le_refl _, fun _ _ _ => rfl⟩⟩
    | some a => exact main a (fun j u hu => by simp at hu)
  | cons y ys =>
    obtain ⟨b, o, rfl, hc⟩ := h2 (by simp)
    refine main ⟨b, o, none⟩ (fun j u hu => ?_)
    rw [List.getElem?_map] at hu
    cases hj : (y :: ys)[j]? with
    | none =>
      rw [hj] at hu
      cases hu
    | some x =>
      rw [hj] at hu
      obtain rfl : num6 x = u := Option.some.inj hu
      have hadd : (⟨b, o, none⟩ : Addr).add j = ⟨b, o + j, none⟩ := by unfold Addr.add; split <;> simp_all
      rw [hadd]
      exact hc j x hj
/-- The model's contract of one type. -/
def FlatS (lo : Nat) (T : Ty) : Prop := ∀ (A B : Option Addr) (ca cb : Nat) (w : World), Ty.At w lo T A B →
  Calls Try.prog 41 #[.agg #[.int .i64 T.kind, .string T.name, .slice A T.labels.length ca, .slice B T.kids.length cb]] w (FlatPost T.flat w)

set_option maxHeartbeats 2000000 in
set_option maxRecDepth 100000 in
theorem l12All_any (ks : List Ty) (lo : Nat) (IH : ∀ (i : Nat) (t : Ty), ks[i]? = some t → FlatS lo t) (hok : ∀ (i : Nat) (t : Ty), ks[i]? = some t → t.flat.length ≤ 60) (hl : ks.length ≤ 1000) (B : Option Addr) (cb : Nat) (w : World) (h : Ty.RowAt w lo ks B) :
    Calls Try.prog 40 #[.slice B ks.length cb] w (FlatPost (Ty.flats ks) w) := by
  have H := Lib.hid h
  have HI := Lib.hid IH
  have HK := Lib.hid hok
  clear h IH hok
  go_enter Try.func40, Try.ntmps40
  go_wp2_with fail
  go_loopw [3, 4] (fun v i wr => ∃ k : Nat, k ≤ ks.length ∧ i = .int .i64 k ∧ (∃ (R : Option Addr) (n c : Nat) (xs : List Int), v = .slice R n c ∧ n ≤ 60 * k ∧ Hid (OwnF wr w.heap.size xs R n c) ∧ Hid (Ty.flats ks = xs ++ Ty.flats (ks.drop k))) ∧ Hid (Below w.heap.size w wr)) (fun _ i _ => ks.length - (intOf i).toNat)
  case atStart => exact ⟨0, Nat.zero_le _, rfl, ⟨some ⟨w.heap.size, 0, none⟩, 0, 0, [], rfl, Nat.zero_le _, ⟨rfl, rfl, Or.inr ⟨w.heap.size, 0, #[], rfl, Nat.le_refl _, by show (w.heap.push _)[w.heap.size]? = _; simp, Nat.le_refl _, by unfold maxLen; omega, rfl, rfl⟩⟩, Lib.hid (by rw [List.drop_zero, List.nil_append])⟩, below1 _ _⟩
  case round =>
    obtain ⟨k, hk, rfl, ⟨R, n, c, xs, rfl, hn, HO, HF⟩, HB⟩ := hrel
    by_cases hlt : k < ks.length
    · obtain ⟨b, o, t, A', B', ca', cb', rfl, _, htk, hc⟩ := (H.out.below HB.out).at_ hlt
      have C := Lib.hid (HI.out k t htk A' B' ca' cb')
      have h60 := HK.out k t htk
      have hlti : (k : Int) < (ks.length : Int) := by omega
      have hd : ks.drop k = t :: ks.drop (k + 1) := by
        rw [List.drop_eq_getElem_cons hlt]
        congr 1
        rw [List.getElem?_eq_getElem hlt] at htk
        exact Option.some.inj htk
      have HF2 : Hid (Ty.flats ks = (xs ++ t.flat) ++ Ty.flats (ks.drop (k + 1))) := Lib.hid (by rw [HF.out, hd, Ty.flats_cons, List.append_assoc])
      have HTR := Lib.hid hc.tree
      obtain ⟨c0, c1, c2, c3, _⟩ := hc
      clear htk hd HF
      generalize t.flat = P at *
      go_wp2_with fail
      go_at_call 41
      refine (C.out _ HTR.out).mono ?_
      rintro e w2 ⟨R2, n2, c2', rfl, ho2, hb2⟩
      have HB2 := Lib.hid (next6 HB.out hb2)
      obtain ⟨rfl, hr2⟩ := ho2.row
      have HA := Lib.hid (fun ty => app6 (c2 := c2') (HO.out.keep hb2) hr2 HB2.out.size (by omega) ty)
      have HOG := Lib.hid (HO.out.keep hb2)
      clear hb2 ho2 hr2 C c0 c1 c2 c3 HO HB
      go_wp2_with (at_builtin; refine wpList_append_ex _ rfl _ _ 41 rfl (.slice R n c) (.slice R2 P.length c2') rfl rfl HA.out ?_; rintro v' w3 ⟨R3, c3', rfl, ho3, hg3⟩; have HO3 := Lib.hid ho3; have HB3 : Hid (Below w.heap.size w w3) := Lib.hid (HB2.out.grown hg3 HB2.out.size (fun g hg => (HOG.out.2.lt g hg).1)); clear ho3 hg3)
      go_roundw
      case rel => exact ⟨k + 1, by omega, by go_num, ⟨R3, n + P.length, c3', xs ++ P, rfl, by omega, HO3, HF2⟩, HB3⟩
      case measure => simp [intOf]; omega
    · have hk' : k = ks.length := by omega
      have hli : ¬ (ks.length : Int) < (ks.length : Int) := by omega
      have hx : Ty.flats ks = xs := by
        have h1 := HF.out
        rw [hk', List.drop_length, Ty.flats_nil, List.append_nil] at h1
        exact h1
      subst hk'
      have HX := Lib.hid hx
      clear hx HF
      go_wp2_with fail
      go_ret
      exact ⟨R, n, c, rfl, by rw [HX.out]; exact HO.out, HB.out⟩
end Go.Proofs.Ytlmmbheamicdaab
