/-
  The program's iterator of flat kinds, the kinds of each type being known.
-/
import Derived.Test.YtlmmbheamicdaabSeqS
namespace Go.Proofs.Ytlmmbheamicdaab
open Go.ChangeShapes Go.WideShapes Go.ChangeAt Go.RowKit Go.Deep Go.Shelf

attribute [local go_sem] Oper.semAt_some

/-- The box that is appended to holds a row that lies behind it. -/
def InvS (B : Nat) (W : World) : Prop := ∃ v, Boxed W B 41 v ∧ ∀ b, v.ownBlock = some b → B < b ∧ b < W.heap.size
theorem InvS.below {B : Nat} {W W' : World} (h : InvS B W) (hb : Below W.heap.size W W') : InvS B W' := by
  obtain ⟨v, h1, h2⟩ := h
  exact ⟨v, (hb.block B h1.lt).trans h1, fun b he => ⟨(h2 b he).1, Nat.lt_of_lt_of_le (h2 b he).2 hb.size⟩⟩
theorem InvS.kp {B : Nat} {W W' : World} (h : InvS B W) (hk : KpS B W W') : InvS B W' := by
  obtain ⟨v, h1, h2⟩ := h
  obtain ⟨v', h3, h4, h5, _⟩ := hk.keep v h1 (fun b he => (h2 b he).2)
  refine ⟨v', h3, fun b he => ⟨?_, h5 b he⟩⟩
  rcases h4 with e | e
  · exact (h2 b (e ▸ he)).1
  · exact Nat.lt_of_lt_of_le h1.lt (e b he)
/-- A row that lies beyond what the box holds stays in a round. -/
theorem OwnF.kp {B base : Nat} {W W' : World} {xs : List Int} {R : Option Addr} {n c : Nat} (ho : OwnF W base xs R n c) (hb : B < base) (hi : ∃ v, Boxed W B 41 v ∧ (∀ b, v.ownBlock = some b → b < W.heap.size) ∧ ∀ b, v.ownBlock = some b → ∀ g, (Value.slice R n c).ownBlock = some g → b ≠ g) (hk : KpS B W W') : OwnF W' base xs R n c := by
  obtain ⟨v, h1, h2, h3⟩ := hi
  obtain ⟨_, _, _, _, h4⟩ := hk.keep v h1 h2
  obtain ⟨hl, h5, h6⟩ := ho
  refine ⟨hl, h5, ?_⟩
  rcases h6 with h6 | ⟨g, cap, cur, hv, hg, hgb, r⟩
  · exact Or.inl h6
  · refine Or.inr ⟨g, cap, cur, hv, hg, h4 g _ (by omega) (fun he => ?_) hgb rfl, r⟩
    exact h3 g he g (by rw [hv]; rfl) rfl
/-- The same, and the row is not the one that s is in. -/
def InvG (B : Nat) (s : Value) (W : World) : Prop := ∃ v, Boxed W B 41 v ∧ ∀ b, v.ownBlock = some b → B < b ∧ b < W.heap.size ∧ s.ownBlock ≠ some b
theorem InvG.kp {B : Nat} {s : Value} {W W' : World} (h : InvG B s W) (hs : ∀ b, s.ownBlock = some b → b < W.heap.size) (hk : KpS B W W') : InvG B s W' := by
  obtain ⟨v, h1, h2⟩ := h
  obtain ⟨v', h3, h4, h5, _⟩ := hk.keep v h1 (fun b he => (h2 b he).2.1)
  refine ⟨v', h3, fun b he => ?_⟩
  rcases h4 with e | e
  · exact ⟨(h2 b (e ▸ he)).1, h5 b he, (h2 b (e ▸ he)).2.2⟩
  · refine ⟨Nat.lt_of_lt_of_le h1.lt (e b he), h5 b he, fun hb => ?_⟩
    have h6 := hs b hb
    have h7 := e b he
    omega
theorem InvG.of {B : Nat} {W W' : World} {base : Nat} {xs : List Int} {R : Option Addr} {n c : Nat} (h : InvS B W) (hb : Below W.heap.size W W') (ho : OwnF W' base xs R n c) (hbase : W.heap.size ≤ base) : InvG B (.slice R n c) W' := by
  obtain ⟨v, h1, h2⟩ := h
  refine ⟨v, (hb.block B h1.lt).trans h1, fun b he => ⟨(h2 b he).1, Nat.lt_of_lt_of_le (h2 b he).2 hb.size, fun hs => ?_⟩⟩
  have h3 := (ho.2.lt b hs).1
  have h4 := (h2 b he).2
  omega
theorem InvG.invS {B : Nat} {s : Value} {W : World} (h : InvG B s W) : InvS B W := by
  obtain ⟨v, h1, h2⟩ := h
  exact ⟨v, h1, fun b he => ⟨(h2 b he).1, (h2 b he).2.1⟩⟩
theorem InvG.own {B base : Nat} {W W' : World} {xs : List Int} {R : Option Addr} {n c : Nat} (h : InvG B (.slice R n c) W) (ho : OwnF W base xs R n c) (hb : B < base) (hk : KpS B W W') : OwnF W' base xs R n c := by
  obtain ⟨v, h1, h2⟩ := h
  exact ho.kp hb ⟨v, h1, fun b he => (h2 b he).2.1, fun b he g hg e => (h2 b he).2.2 (e ▸ hg)⟩ hk

set_option maxRecDepth 100000 in
set_option maxHeartbeats 4000000 in
theorem flatIter (n : Nat) (hn : 2 ≤ n) (ks : List Ty) (lo : Nat) (KI : ∀ (i : Nat) (t : Ty), ks[i]? = some t → ∀ (A B : Option Addr) (ca cb : Nat) (w : World), Ty.At w lo t A B → Calls Try.prog 53 #[.agg #[.int .i64 t.kind, .string t.name, .slice A t.labels.length ca, .slice B t.kids.length cb]] w (FlatPost t.flat w)) (h60 : ∀ (i : Nat) (t : Ty), ks[i]? = some t → t.flat.length ≤ 60) (hl : ks.length ≤ 1000) (R : Option Addr) (cb Bx : Nat) (w0 : World) (hBx : w0.cell? ⟨Bx, 0, none⟩ = some (.slice R ks.length cb)) (hrow : Ty.RowAt w0 lo ks R) :
    SeqStopsK Fence.wide n Try.prog 52 #[.pointer (some ⟨Bx, 0, none⟩)] enc6 (KpS w0.heap.size) (fun ys => ys = Ty.flats ks) (fun _ => True) (Ty.flats ks).length (w0.alloc (.cells #[.slice none 0 0] 41)) := by
  intro l J Jx W hW hJ _ hY h0
  have hb0 : Below w0.heap.size w0 W := ((Below.refl _ w0).alloc (Nat.le_refl _) _).trans (hW.mono (by simp))
  have hi0 : InvS w0.heap.size W := ⟨.slice none 0 0, (hW.block _ (by simp)).trans (World.alloc_heap_new w0 _), fun b he => by cases he⟩
  have hc0 := hb0.cell (p := ⟨Bx, 0, none⟩) (World.block_lt_of_cell? w0 _ hBx)
  rw [hBx] at hc0
  obtain ⟨F, hF⟩ : ∃ F, Ty.flats ks = F := ⟨_, rfl⟩
  rw [hF] at hY ⊢
  refine callsIn_of_wp Try.func52 rfl trivial ?_ rfl
  simp only [Try.ntmps52, List.size_toArray, List.length_cons, List.length_nil, Nat.reduceAdd, Nat.reduceSub, Array.replicate_succ, Array.replicate_zero, List.push_toArray, List.append_toArray, List.nil_append, List.cons_append]
  gi_wp2
  gi_loopw [9] (fun i wr => ∃ (k : Nat) (pre : List Int), k ≤ ks.length ∧ i = .int .i64 k ∧ Hid (pre ++ Ty.flats (ks.drop k) = F) ∧ Hid (J pre wr) ∧ Hid (InvS w0.heap.size wr) ∧ Hid (Below w0.heap.size w0 wr) ∧ W.heap.size ≤ wr.heap.size) (fun i _ => ks.length - (intOf i).toNat)
  case atStart => exact ⟨0, [], Nat.zero_le _, rfl, Lib.hid (by rw [List.drop_zero, List.nil_append]; exact hF), h0, hi0, hb0, Nat.le_refl _⟩
  case round =>
    obtain ⟨k, pre, hk, rfl, HF, HJ, HI, HB, hsz⟩ := hrel
    by_cases hlt : k < ks.length
    · have hli : (k : Int) < (ks.length : Int) := by omega
      obtain ⟨b, o, t, A', B', ca', cb', rfl, _, htk, hc⟩ := (hrow.below HB.out).at_ hlt
      have C := Lib.hid (fun W h => callsIn_wide (n := n - 1).2 (KI k t htk A' B' ca' cb' W h))
      have hd : ks.drop k = t :: ks.drop (k + 1) := by
        rw [List.drop_eq_getElem_cons hlt]
        congr 1
        rw [List.getElem?_eq_getElem hlt] at htk
        exact Option.some.inj htk
      have hf1 := HF.out
      rw [hd, Ty.flats_cons] at hf1
      have HTR := Lib.hid hc.tree
      obtain ⟨c0, c1, c2, c3, _⟩ := hc
      obtain ⟨Q, hQ⟩ : ∃ Q, t.flat = Q := ⟨_, rfl⟩
      have hq60 := h60 k t htk
      rw [hQ] at hf1 C hq60
      have HF1 := Lib.hid hf1
      clear htk hd hf1 HF
      gi_wp2
      refine ⟨trivial, fun _ => by omega, ?_⟩
      refine (C.out _ (HTR.out.below (below1 _ _))).mono ?_
      rintro e W2 ⟨R2, n2, c2', rfl, ho2, hb2⟩
      have hbw : Below wr.heap.size wr W2 := next6 (below1 _ _) hb2
      have HJ2 : Hid (J pre W2) := Lib.hid (hJ pre wr W2 none HJ.out (grown_of_below hbw) (fun r e => by cases e))
      have HG2 := Lib.hid (InvG.of HI.out hbw ho2 (below1 wr _).size)
      have HB2 := Lib.hid (next6 HB.out hbw)
      have hbase : w0.heap.size < wr.heap.size + 1 := by have := HB.out.size; omega
      obtain ⟨base, hbs⟩ : ∃ base, (wr.alloc (.cells #[.int .i64 t.kind, .string t.name, .slice A' t.labels.length ca', .slice B' t.kids.length cb'] 30)).heap.size = base := ⟨_, rfl⟩
      rw [hbs] at ho2
      rw [World.size_alloc] at hbs
      have HO2 := Lib.hid ho2
      have hz2 := hbw.size
      obtain ⟨rfl, _⟩ := ho2.row
      clear hbw hb2 ho2 HJ HI HB
      gi_wp2
      gi_loopw [16] (fun i wr => ∃ j : Nat, j ≤ Q.length ∧ i = .int .i64 j ∧ Hid (J (pre ++ Q.take j) wr) ∧ Hid (InvG w0.heap.size (.slice R2 Q.length c2') wr) ∧ Hid (OwnF wr base Q R2 Q.length c2') ∧ Hid (Below w0.heap.size w0 wr) ∧ W.heap.size ≤ wr.heap.size) (fun i _ => Q.length - (intOf i).toNat)
      case atStart => exact ⟨0, Nat.zero_le _, rfl, Lib.hid (by rw [List.take_zero, List.append_nil]; exact HJ2.out), HG2.out, HO2.out, HB2.out, by omega⟩
      case round =>
        obtain ⟨j, hj, rfl, HJ3, HG3, HO3, HB3, hsz3⟩ := hrel
        by_cases hlj : j < Q.length
        · have hlji : (j : Int) < (Q.length : Int) := by omega
          obtain ⟨b3, o3, x, rfl, hx, hcx⟩ := HO3.out.row.2.at_ hlj
          have hlen : (pre ++ Q.take j).length < F.length := by
            rw [← HF1.out, List.length_append, List.length_append, List.length_append, List.length_take]
            omega
          obtain ⟨fn, tmps, assign, body, hy, hR⟩ := hY (pre ++ Q.take j) x wr HJ3.out hlen
          unfold enc6 at hy
          have HT : Hid (pre ++ Q.take j ++ [x] = pre ++ Q.take (j + 1)) := Lib.hid (by rw [List.append_assoc, take_step hx])
          gi_wp2
          refine ⟨fun _ => by omega, hR.mono ?_⟩
          rintro e W4 (⟨rfl, hJ4, hk4⟩ | ⟨rfl, hJx4⟩)
          · have HJ4 : Hid (J (pre ++ Q.take (j + 1)) W4) := Lib.hid (by rw [← HT.out]; exact hJ4)
            have HG4 := Lib.hid (HG3.out.kp (fun b hb => (HO3.out.2.lt b hb).2) hk4)
            have HO4 := Lib.hid (HG3.out.own HO3.out (by omega) hk4)
            have HB4 := Lib.hid (HB3.out.trans hk4.bel)
            have hsz4 := hk4.size
            clear hk4 hJ4
            gi_wp2
            go_roundw
            case rel => exact ⟨j + 1, by omega, by go_num, HJ4, HG4, HO4, HB4, by omega⟩
            case measure => simp [intOf]; omega
          · gi_wp2
            refine bodyPost_ret (results_none rfl _ _ _) rfl ?_
            exact ⟨⟨_, rfl⟩, .inr ⟨_, trivial, hJx4⟩⟩
        · have hlji : ¬ (j : Int) < (Q.length : Int) := by omega
          obtain rfl : j = Q.length := by omega
          have HJ4 : Hid (J (pre ++ Q) wr) := Lib.hid (by have := HJ3.out; rwa [List.take_length] at this)
          gi_wp2
          go_roundw
          case rel => exact ⟨k + 1, pre ++ Q, by omega, by go_num, Lib.hid (by rw [List.append_assoc]; exact HF1.out), HJ4, Lib.hid HG3.out.invS, HB3, hsz3⟩
          case measure => simp [intOf]; omega
    · have hk' : k = ks.length := by omega
      have hli : ¬ (k : Int) < (ks.length : Int) := by omega
      have hp : pre = F := by
        have h1 := HF.out
        rw [hk', List.drop_length, Ty.flats_nil, List.append_nil] at h1
        exact h1
      gi_wp2
      go_end0
      exact ⟨⟨_, rfl⟩, .inl (hp ▸ HJ.out)⟩
end Go.Proofs.Ytlmmbheamicdaab
