/-
  The walks of the model's l03PutText, l03Resources and ResourcesOf.
-/
import Derived.Test.YtlmmbheamicdaaaResPure
import Derived.Test.YtlmmbheamicdaaaTyAdd
import Derived.Sort.WalkB12
import Derived.Sort.EncStr
import Derived.Laws.Cover1
namespace Go.Proofs.Ytlmmbheamicdaaa
open Go.ChangeShapes Go.WideShapes Go.ChangeAt Go.RowKit Go.Deep

/-- A list of bytes, as a string. -/
def tb (l : Tx) : ByteArray := ⟨l.toArray⟩
theorem tb_list (l : Tx) : (tb l).data.toList = l := rfl
theorem tb_of (s : ByteArray) : tb s.data.toList = s := rfl
theorem tb_size (l : Tx) : (tb l).size = l.length := rfl
theorem tb_inj {a b : Tx} (h : tb a = tb b) : a = b := by rw [← tb_list a, h, tb_list]
theorem less_tx (a b : Tx) : Op.bytesLess (tb a).toList (tb b).toList = decide (a < b) := by
  rw [bytesLess_eq, Lib.toList_data, Lib.toList_data]
  rfl
theorem beq_tx {a b : Tx} (h : ¬ a = b) : ((tb a).toList == (tb b).toList) = false := by
  rw [beq_eq_false_iff_ne, Lib.toList_data, Lib.toList_data]
  exact h
theorem infoStr16 : (Try.prog.info? 9).map (fun i => (i.zero, i.size, i.bytes)) = some (some (.string ⟨#[]⟩), 1, 16) := by kernel_rfl
def strV (l : Tx) : Value := .string (tb l)

/-- What is still to be written. -/
def finP (d : Bool) (rest : List Tx) (s : Tx) : List Tx := if d then rest else putR rest s

/-- A row of one's own, as strings in memory. -/
theorem own_strs {w : World} {base n cap : Nat} {R : Option Addr} {L : List Tx} (h : w.ownsRow base 9 1 (.slice R n cap) n (L.map strV)) : Strs w base (L.map tb) R ∧ L.length = n := by
  have hl : L.length = n := by
    have := h.1
    simpa using this
  refine ⟨fun hp => ?_, hl⟩
  rcases h.2 with ⟨e, e2⟩ | ⟨g, cap', cur, e, hg, hb, h1, h2, h3, h4⟩
  · rw [List.length_map] at hp
    omega
  · injection e with e1 e2 e3
    subst e1
    refine ⟨g, 0, rfl, hg, fun i s hs => ?_⟩
    rw [Nat.zero_add, Nat.mul_one] at *
    rw [List.getElem?_map] at hs
    obtain ⟨l, hl1, rfl⟩ := Option.map_eq_some_iff.1 hs
    have hi : i < n := by rw [← hl]; exact (List.getElem?_eq_some_iff.1 hl1).1
    have hci : cur.toList[i]? = some (strV l) := by
      have h5 := congrArg (fun z => z[i]?) h4
      simp only [List.getElem?_take, if_pos hi, List.getElem?_map, hl1, Option.map_some] at h5
      exact h5
    simp only [World.cell?, hb]
    rw [Array.getElem?_toList] at hci
    exact hci

set_option maxHeartbeats 4000000 in
set_option maxRecDepth 100000 in
theorem putText_any (L : List Tx) (s : Tx) (hL : L.length ≤ 1000) (A : Option Addr) (ca lo : Nat) (w : World) (h : Strs w lo (L.map tb) A) :
    Calls Try.prog 81 #[.slice A L.length ca, .string (tb s)] w fun e w' => ∃ (R : Option Addr) (cap : Nat), e = .returned (.slice R (putR L s).length cap) ∧ w'.ownsRow w.heap.size 9 1 (.slice R (putR L s).length cap) (putR L s).length ((putR L s).map strV) ∧ Below w.heap.size w w' := by
  have H := Lib.hid h
  have HPL := Lib.hid (putR_length_le s L)
  clear h
  obtain ⟨i0, hi, hz0, hz1, hz2⟩ := info_parts infoStr16
  go_enter Try.func81, Try.ntmps81
  go_wp2_with fail
  go_loopw [5, 6, 7] (fun out dn i wr => ∃ k : Nat, k ≤ L.length ∧ i = .int .i64 k ∧ (∃ (R : Option Addr) (c M : Nat) (d : Bool), out = .slice R M c ∧ dn = .bool d ∧ M ≤ 1003 ∧ Hid (∃ O : List Tx, putR L s = O ++ finP d (L.drop k) s ∧ M = O.length ∧ wr.ownsRow w.heap.size 9 1 (.slice R M c) M (O.map strV))) ∧ Hid (Below w.heap.size w wr)) (fun _ _ i _ => L.length - (intOf i).toNat)
  case atStart => exact ⟨0, Nat.zero_le _, rfl, ⟨some ⟨w.heap.size, 0, none⟩, 0, 0, false, rfl, rfl, by omega, [], by simp [finP], rfl, rfl, Or.inr ⟨w.heap.size, 0, #[], rfl, Nat.le_refl _, by show (w.heap.push _)[w.heap.size]? = _; simp, Nat.le_refl _, by unfold maxLen; omega, rfl, rfl⟩⟩, below1 _ _⟩
  case round =>
    obtain ⟨k, hk, rfl, ⟨R, c, M, d, rfl, rfl, hM, hinv⟩, HB⟩ := hrel
    obtain ⟨O, heq, hMO, hown⟩ := hinv.out
    have hMb : M ≤ 1001 := by
      have h1 := congrArg List.length heq
      rw [List.length_append] at h1
      have := HPL.out
      omega
    have HO := Lib.hid hown
    have HEQ := Lib.hid heq
    have HMO := Lib.hid hMO
    have hz : w.heap.size ≤ wr.heap.size := HB.out.size
    clear hown heq hinv hMO
    by_cases hlt : k < L.length
    · obtain ⟨b, o, sx, rfl, _, hsk, hcw⟩ := H.out.at_ (k := k) (by rw [List.length_map]; exact hlt)
      rw [List.getElem?_map] at hsk
      obtain ⟨x, hx, rfl⟩ := Option.map_eq_some_iff.1 hsk
      have hc := keepCell HB.out hcw
      have HCW := Lib.hid hcw
      clear hcw
      have HDR : Hid (L.drop k = x :: L.drop (k + 1)) := Lib.hid (by rw [List.drop_eq_getElem_cons hlt]; congr 1; rw [List.getElem?_eq_getElem hlt] at hx; exact Option.some.inj hx)
      have hli : (k : Int) < (L.length : Int) := by omega
      have hbz : b < wr.heap.size := World.block_lt_of_cell? wr _ hc
      have hM0 : M ≤ 1001 := hMb
      clear hsk hx
      cases d with
      | true =>
        obtain ⟨b1, hb1⟩ : ∃ b1, ((tb x).toList == (tb s).toList) = b1 := ⟨_, rfl⟩
        cases b1
        · skip
          go_wp2_with (at_builtin; refine wpList_append_own _ rfl _ _ 22 rfl w.heap.size 9 i0 _ 1 16 Try.underlying22 hi hz0 hz1 hz2 rfl (by decide) (.slice R M c) M (O.map strV) rfl (HO.out.alloc _) ⟨wr.heap.size, 0, none⟩ 1 1 [.string (tb x)] rfl rfl ?c31 ?c32 ?c33 ?c34 ?c35 ?_)
          case c31 =>
            intro j u hu
            cases j with
            | zero =>
              simp at hu
              subst hu
              simp [Addr.add]
            | succ n => simp at hu
          case c32 => simp [Value.oneCell']
          case c33 => unfold maxLen; omega
          case c34 => omega
          case c35 => simp; omega
          intro v3 w3 hown3 hgrow3 _
          obtain ⟨R3, cap3, rfl⟩ := own_form hown3
          have HB3 := Lib.hid ((bnext HB.out (below1 _ _)).grown hgrow3 (by simp; omega) (own_block_ge HO.out))
          have HO3 := Lib.hid hown3
          have hz3 : w.heap.size ≤ w3.heap.size := HB3.out.size
          clear hown3 hgrow3
          go_wp2_with fail
          go_roundw
          case rel =>
            refine ⟨k + 1, by omega, by go_num, ⟨R3, cap3, (M + 1), true, rfl, rfl, by omega, (O ++ [x]), ?_, by have := HMO.out; simp; omega, ?_⟩, HB3.out⟩
            · rw [HEQ.out, HDR.out]
              simp [finP]
            · have h9 := HO3.out
              simpa [strV] using h9
          case measure => simp [intOf]; omega
        · skip
          go_wp2_with (at_builtin; refine wpList_append_own _ rfl _ _ 22 rfl w.heap.size 9 i0 _ 1 16 Try.underlying22 hi hz0 hz1 hz2 rfl (by decide) (.slice R M c) M (O.map strV) rfl (HO.out.alloc _) ⟨wr.heap.size, 0, none⟩ 1 1 [.string (tb x)] rfl rfl ?c31 ?c32 ?c33 ?c34 ?c35 ?_)
          case c31 =>
            intro j u hu
            cases j with
            | zero =>
              simp at hu
              subst hu
              simp [Addr.add]
            | succ n => simp at hu
          case c32 => simp [Value.oneCell']
          case c33 => unfold maxLen; omega
          case c34 => omega
          case c35 => simp; omega
          intro v3 w3 hown3 hgrow3 _
          obtain ⟨R3, cap3, rfl⟩ := own_form hown3
          have HB3 := Lib.hid ((bnext HB.out (below1 _ _)).grown hgrow3 (by simp; omega) (own_block_ge HO.out))
          have HO3 := Lib.hid hown3
          have hz3 : w.heap.size ≤ w3.heap.size := HB3.out.size
          clear hown3 hgrow3
          go_wp2_with fail
          go_roundw
          case rel =>
            refine ⟨k + 1, by omega, by go_num, ⟨R3, cap3, (M + 1), true, rfl, rfl, by omega, (O ++ [x]), ?_, by have := HMO.out; simp; omega, ?_⟩, HB3.out⟩
            · rw [HEQ.out, HDR.out]
              simp [finP]
            · have h9 := HO3.out
              simpa [strV] using h9
          case measure => simp [intOf]; omega
      | false =>
        by_cases hxs : x = s
        · have e1 : ((tb x).toList == (tb s).toList) = true := by rw [hxs, beq_iff_eq]
          have HXS := Lib.hid hxs
          clear hxs
          go_wp2_with (at_builtin; refine wpList_append_own _ rfl _ _ 22 rfl w.heap.size 9 i0 _ 1 16 Try.underlying22 hi hz0 hz1 hz2 rfl (by decide) (.slice R M c) M (O.map strV) rfl (HO.out.alloc _) ⟨wr.heap.size, 0, none⟩ 1 1 [.string (tb x)] rfl rfl ?c31 ?c32 ?c33 ?c34 ?c35 ?_)
          case c31 =>
            intro j u hu
            cases j with
            | zero =>
              simp at hu
              subst hu
              simp [Addr.add]
            | succ n => simp at hu
          case c32 => simp [Value.oneCell']
          case c33 => unfold maxLen; omega
          case c34 => omega
          case c35 => simp; omega
          intro v3 w3 hown3 hgrow3 _
          obtain ⟨R3, cap3, rfl⟩ := own_form hown3
          have HB3 := Lib.hid ((bnext HB.out (below1 _ _)).grown hgrow3 (by simp; omega) (own_block_ge HO.out))
          have HO3 := Lib.hid hown3
          have hz3 : w.heap.size ≤ w3.heap.size := HB3.out.size
          clear hown3 hgrow3
          go_wp2_with fail
          go_roundw
          case rel =>
            refine ⟨k + 1, by omega, by go_num, ⟨R3, cap3, (M + 1), true, rfl, rfl, by omega, (O ++ [x]), ?_, by have := HMO.out; simp; omega, ?_⟩, HB3.out⟩
            · rw [HEQ.out, HDR.out]
              simp [finP, putR, HXS.out]
            · have h9 := HO3.out
              simpa [strV] using h9
          case measure => simp [intOf]; omega
        · have e1 := beq_tx hxs
          have e2 := less_tx x s
          by_cases hsx : s < x
          · have e3 : decide (x < s) = false := by
              rw [decide_eq_false_iff_not]
              exact fun h => tx_irrefl x (tx_trans h hsx)
            rw [e3] at e2
            have HXS := Lib.hid hxs
            have HSX := Lib.hid hsx
            clear hxs hsx e3
            go_wp2_with (at_builtin; refine wpList_append_own _ rfl _ _ 22 rfl w.heap.size 9 i0 _ 1 16 Try.underlying22 hi hz0 hz1 hz2 rfl (by decide) (.slice R M c) M (O.map strV) rfl (HO.out.alloc _) ⟨wr.heap.size, 0, none⟩ 1 1 [.string (tb s)] rfl rfl ?c31 ?c32 ?c33 ?c34 ?c35 ?_)
            case c31 =>
              intro j u hu
              cases j with
              | zero =>
                simp at hu
                subst hu
                simp [Addr.add]
              | succ n => simp at hu
            case c32 => simp [Value.oneCell']
            case c33 => unfold maxLen; omega
            case c34 => omega
            case c35 => simp; omega
            intro v3 w3 hown3 hgrow3 _
            obtain ⟨R3, cap3, rfl⟩ := own_form hown3
            have HB3 := Lib.hid ((bnext HB.out (below1 _ _)).grown hgrow3 (by simp; omega) (own_block_ge HO.out))
            have HO3 := Lib.hid hown3
            have hz3 : w.heap.size ≤ w3.heap.size := HB3.out.size
            clear hown3 hgrow3
            have hc3 := keepCell HB3.out HCW.out
            have HP3 : Hid (w3.ownsRow w.heap.size 9 1 (.slice R3 (M + 1) cap3) (M + 1) ((O ++ [s]).map strV)) := Lib.hid (by have h9 := HO3.out; simpa [strV] using h9)
            go_wp2_with (at_builtin; refine wpList_append_own _ rfl _ _ 22 rfl w.heap.size 9 i0 _ 1 16 Try.underlying22 hi hz0 hz1 hz2 rfl (by decide) (.slice R3 (M + 1) cap3) (M + 1) ((O ++ [s]).map strV) rfl (HP3.out.alloc _) ⟨w3.heap.size, 0, none⟩ 1 1 [.string (tb x)] rfl rfl ?c41 ?c42 ?c43 ?c44 ?c45 ?_)
            case c41 =>
              intro j u hu
              cases j with
              | zero =>
                simp at hu
                subst hu
                simp [Addr.add]
              | succ n => simp at hu
            case c42 => simp [Value.oneCell']
            case c43 => unfold maxLen; omega
            case c44 => omega
            case c45 => simp; omega
            intro v4 w4 hown4 hgrow4 _
            obtain ⟨R4, cap4, rfl⟩ := own_form hown4
            have HB4 := Lib.hid ((bnext HB3.out (below1 _ _)).grown hgrow4 (by simp; omega) (own_block_ge HP3.out))
            have HO4 := Lib.hid hown4
            have hz4 : w.heap.size ≤ w4.heap.size := HB4.out.size
            clear hown4 hgrow4
            go_wp2_with fail
            go_roundw
            case rel =>
              refine ⟨k + 1, by omega, by go_num, ⟨R4, cap4, (M + 1 + 1), true, rfl, rfl, by omega, (O ++ [s] ++ [x]), ?_, by have := HMO.out; simp; omega, ?_⟩, HB4.out⟩
              · rw [HEQ.out, HDR.out]
                simp [finP, putR, HXS.out, HSX.out]
              · have h9 := HO4.out
                simpa [strV] using h9
            case measure => simp [intOf]; omega
          · have e3 : decide (x < s) = true := by
              rw [decide_eq_true_iff]
              exact tx_lt_of hxs hsx
            rw [e3] at e2
            have HXS := Lib.hid hxs
            have HSX := Lib.hid hsx
            clear hxs hsx e3
            go_wp2_with (at_builtin; refine wpList_append_own _ rfl _ _ 22 rfl w.heap.size 9 i0 _ 1 16 Try.underlying22 hi hz0 hz1 hz2 rfl (by decide) (.slice R M c) M (O.map strV) rfl (HO.out.alloc _) ⟨wr.heap.size, 0, none⟩ 1 1 [.string (tb x)] rfl rfl ?c31 ?c32 ?c33 ?c34 ?c35 ?_)
            case c31 =>
              intro j u hu
              cases j with
              | zero =>
                simp at hu
                subst hu
                simp [Addr.add]
              | succ n => simp at hu
            case c32 => simp [Value.oneCell']
            case c33 => unfold maxLen; omega
            case c34 => omega
            case c35 => simp; omega
            intro v3 w3 hown3 hgrow3 _
            obtain ⟨R3, cap3, rfl⟩ := own_form hown3
            have HB3 := Lib.hid ((bnext HB.out (below1 _ _)).grown hgrow3 (by simp; omega) (own_block_ge HO.out))
            have HO3 := Lib.hid hown3
            have hz3 : w.heap.size ≤ w3.heap.size := HB3.out.size
            clear hown3 hgrow3
            go_wp2_with fail
            go_roundw
            case rel =>
              refine ⟨k + 1, by omega, by go_num, ⟨R3, cap3, (M + 1), false, rfl, rfl, by omega, (O ++ [x]), ?_, by have := HMO.out; simp; omega, ?_⟩, HB3.out⟩
              · rw [HEQ.out, HDR.out]
                simp [finP, putR, HXS.out, HSX.out]
              · have h9 := HO3.out
                simpa [strV] using h9
            case measure => simp [intOf]; omega
    · have hk' : k = L.length := by omega
      have hd0 : L.drop k = [] := List.drop_eq_nil_of_le (by omega)
      have HD := Lib.hid hd0
      clear hd0
      cases d with
      | true =>
        go_wp2_with fail
        go_ret
        have h9 := HEQ.out
        rw [HD.out] at h9
        simp only [finP, if_true, List.append_nil] at h9
        rw [h9, ← HMO.out]
        exact ⟨R, c, rfl, HO.out, HB.out⟩
      | false =>
        skip
        go_wp2_with (at_builtin; refine wpList_append_own _ rfl _ _ 22 rfl w.heap.size 9 i0 _ 1 16 Try.underlying22 hi hz0 hz1 hz2 rfl (by decide) (.slice R M c) M (O.map strV) rfl (HO.out.alloc _) ⟨wr.heap.size, 0, none⟩ 1 1 [.string (tb s)] rfl rfl ?c31 ?c32 ?c33 ?c34 ?c35 ?_)
        case c31 =>
          intro j u hu
          cases j with
          | zero =>
            simp at hu
            subst hu
            simp [Addr.add]
          | succ n => simp at hu
        case c32 => simp [Value.oneCell']
        case c33 => unfold maxLen; omega
        case c34 => omega
        case c35 => simp; omega
        intro v3 w3 hown3 hgrow3 _
        obtain ⟨R3, cap3, rfl⟩ := own_form hown3
        have HB3 := Lib.hid ((bnext HB.out (below1 _ _)).grown hgrow3 (by simp; omega) (own_block_ge HO.out))
        have HO3 := Lib.hid hown3
        have hz3 : w.heap.size ≤ w3.heap.size := HB3.out.size
        clear hown3 hgrow3
        go_wp2_with fail
        go_ret
        have h9 := HEQ.out
        rw [HD.out] at h9
        have h8 : putR L s = O ++ [s] := by simpa [finP, putR] using h9
        have h7 := HO3.out
        rw [h8]
        have h6 : (O ++ [s]).length = M + 1 := by have := HMO.out; simp; omega
        rw [h6]
        exact ⟨R3, cap3, rfl, by simpa [strV] using h7, HB3.out⟩
end Go.Proofs.Ytlmmbheamicdaaa
