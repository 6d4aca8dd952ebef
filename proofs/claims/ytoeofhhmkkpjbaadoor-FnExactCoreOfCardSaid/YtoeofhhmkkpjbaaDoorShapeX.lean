/-
  The place of a name in a row: slices.Index, indexOf, l15ImportAt, l15CoreAt; CoreOf and ImportOf of the program.
-/
import Derived.Test.YtoeofhhmkkpjbaaDoorShapeM
namespace Go.Proofs.YtoeofhhmkkpjbaaDoor
open Go.ChangeShapes Go.WideShapes Go.ChangeAt Go.RowKit Go.Deep

/-- The first place of a text in a row, or -1. -/
def ixGo : List ByteArray → ByteArray → Nat → Int
  | [], _, _ => -1
  | a :: l, s, k => if a = s then (k : Int) else ixGo l s (k + 1)
theorem ixGo_at {l : List ByteArray} {k j : Nat} {a s : ByteArray} (h : l[k]? = some a) : ixGo (l.drop k) s j = if a = s then (j : Int) else ixGo (l.drop (k + 1)) s (j + 1) := by
  obtain ⟨hk, rfl⟩ := List.getElem?_eq_some_iff.1 h
  rw [List.drop_eq_getElem_cons hk]
  rfl
theorem ixGo_ge : ∀ (l : List ByteArray) (s : ByteArray) (k : Nat), -1 ≤ ixGo l s k
  | [], _, _ => by simp [ixGo]
  | a :: l, s, k => by
    rw [ixGo]
    split
    · omega
    · exact ixGo_ge l s (k + 1)

set_option maxHeartbeats 1000000 in
theorem l15ImportAt_any (xs : List Im) (s : ByteArray) (hl : xs.length ≤ 1048576) (R : Option Addr) (c lo : Nat) (w : World) (h : Ims w lo xs R) :
    Calls Tryd.prog 72 #[.slice R xs.length c, .string s] w fun e w' => e = .returned (.int .i64 (ixGo (xs.map Im.name) s 0)) ∧ w = w' := by
  have H := Lib.hid h
  have HV0 : Hid (ixGo ((xs.map Im.name).drop 0) s 0 = ixGo (xs.map Im.name) s 0) := Lib.hid rfl
  generalize ixGo (xs.map Im.name) s 0 = V at *
  clear h
  go_enter Tryd.func72, Tryd.ntmps72
  go_wp2_with fail
  go_loopw [5] (fun i wr => ∃ k : Nat, k ≤ xs.length ∧ i = .int .i64 k ∧ Hid (ixGo ((xs.map Im.name).drop k) s k = V) ∧ wr = w) (fun i _ => xs.length - (intOf i).toNat)
  case atStart => exact ⟨0, Nat.zero_le _, rfl, HV0, rfl⟩
  case round =>
    obtain ⟨k, hk, rfl, HV, rfl⟩ := hrel
    clear HV0
    by_cases hlt : k < xs.length
    · obtain ⟨b, o, y, rfl, _, hyk, hc⟩ := Ims.at_ H.out hlt
      obtain ⟨c0_, c1_, c2_, _⟩ := hc
      have hli : (k : Int) < (xs.length : Int) := by omega
      have hstep : ixGo ((xs.map Im.name).drop k) s k = if y.name = s then (k : Int) else ixGo ((xs.map Im.name).drop (k + 1)) s (k + 1) := ixGo_at (by rw [List.getElem?_map, hyk]; rfl)
      rw [hstep] at HV
      clear hstep hyk
      by_cases he : y.name = s
      · rw [if_pos he] at HV
        have e0 : (y.name.toList == s.toList) = true := by rw [he, beq_iff_eq]
        clear he
        go_wp2_with fail
        go_ret
        exact ⟨by rw [← HV.out]; rfl, by first | trivial | rfl⟩
      · rw [if_neg he] at HV
        have e0 := text_neM he
        clear he
        go_wp2_with fail
        go_roundw
        case rel => exact ⟨k + 1, by omega, by go_num, HV, by first | trivial | rfl⟩
        case measure => simp [intOf]; omega
    · obtain rfl : k = xs.length := by omega
      have HE : Hid (V = -1) := Lib.hid (by rw [← HV.out, List.drop_of_length_le (by rw [List.length_map]; exact Nat.le_refl _)]; rfl)
      clear HV
      go_wp2_with fail
      go_ret
      exact ⟨by rw [HE.out]; rfl, by first | trivial | rfl⟩

set_option maxHeartbeats 1000000 in
theorem l15CoreAt_any (xs : List Co) (s : ByteArray) (hl : xs.length ≤ 1048576) (R : Option Addr) (c lo : Nat) (w : World) (h : Cos w lo xs R) :
    Calls Tryd.prog 70 #[.slice R xs.length c, .string s] w fun e w' => e = .returned (.int .i64 (ixGo (xs.map Co.name) s 0)) ∧ w = w' := by
  have H := Lib.hid h
  have HV0 : Hid (ixGo ((xs.map Co.name).drop 0) s 0 = ixGo (xs.map Co.name) s 0) := Lib.hid rfl
  generalize ixGo (xs.map Co.name) s 0 = V at *
  clear h
  go_enter Tryd.func70, Tryd.ntmps70
  go_wp2_with fail
  go_loopw [5] (fun i wr => ∃ k : Nat, k ≤ xs.length ∧ i = .int .i64 k ∧ Hid (ixGo ((xs.map Co.name).drop k) s k = V) ∧ wr = w) (fun i _ => xs.length - (intOf i).toNat)
  case atStart => exact ⟨0, Nat.zero_le _, rfl, HV0, rfl⟩
  case round =>
    obtain ⟨k, hk, rfl, HV, rfl⟩ := hrel
    clear HV0
    by_cases hlt : k < xs.length
    · obtain ⟨b, o, y, R1, c1, rfl, _, hyk, hc⟩ := Cos.at_ H.out hlt
      obtain ⟨c0_, c1_, c2_, c3_, c4_, _⟩ := hc
      have hli : (k : Int) < (xs.length : Int) := by omega
      have hstep : ixGo ((xs.map Co.name).drop k) s k = if y.name = s then (k : Int) else ixGo ((xs.map Co.name).drop (k + 1)) s (k + 1) := ixGo_at (by rw [List.getElem?_map, hyk]; rfl)
      rw [hstep] at HV
      clear hstep hyk
      by_cases he : y.name = s
      · rw [if_pos he] at HV
        have e0 : (y.name.toList == s.toList) = true := by rw [he, beq_iff_eq]
        clear he
        go_wp2_with fail
        go_ret
        exact ⟨by rw [← HV.out]; rfl, by first | trivial | rfl⟩
      · rw [if_neg he] at HV
        have e0 := text_neM he
        clear he
        go_wp2_with fail
        go_roundw
        case rel => exact ⟨k + 1, by omega, by go_num, HV, by first | trivial | rfl⟩
        case measure => simp [intOf]; omega
    · obtain rfl : k = xs.length := by omega
      have HE : Hid (V = -1) := Lib.hid (by rw [← HV.out, List.drop_of_length_le (by rw [List.length_map]; exact Nat.le_refl _)]; rfl)
      clear HV
      go_wp2_with fail
      go_ret
      exact ⟨by rw [HE.out]; rfl, by first | trivial | rfl⟩

set_option maxHeartbeats 1000000 in
theorem slIndex_any (ls : List ByteArray) (s : ByteArray) (hl : ls.length ≤ 1048576) (A : Option Addr) (c lo : Nat) (w : World) (h : Strs w lo ls A) :
    Calls Tryd.prog 103 #[.slice A ls.length c, .string s] w fun e w' => e = .returned (.int .i64 (ixGo ls s 0)) ∧ Below w.heap.size w w' := by
  have H := Lib.hid h
  have HV0 : Hid (ixGo (ls.drop 0) s 0 = ixGo ls s 0) := Lib.hid rfl
  generalize ixGo ls s 0 = V at *
  clear h
  go_enter Tryd.func103, Tryd.ntmps103
  go_wp2_with fail
  go_loopw [8] (fun i wr => ∃ k : Nat, k ≤ ls.length ∧ i = .int .i64 k ∧ Hid (ixGo (ls.drop k) s k = V) ∧ wr = w) (fun i _ => ls.length - (intOf i).toNat)
  case atStart => exact ⟨0, Nat.zero_le _, rfl, HV0, rfl⟩
  case round =>
    obtain ⟨k, hk, rfl, HV, rfl⟩ := hrel
    clear HV0
    by_cases hlt : k < ls.length
    · obtain ⟨b, o, y, rfl, _, hyk, hc⟩ := Strs.at_ H.out hlt
      have hli : (k : Int) < (ls.length : Int) := by omega
      rw [ixGo_at hyk] at HV
      clear hyk
      by_cases he : y = s
      · rw [if_pos he] at HV
        have e0 : (y.toList == s.toList) = true := by rw [he, beq_iff_eq]
        have e1 : (s.toList == y.toList) = true := by rw [he, beq_iff_eq]
        clear he
        go_wp2_with fail
        go_ret
        exact ⟨by rw [← HV.out]; rfl, Below.refl _ _⟩
      · rw [if_neg he] at HV
        have e0 := text_neM he
        have e1 := text_neM (fun e => he e.symm)
        clear he
        go_wp2_with fail
        go_roundw
        case rel => exact ⟨k + 1, by omega, by go_num, HV, by first | trivial | rfl⟩
        case measure => simp [intOf]; omega
    · obtain rfl : k = ls.length := by omega
      have HE : Hid (V = -1) := Lib.hid (by rw [← HV.out, List.drop_of_length_le (Nat.le_refl _)]; rfl)
      clear HV
      go_wp2_with fail
      go_ret
      exact ⟨by rw [HE.out]; rfl, Below.refl _ _⟩
theorem indexOf_any (ls : List ByteArray) (s : ByteArray) (hl : ls.length ≤ 1048576) (A : Option Addr) (c lo : Nat) (w : World) (h : Strs w lo ls A) :
    Calls Tryd.prog 71 #[.slice A ls.length c, .string s] w fun e w' => e = .returned (.tuple #[.int .i64 (if 0 ≤ ixGo ls s 0 then ixGo ls s 0 else 0), .bool (decide (0 ≤ ixGo ls s 0))]) ∧ Below w.heap.size w w' := by
  have C := Lib.hid (slIndex_any ls s hl A c lo w h)
  clear h
  generalize ixGo ls s 0 = V at *
  by_cases hv : 0 ≤ V
  · have d0 : decide (V < 0) = false := decide_eq_false (by omega)
    rw [if_pos hv, decide_eq_true hv]
    go_enter Tryd.func71, Tryd.ntmps71
    go_wp2_with (go_at_call 103; (with_reducible refine C.out.mono ?_); rintro e w1 ⟨rfl, h1⟩; have HB1 := Lib.hid h1; clear h1)
    exact bodyPost_ret (v := .tuple #[.int .i64 V, .bool true]) (by simp [results, Tryd.results71, go_sem]) rfl ⟨rfl, HB1.out⟩
  · have hn : V < 0 := by omega
    have d0 : decide (V < 0) = true := decide_eq_true hn
    rw [if_neg hv, decide_eq_false hv]
    go_enter Tryd.func71, Tryd.ntmps71
    go_wp2_with (go_at_call 103; (with_reducible refine C.out.mono ?_); rintro e w1 ⟨rfl, h1⟩; have HB1 := Lib.hid h1; clear h1)
    exact bodyPost_ret (v := .tuple #[.int .i64 0, .bool false]) (by simp [results, Tryd.results71, go_sem]) rfl ⟨rfl, HB1.out⟩

theorem implCoreOf_any (x : Mo) (hx : x.wt ≤ 1048576) (Rimports : Option Addr) (cimports : Nat) (Rcores : Option Addr) (ccores : Nat) (lo : Nat) (w : World) (h : Mo.At w lo x Rimports Rcores) (ht : OpTab w) (s : ByteArray) (T : Bool) (hT : T = true ↔ ShapeP x) :
    Calls Tryd.prog 30 #[.agg #[.int .i64 x.pages, .slice Rimports x.imports.length cimports, .slice Rcores x.cores.length ccores], .string s] w fun e w' => e = .returned (.tuple #[.int .i64 (if T = true then (if 0 ≤ ixGo (coN x) s 0 then ixGo (coN x) s 0 else 0) else 0), .bool (T && decide (0 ≤ ixGo (coN x) s 0))]) ∧ Below w.heap.size w w' := by
  obtain ⟨q_imports, q_cores, _⟩ := Mo.parts_le hx
  have hm1 : x.imports.length ≤ 1048576 := by have := Im.wts_nonneg x.imports; omega
  have hm2 : x.cores.length ≤ 1048576 := by have := Co.wts_nonneg x.cores; omega
  have hn : (coN x).length ≤ 1048576 := by unfold coN; rw [List.length_map]; assumption
  have CS := Lib.hid (fun W (hb : Below w.heap.size w W) => (implShape_any x hx Rimports cimports Rcores ccores lo W (h.below hb) (ht.keep hb)).mono (R' := fun e w' => e = .returned (.bool T) ∧ Below W.heap.size W w') fun _ _ ⟨v, e1, hv, e2⟩ => ⟨by rw [e1, (Bool.eq_iff_iff.mpr (hv.trans hT.symm) : v = T)], e2⟩)
  have CN := Lib.hid (fun W (hb : Below w.heap.size w W) => coreNames_any x hx Rimports cimports Rcores ccores lo W (h.below hb))
  have CX := Lib.hid (fun (A : Option Addr) (c l : Nat) (W : World) (hs : Strs W l (coN x) A) => indexOf_any (coN x) s hn A c l W hs)
  clear h ht hT hx q_imports q_cores
  generalize ixGo (coN x) s 0 = V at *
  generalize (if 0 ≤ V then V else 0) = P at *
  generalize decide (0 ≤ V) = B at *
  cases T with
  | false =>
    clear CN CX
    go_enter Tryd.func30, Tryd.ntmps30
    go_wp2_with (go_at_call 27; (with_reducible refine (CS.out _ (below1 _ _)).mono ?_); rintro e w1 ⟨rfl, h1⟩; have HB1 := Lib.hid (bnext (below1 _ _) h1); clear h1)
    exact bodyPost_ret (v := .tuple #[.int .i64 0, .bool false]) (by simp [results, Tryd.results30, go_sem]) rfl ⟨rfl, HB1.out⟩
  | true =>
    go_enter Tryd.func30, Tryd.ntmps30
    go_wp2_with (first
      | (go_at_call 27; (with_reducible refine (CS.out _ (below1 _ _)).mono ?_); rintro e w1 ⟨rfl, h1⟩; have HB1 := Lib.hid (bnext (below1 _ _) h1); have k0 := keepCell (a := ⟨w.heap.size, 0, none⟩) (v := .int .i64 x.pages) h1 (by go_simp); have k1 := keepCell (a := ⟨w.heap.size, 1, none⟩) (v := .slice Rimports x.imports.length cimports) h1 (by go_simp); have k2 := keepCell (a := ⟨w.heap.size, 2, none⟩) (v := .slice Rcores x.cores.length ccores) h1 (by go_simp); clear h1)
      | (go_at_call 67; (with_reducible refine (CN.out _ HB1.out).mono ?_); rintro e w2 ⟨A2, c2, rfl, hs2, h2⟩; have HS2 := Lib.hid hs2; have HB2 := Lib.hid (bnext HB1.out h2); clear h2 hs2)
      | (go_at_call 71; (with_reducible refine (CX.out _ _ _ _ HS2.out).mono ?_); rintro e w3 ⟨rfl, h3⟩; have HB3 := Lib.hid (bnext HB2.out h3); clear h3))
    exact bodyPost_ret (v := .tuple #[.int .i64 P, .bool B]) (by simp [results, Tryd.results30, go_sem]) rfl ⟨by simp, HB3.out⟩

theorem implImportOf_any (x : Mo) (hx : x.wt ≤ 1048576) (Rimports : Option Addr) (cimports : Nat) (Rcores : Option Addr) (ccores : Nat) (lo : Nat) (w : World) (h : Mo.At w lo x Rimports Rcores) (ht : OpTab w) (s : ByteArray) (T : Bool) (hT : T = true ↔ ShapeP x) :
    Calls Tryd.prog 32 #[.agg #[.int .i64 x.pages, .slice Rimports x.imports.length cimports, .slice Rcores x.cores.length ccores], .string s] w fun e w' => e = .returned (.tuple #[.int .i64 (if T = true then (if 0 ≤ ixGo (imN x) s 0 then ixGo (imN x) s 0 else 0) else 0), .bool (T && decide (0 ≤ ixGo (imN x) s 0))]) ∧ Below w.heap.size w w' := by
  obtain ⟨q_imports, q_cores, _⟩ := Mo.parts_le hx
  have hm1 : x.imports.length ≤ 1048576 := by have := Im.wts_nonneg x.imports; omega
  have hm2 : x.cores.length ≤ 1048576 := by have := Co.wts_nonneg x.cores; omega
  have hn : (imN x).length ≤ 1048576 := by unfold imN; rw [List.length_map]; assumption
  have CS := Lib.hid (fun W (hb : Below w.heap.size w W) => (implShape_any x hx Rimports cimports Rcores ccores lo W (h.below hb) (ht.keep hb)).mono (R' := fun e w' => e = .returned (.bool T) ∧ Below W.heap.size W w') fun _ _ ⟨v, e1, hv, e2⟩ => ⟨by rw [e1, (Bool.eq_iff_iff.mpr (hv.trans hT.symm) : v = T)], e2⟩)
  have CN := Lib.hid (fun W (hb : Below w.heap.size w W) => importNames_any x hx Rimports cimports Rcores ccores lo W (h.below hb))
  have CX := Lib.hid (fun (A : Option Addr) (c l : Nat) (W : World) (hs : Strs W l (imN x) A) => indexOf_any (imN x) s hn A c l W hs)
  clear h ht hT hx q_imports q_cores
  generalize ixGo (imN x) s 0 = V at *
  generalize (if 0 ≤ V then V else 0) = P at *
  generalize decide (0 ≤ V) = B at *
  cases T with
  | false =>
    clear CN CX
    go_enter Tryd.func32, Tryd.ntmps32
    go_wp2_with (go_at_call 27; (with_reducible refine (CS.out _ (below1 _ _)).mono ?_); rintro e w1 ⟨rfl, h1⟩; have HB1 := Lib.hid (bnext (below1 _ _) h1); clear h1)
    exact bodyPost_ret (v := .tuple #[.int .i64 0, .bool false]) (by simp [results, Tryd.results32, go_sem]) rfl ⟨rfl, HB1.out⟩
  | true =>
    go_enter Tryd.func32, Tryd.ntmps32
    go_wp2_with (first
      | (go_at_call 27; (with_reducible refine (CS.out _ (below1 _ _)).mono ?_); rintro e w1 ⟨rfl, h1⟩; have HB1 := Lib.hid (bnext (below1 _ _) h1); have k0 := keepCell (a := ⟨w.heap.size, 0, none⟩) (v := .int .i64 x.pages) h1 (by go_simp); have k1 := keepCell (a := ⟨w.heap.size, 1, none⟩) (v := .slice Rimports x.imports.length cimports) h1 (by go_simp); have k2 := keepCell (a := ⟨w.heap.size, 2, none⟩) (v := .slice Rcores x.cores.length ccores) h1 (by go_simp); clear h1)
      | (go_at_call 66; (with_reducible refine (CN.out _ HB1.out).mono ?_); rintro e w2 ⟨A2, c2, rfl, hs2, h2⟩; have HS2 := Lib.hid hs2; have HB2 := Lib.hid (bnext HB1.out h2); clear h2 hs2)
      | (go_at_call 71; (with_reducible refine (CX.out _ _ _ _ HS2.out).mono ?_); rintro e w3 ⟨rfl, h3⟩; have HB3 := Lib.hid (bnext HB2.out h3); clear h3))
    exact bodyPost_ret (v := .tuple #[.int .i64 P, .bool B]) (by simp [results, Tryd.results32, go_sem]) rfl ⟨by simp, HB3.out⟩

end Go.Proofs.YtoeofhhmkkpjbaaDoor
