/-
  ReadIns: the walk of the model's side.
-/
import Derived.Test.YtoeofhhmkkpjbaaDoorReadW
namespace Go.Proofs.YtoeofhhmkkpjbaaDoor
open Go.ChangeShapes Go.WideShapes Go.ChangeAt Go.RowKit Go.Deep

theorem l15Cut_one (s wd : ByteArray) (hs : s.size ≤ 1048576) (h : cutP s = [wd]) (w : World) :
    Calls Tryd.prog 92 #[.string s, .int .u8 32] w fun e w' => ∃ b o c : Nat, e = .returned (.slice (some ⟨b, o, none⟩) 1 c) ∧ w'.cell? ⟨b, o, none⟩ = some (.string wd) ∧ Below w.heap.size w w' := by
  refine (l15Cut_any s hs w).mono ?_
  rintro e w' ⟨A, c, rfl, hst, hb⟩
  rw [h] at hst ⊢
  obtain ⟨b, o, rfl, _, hc⟩ := hst (by simp)
  exact ⟨b, o, c, rfl, hc 0 wd rfl, hb⟩
theorem l15Cut_two (s wd od : ByteArray) (r : List ByteArray) (hs : s.size ≤ 1048576) (h : cutP s = wd :: od :: r) (w : World) :
    Calls Tryd.prog 92 #[.string s, .int .u8 32] w fun e w' => ∃ b o c : Nat, e = .returned (.slice (some ⟨b, o, none⟩) (r.length + 2) c) ∧ w'.cell? ⟨b, o, none⟩ = some (.string wd) ∧ w'.cell? ⟨b, o + 1, none⟩ = some (.string od) ∧ Below w.heap.size w w' := by
  refine (l15Cut_any s hs w).mono ?_
  rintro e w' ⟨A, c, rfl, hst, hb⟩
  rw [h] at hst ⊢
  obtain ⟨b, o, rfl, _, hc⟩ := hst (by simp)
  exact ⟨b, o, c, rfl, hc 0 wd rfl, hc 1 od rfl, hb⟩

set_option maxHeartbeats 2000000 in
set_option maxRecDepth 100000 in
theorem l15Read_one (s wd : ByteArray) (hs : s.size ≤ 1048576) (h : cutP s = [wd]) (w : World) :
    Calls Tryd.prog 52 #[.string s] w (AnsR s w) := by
  have C1 := Lib.hid (fun W => l15Cut_one s wd hs h W)
  obtain ⟨k, hk⟩ := isOp_ex wd
  have C3 := Lib.hid (fun W => l15Op_at hk W)
  have HC := Lib.hid (candS1 s wd h hk)
  have C4 := Lib.hid (fun W => l15Ins_any k 0 W)
  have C5 := (fun W (h : insV k 0 = true) => l15InsText_any k 0 h (by omega) (by omega) W)
  clear hk hs h
  cases hI : insV k 0 with
  | false =>
    rw [hI] at C4
    have HN := Lib.hid (HC.out.no (by rw [hI]; rintro ⟨h, _⟩; cases h))
    clear hI C5 HC
    go_enter Tryd.func52, Tryd.ntmps52
    go_wp2_with (first
      | (go_at_call 92; refine (C1.out _).mono ?_; rintro e w1 ⟨bq, oq, cq, rfl, q0, hb1⟩; have HB1 := Lib.hid (bnext (below1 _ _) hb1); have Z1 := Lib.hid ((Z2.new w _ _ _).keep hb1); clear hb1)
      | (go_at_call 93; refine (C3.out _).mono ?_; rintro e w2 ⟨rfl, hb2⟩; have HB2 := Lib.hid (bnext HB1.out hb2); have ZP := Lib.hid (Z1.out.keep hb2); clear hb2)
      | (go_at_call 46; refine (C4.out _).mono ?_; rintro e w4 ⟨rfl, hb4⟩; have HB4 := Lib.hid (bnext (HB2.out.alloc (by have := HB2.out.size; omega) _) hb4); have Z4 := Lib.hid ((ZP.out.alloc _).keep hb4); have Y4 := Lib.hid ((Z2.new w2 _ _ _).keep hb4); have ⟨c0, c1, f0, _⟩ := Z4.out; have ⟨i0, i1, _, _⟩ := Y4.out; clear hb4))
    refine bodyPost_ret (v := .tuple #[.agg #[.int .i64 0, .int .i64 0], .bool false]) ?hres rfl ⟨0, 0, false, rfl, HN.out, ?hbel⟩
    case hres => simp [results, Tryd.results52, go_sem, *]
    case hbel => exact (HB4.out.setCell (by first | (simp; done) | (simp; omega)) _).setCell (by first | (simp; done) | (simp; omega)) _
  | true =>
    rw [hI] at C4
    have C5 := Lib.hid (fun W => C5 W hI)
    by_cases hT : insT k 0 = s
    · have HY := Lib.hid (HC.out.yes (by omega) hI hT)
      rw [hT] at C5
      clear hI HC hT
      go_enter Tryd.func52, Tryd.ntmps52
      go_wp2_with (first
        | (go_at_call 92; refine (C1.out _).mono ?_; rintro e w1 ⟨bq, oq, cq, rfl, q0, hb1⟩; have HB1 := Lib.hid (bnext (below1 _ _) hb1); have Z1 := Lib.hid ((Z2.new w _ _ _).keep hb1); clear hb1)
        | (go_at_call 93; refine (C3.out _).mono ?_; rintro e w2 ⟨rfl, hb2⟩; have HB2 := Lib.hid (bnext HB1.out hb2); have ZP := Lib.hid (Z1.out.keep hb2); clear hb2)
        | (go_at_call 46; refine (C4.out _).mono ?_; rintro e w4 ⟨rfl, hb4⟩; have HB4 := Lib.hid (bnext (HB2.out.alloc (by have := HB2.out.size; omega) _) hb4); have Z4 := Lib.hid ((ZP.out.alloc _).keep hb4); have Y4 := Lib.hid ((Z2.new w2 _ _ _).keep hb4); have ⟨c0, c1, f0, _⟩ := Z4.out; have ⟨i0, i1, _, _⟩ := Y4.out; clear hb4)
        | (go_at_call 49; refine (C5.out _).mono ?_; rintro e w5 ⟨rfl, hb5⟩; have HB5 := Lib.hid (bnext HB4.out hb5); have ⟨d0, d1, g0, _⟩ := Z4.out.keep hb5; have ⟨j0, j1, _, _⟩ := Y4.out.keep hb5; clear hb5))
      refine bodyPost_ret (v := .tuple #[.agg #[.int .i64 k, .int .i64 0], .bool true]) ?hres rfl ⟨k, 0, true, rfl, HY.out, ?hbel⟩
      case hres => simp [results, Tryd.results52, go_sem, *]
      case hbel => exact (HB5.out.setCell (by first | (simp; done) | (simp; omega)) _).setCell (by first | (simp; done) | (simp; omega)) _
    · have HN := Lib.hid (HC.out.no (by rintro ⟨_, h⟩; exact hT h))
      have e0 := text_neM hT
      generalize insT k 0 = T at *
      clear hI HC
      go_enter Tryd.func52, Tryd.ntmps52
      go_wp2_with (first
        | (go_at_call 92; refine (C1.out _).mono ?_; rintro e w1 ⟨bq, oq, cq, rfl, q0, hb1⟩; have HB1 := Lib.hid (bnext (below1 _ _) hb1); have Z1 := Lib.hid ((Z2.new w _ _ _).keep hb1); clear hb1)
        | (go_at_call 93; refine (C3.out _).mono ?_; rintro e w2 ⟨rfl, hb2⟩; have HB2 := Lib.hid (bnext HB1.out hb2); have ZP := Lib.hid (Z1.out.keep hb2); clear hb2)
        | (go_at_call 46; refine (C4.out _).mono ?_; rintro e w4 ⟨rfl, hb4⟩; have HB4 := Lib.hid (bnext (HB2.out.alloc (by have := HB2.out.size; omega) _) hb4); have Z4 := Lib.hid ((ZP.out.alloc _).keep hb4); have Y4 := Lib.hid ((Z2.new w2 _ _ _).keep hb4); have ⟨c0, c1, f0, _⟩ := Z4.out; have ⟨i0, i1, _, _⟩ := Y4.out; clear hb4)
        | (go_at_call 49; refine (C5.out _).mono ?_; rintro e w5 ⟨rfl, hb5⟩; have HB5 := Lib.hid (bnext HB4.out hb5); have ⟨d0, d1, g0, _⟩ := Z4.out.keep hb5; have ⟨j0, j1, _, _⟩ := Y4.out.keep hb5; clear hb5))
      refine bodyPost_ret (v := .tuple #[.agg #[.int .i64 0, .int .i64 0], .bool false]) ?hres rfl ⟨0, 0, false, rfl, HN.out, ?hbel⟩
      case hres => simp [results, Tryd.results52, go_sem, *]
      case hbel => exact (HB5.out.setCell (by first | (simp; done) | (simp; omega)) _).setCell (by first | (simp; done) | (simp; omega)) _

theorem cellLt {w : World} {b o : Nat} {v : Value} (h : w.cell? ⟨b, o, none⟩ = some v) : b < w.heap.size := by
  by_cases hlt : b < w.heap.size
  · exact hlt
  · have hn : w.heap[b]? = none := Array.getElem?_eq_none (by omega)
    simp [World.cell?, hn] at h
theorem Z2.set {W : World} {B : Nat} {u v : Value} (h : Z2 W B u v) {p : Addr} (hp : p.block ≠ B) (x : Value) : Z2 (W.setCell p x) B u v :=
  ⟨by rw [World.cell?_setCell_other W p _ x (fun e => hp (by rw [e]))]; exact h.1, by rw [World.cell?_setCell_other W p _ x (fun e => hp (by rw [e]))]; exact h.2.1, fun o => (World.frozen?_setCell _ _ _ _).trans (h.2.2.1 o), by have := h.2.2.2; simpa [World.setCell] using this⟩
theorem Z2.put {W : World} {B : Nat} {u v x : Value} (h : Z2 W B u v) : Z2 (W.setCell ⟨B, 1, none⟩ x) B u x :=
  ⟨by rw [World.cell?_setCell_other W _ _ x (by simp)]; exact h.1, by have := h.2.1; go_simp, fun o => (World.frozen?_setCell _ _ _ _).trans (h.2.2.1 o), by have := h.2.2.2; simpa [World.setCell] using this⟩
set_option maxHeartbeats 2000000 in
set_option maxRecDepth 100000 in
theorem l15Read_two (s wd od : ByteArray) (r : List ByteArray) (hs : s.size ≤ 1048576) (h : cutP s = wd :: od :: r) (w : World) :
    Calls Tryd.prog 52 #[.string s] w (AnsR s w) := by
  have C1 := Lib.hid (fun W => l15Cut_two s wd od r hs h W)
  obtain ⟨k, hk⟩ := isOp_ex wd
  have C3 := Lib.hid (fun W => l15Op_at hk W)
  have hz : od.size ≤ 1048576 := by
    have := cutP_size s od (by rw [h]; simp)
    omega
  have C6 := Lib.hid (fun W => l15Number_any od hz W)
  have hc := candS2 s wd od r h hk
  have hnb := numR_bounds od
  obtain ⟨n, hn⟩ : ∃ n : Nat, r.length + 2 = n := ⟨_, rfl⟩
  rw [hn] at C1
  have hn1 : (1 : Int) < (n : Int) := by omega
  have hn2 : 1 < n := by omega
  clear hk hs h hz hn
  generalize numR od = R at *
  obtain ⟨v, b⟩ := R
  cases b with
  | false =>
    have HN : Hid (ReadG s 0 0 false) := Lib.hid ⟨fun e => (by cases e), fun _ => ⟨rfl, rfl⟩, fun op a h0 h1 h2 h3 => (by
      have := (hc op a h0 h1 h2 h3).2
      injection this with _ this
      cases this)⟩
    clear hc hnb
    go_enter Tryd.func52, Tryd.ntmps52
    go_wp2_with (first
      | (go_at_call 92; refine (C1.out _).mono ?_; rintro e w1 ⟨bq, oq, cq, rfl, q0, q1, hb1⟩; have HB1 := Lib.hid (bnext (below1 _ _) hb1); have Z1 := Lib.hid ((Z2.new w _ _ _).keep hb1); clear hb1)
      | (go_at_call 93; refine (C3.out _).mono ?_; rintro e w2 ⟨rfl, hb2⟩; have HB2 := Lib.hid (bnext HB1.out hb2); have ZP := Lib.hid (Z1.out.keep hb2); have q2 := keepCell hb2 q1; have QL := (fun o => keepCell (below1 w2 o) q2); have ql := cellLt q2; have qn : bq ≠ w2.heap.size := (by omega); clear hb2)
      | (go_at_call 94; refine (C6.out _).mono ?_; rintro e w3 ⟨rfl, hb3⟩; have HB3 := Lib.hid (bnext (HB2.out.alloc (by have := HB2.out.size; omega) _) hb3); have Z3 := Lib.hid ((ZP.out.alloc _).keep hb3); have Y3 := Lib.hid ((Z2.new w2 _ _ _).keep hb3); have ⟨c0, c1, f0, _⟩ := Z3.out; have ⟨i0, i1, fi, _⟩ := Y3.out; clear hb3))
    refine bodyPost_ret (v := .tuple #[.agg #[.int .i64 0, .int .i64 0], .bool false]) ?hres rfl ⟨0, 0, false, rfl, HN.out, ?hbel⟩
    case hres => simp [results, Tryd.results52, go_sem, *]
    case hbel => exact (HB3.out.setCell (by first | (simp; done) | (simp; omega)) _).setCell (by first | (simp; done) | (simp; omega)) _
  | true =>
    have HC : Hid (Cand s k v) := Lib.hid fun op a h0 h1 h2 h3 => by
      obtain ⟨e1, e2⟩ := hc op a h0 h1 h2 h3
      injection e2 with e2 _
      exact ⟨e1, e2⟩
    have C4 := Lib.hid (fun W => l15Ins_any k v W)
    have C5 := (fun W (h : insV k v = true) => l15InsText_any k v h hnb.1 hnb.2 W)
    have HV : Hid (-9223372036854775808 ≤ v ∧ v ≤ 9223372036854775807) := Lib.hid hnb
    clear hc hnb
    simp only at C6
    cases hI : insV k v with
    | false =>
      rw [hI] at C4
      have HN := Lib.hid (HC.out.no (by rw [hI]; rintro ⟨h, _⟩; cases h))
      clear hI C5 HC
      go_enter Tryd.func52, Tryd.ntmps52
      go_wp2_with (first
        | (go_at_call 92; refine (C1.out _).mono ?_; rintro e w1 ⟨bq, oq, cq, rfl, q0, q1, hb1⟩; have HB1 := Lib.hid (bnext (below1 _ _) hb1); have Z1 := Lib.hid ((Z2.new w _ _ _).keep hb1); clear hb1)
        | (go_at_call 93; refine (C3.out _).mono ?_; rintro e w2 ⟨rfl, hb2⟩; have HB2 := Lib.hid (bnext HB1.out hb2); have ZP := Lib.hid (Z1.out.keep hb2); have q2 := keepCell hb2 q1; have QL := (fun o => keepCell (below1 w2 o) q2); have ql := cellLt q2; have qn : bq ≠ w2.heap.size := (by omega); clear hb2)
        | (go_at_call 94; refine (C6.out _).mono ?_; rintro e w3 ⟨rfl, hb3⟩; have HB3 := Lib.hid (bnext (HB2.out.alloc (by have := HB2.out.size; omega) _) hb3); have Z3 := Lib.hid ((ZP.out.alloc _).keep hb3); have Y3 := Lib.hid ((Z2.new w2 _ _ _).keep hb3); have ⟨c0, c1, f0, _⟩ := Z3.out; have ⟨i0, i1, fi, _⟩ := Y3.out; clear hb3)
        | (go_at_call 46; refine (C4.out _).mono ?_; rintro e w4 ⟨rfl, hb4⟩; have HB4 := Lib.hid (bnext (HB3.out.setCell HB2.out.size _) hb4); have Z4 := Lib.hid ((Z3.out.set (by have := ZP.out.2.2.2; simp; omega) _).keep hb4); have Y4 := Lib.hid (Y3.out.put.keep hb4); have ⟨c4, c5, f4, _⟩ := Z4.out; have ⟨i4, i5, _, _⟩ := Y4.out; clear hb4))
      refine bodyPost_ret (v := .tuple #[.agg #[.int .i64 0, .int .i64 0], .bool false]) ?hres rfl ⟨0, 0, false, rfl, HN.out, ?hbel⟩
      case hres => simp [results, Tryd.results52, go_sem, *]
      case hbel => exact (HB4.out.setCell (by first | (simp; done) | (simp; omega)) _).setCell (by first | (simp; done) | (simp; omega)) _
    | true =>
      rw [hI] at C4
      have C5 := Lib.hid (fun W => C5 W hI)
      by_cases hT : insT k v = s
      · have HY := Lib.hid (HC.out.yes HV.out hI hT)
        rw [hT] at C5
        clear hI HC hT
        go_enter Tryd.func52, Tryd.ntmps52
        go_wp2_with (first
          | (go_at_call 92; refine (C1.out _).mono ?_; rintro e w1 ⟨bq, oq, cq, rfl, q0, q1, hb1⟩; have HB1 := Lib.hid (bnext (below1 _ _) hb1); have Z1 := Lib.hid ((Z2.new w _ _ _).keep hb1); clear hb1)
          | (go_at_call 93; refine (C3.out _).mono ?_; rintro e w2 ⟨rfl, hb2⟩; have HB2 := Lib.hid (bnext HB1.out hb2); have ZP := Lib.hid (Z1.out.keep hb2); have q2 := keepCell hb2 q1; have QL := (fun o => keepCell (below1 w2 o) q2); have ql := cellLt q2; have qn : bq ≠ w2.heap.size := (by omega); clear hb2)
          | (go_at_call 94; refine (C6.out _).mono ?_; rintro e w3 ⟨rfl, hb3⟩; have HB3 := Lib.hid (bnext (HB2.out.alloc (by have := HB2.out.size; omega) _) hb3); have Z3 := Lib.hid ((ZP.out.alloc _).keep hb3); have Y3 := Lib.hid ((Z2.new w2 _ _ _).keep hb3); have ⟨c0, c1, f0, _⟩ := Z3.out; have ⟨i0, i1, fi, _⟩ := Y3.out; clear hb3)
          | (go_at_call 46; refine (C4.out _).mono ?_; rintro e w4 ⟨rfl, hb4⟩; have HB4 := Lib.hid (bnext (HB3.out.setCell HB2.out.size _) hb4); have Z4 := Lib.hid ((Z3.out.set (by have := ZP.out.2.2.2; simp; omega) _).keep hb4); have Y4 := Lib.hid (Y3.out.put.keep hb4); have ⟨c4, c5, f4, _⟩ := Z4.out; have ⟨i4, i5, _, _⟩ := Y4.out; clear hb4)
          | (go_at_call 49; refine (C5.out _).mono ?_; rintro e w5 ⟨rfl, hb5⟩; have HB5 := Lib.hid (bnext HB4.out hb5); have ⟨d0, d1, g0, _⟩ := Z4.out.keep hb5; have ⟨j0, j1, _, _⟩ := Y4.out.keep hb5; clear hb5))
        refine bodyPost_ret (v := .tuple #[.agg #[.int .i64 k, .int .i64 v], .bool true]) ?hres rfl ⟨k, v, true, rfl, HY.out, ?hbel⟩
        case hres => simp [results, Tryd.results52, go_sem, *]
        case hbel => exact (HB5.out.setCell (by first | (simp; done) | (simp; omega)) _).setCell (by first | (simp; done) | (simp; omega)) _
      · have HN := Lib.hid (HC.out.no (by rintro ⟨_, h⟩; exact hT h))
        have e0 := text_neM hT
        generalize insT k v = T at *
        clear hI HC
        go_enter Tryd.func52, Tryd.ntmps52
        go_wp2_with (first
          | (go_at_call 92; refine (C1.out _).mono ?_; rintro e w1 ⟨bq, oq, cq, rfl, q0, q1, hb1⟩; have HB1 := Lib.hid (bnext (below1 _ _) hb1); have Z1 := Lib.hid ((Z2.new w _ _ _).keep hb1); clear hb1)
          | (go_at_call 93; refine (C3.out _).mono ?_; rintro e w2 ⟨rfl, hb2⟩; have HB2 := Lib.hid (bnext HB1.out hb2); have ZP := Lib.hid (Z1.out.keep hb2); have q2 := keepCell hb2 q1; have QL := (fun o => keepCell (below1 w2 o) q2); have ql := cellLt q2; have qn : bq ≠ w2.heap.size := (by omega); clear hb2)
          | (go_at_call 94; refine (C6.out _).mono ?_; rintro e w3 ⟨rfl, hb3⟩; have HB3 := Lib.hid (bnext (HB2.out.alloc (by have := HB2.out.size; omega) _) hb3); have Z3 := Lib.hid ((ZP.out.alloc _).keep hb3); have Y3 := Lib.hid ((Z2.new w2 _ _ _).keep hb3); have ⟨c0, c1, f0, _⟩ := Z3.out; have ⟨i0, i1, fi, _⟩ := Y3.out; clear hb3)
          | (go_at_call 46; refine (C4.out _).mono ?_; rintro e w4 ⟨rfl, hb4⟩; have HB4 := Lib.hid (bnext (HB3.out.setCell HB2.out.size _) hb4); have Z4 := Lib.hid ((Z3.out.set (by have := ZP.out.2.2.2; simp; omega) _).keep hb4); have Y4 := Lib.hid (Y3.out.put.keep hb4); have ⟨c4, c5, f4, _⟩ := Z4.out; have ⟨i4, i5, _, _⟩ := Y4.out; clear hb4)
          | (go_at_call 49; refine (C5.out _).mono ?_; rintro e w5 ⟨rfl, hb5⟩; have HB5 := Lib.hid (bnext HB4.out hb5); have ⟨d0, d1, g0, _⟩ := Z4.out.keep hb5; have ⟨j0, j1, _, _⟩ := Y4.out.keep hb5; clear hb5))
        refine bodyPost_ret (v := .tuple #[.agg #[.int .i64 0, .int .i64 0], .bool false]) ?hres rfl ⟨0, 0, false, rfl, HN.out, ?hbel⟩
        case hres => simp [results, Tryd.results52, go_sem, *]
        case hbel => exact (HB5.out.setCell (by first | (simp; done) | (simp; omega)) _).setCell (by first | (simp; done) | (simp; omega)) _
end Go.Proofs.YtoeofhhmkkpjbaaDoor
