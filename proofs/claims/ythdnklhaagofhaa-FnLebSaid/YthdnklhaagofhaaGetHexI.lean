/-
  The walk of the program's GetHex, and the law FnExactGetHex.
-/
import Derived.Test.YthdnklhaagofhaaGetHexS
namespace Go.Proofs.Ythdnklhaagofhaa
open Go.ChangeShapes Go.WideShapes Go.ChangeAt Go.RowKit

/-- A place's digit. -/
def hq (s : ByteArray) (k : Nat) : Int := hv ((s.data.toList.getD k 0).toNat : Int)
/-- What a byte is while the loop runs. -/
def FB (s : ByteArray) (pos j : Nat) : Int := if 2 * j + 1 < pos then 16 * hq s (2 * j) + hq s (2 * j + 1) else if 2 * j < pos then hq s (2 * j) else 0
/-- The bytes while the loop runs. -/
def cellsAt (s : ByteArray) (n pos : Nat) : Array Value := ((List.range n).map fun j => Value.int .u8 (FB s pos j)).toArray

theorem cellsAt_get (s : ByteArray) (n pos j : Nat) (h : j < n) : (cellsAt s n pos)[j]? = some (.int .u8 (FB s pos j)) := by
  simp [cellsAt, h]
theorem cellsAt_zero (s : ByteArray) (n : Nat) : madeCells #[.int .u8 0] n = cellsAt s n 0 := by
  apply Array.ext
  · simp [madeCells, cellsAt]
  · intro i h1 h2
    simp [madeCells, cellsAt, FB, Nat.mod_one]
theorem FB_other (s : ByteArray) (pos j : Nat) (h : j ≠ pos / 2) : FB s (pos + 1) j = FB s pos j := by
  unfold FB
  by_cases h1 : 2 * j + 1 < pos
  · rw [if_pos h1, if_pos (by omega)]
  · rw [if_neg h1]
    by_cases h2 : 2 * j < pos
    · rw [if_pos h2, if_neg (by omega), if_pos (by omega)]
    · rw [if_neg h2, if_neg (by omega), if_neg (by omega)]
theorem FB_here (s : ByteArray) (pos : Nat) : FB s (pos + 1) (pos / 2) = 16 * FB s pos (pos / 2) + hq s pos := by
  unfold FB
  by_cases h : pos % 2 = 0
  · rw [if_neg (by omega), if_pos (by omega), if_neg (by omega), if_neg (by omega), show 2 * (pos / 2) = pos by omega]
    omega
  · rw [if_pos (by omega), if_neg (by omega), if_pos (by omega), show 2 * (pos / 2) + 1 = pos by omega]
theorem FB_small (s : ByteArray) (pos : Nat) (hall : ∀ k, k < pos → hq s k ≤ 15) : 0 ≤ FB s pos (pos / 2) ∧ FB s pos (pos / 2) ≤ 15 := by
  unfold FB
  rw [if_neg (by omega)]
  split
  · have := hv_bd ((s.data.toList.getD (2 * (pos / 2)) 0).toNat : Int)
    have := hall (2 * (pos / 2)) (by omega)
    unfold hq at *
    omega
  · omega
theorem cellsAt_step (s : ByteArray) (n pos : Nat) : (cellsAt s n pos).setIfInBounds (pos / 2) (.int .u8 (16 * FB s pos (pos / 2) + hq s pos)) = cellsAt s n (pos + 1) := by
  apply Array.ext
  · simp [cellsAt]
  · intro i h1 h2
    rw [Array.getElem_setIfInBounds]
    · by_cases h : pos / 2 = i
      · subst h
        rw [if_pos rfl]
        simp only [cellsAt, List.getElem_toArray, List.getElem_map, List.getElem_range, FB_here]
      · rw [if_neg h]
        simp only [cellsAt, List.getElem_toArray, List.getElem_map, List.getElem_range]
        rw [FB_other s pos i (fun e => h e.symm)]
    · simpa [cellsAt] using h2

theorem unhex_bad : ∀ (l : List UInt8) (k : Nat), k < l.length → 15 < hv ((l.getD k 0).toNat : Int) → unhex l = none
  | [], k, h, _ => by simp at h
  | [_], _, _, _ => rfl
  | a :: b :: t, k, h, hb => by
    rw [unhex]
    match k, h, hb with
    | 0, _, hb => rw [if_pos (Or.inl (by simpa using hb))]
    | 1, _, hb => rw [if_pos (Or.inr (by simpa using hb))]
    | k + 2, h, hb =>
      rw [unhex_bad t k (by simp at h; omega) (by simpa using hb)]
      split <;> rfl

theorem unhex_good : ∀ (n : Nat) (l : List UInt8), l.length = 2 * n → (∀ k, k < 2 * n → hv ((l.getD k 0).toNat : Int) ≤ 15) →
    unhex l = some ((List.range n).map fun j => 16 * hv ((l.getD (2 * j) 0).toNat : Int) + hv ((l.getD (2 * j + 1) 0).toNat : Int))
  | 0, l, h, _ => by
    have : l = [] := List.eq_nil_of_length_eq_zero (by omega)
    subst this
    rfl
  | n + 1, l, h, hall => by
    match l, h, hall with
    | a :: b :: t, h, hall =>
      have h0 := hall 0 (by omega)
      have h1 := hall 1 (by omega)
      simp only [List.getD_cons_zero, List.getD_cons_succ] at h0 h1
      rw [unhex, if_neg (by omega), unhex_good n t (by simp at h; omega) (fun k hk => by
        have := hall (k + 2) (by omega)
        simpa using this)]
      rw [List.range_succ_eq_map]
      simp [Function.comp_def, Nat.mul_add]

theorem ir_high (r : Int) (h : 128 ≤ r) (w : World) :
    Calls Try.prog 71 #[.string hexC, .int .i32 r] w fun e w' => e = .returned (.int .i64 (-1)) ∧ Below w.heap.size w w' := by
  by_cases h1 : r = 65533
  · subst h1
    exact ir_error w
  · by_cases hv : (0 ≤ r ∧ r < 55296) ∨ (57343 < r ∧ r ≤ 1114111)
    · have hval : Utf8.valid r = true := by rw [validRune_eq]; exact decide_eq_true hv
      obtain ⟨e1, e2, e3⟩ := encode_facts r hval h
      obtain ⟨rs, he⟩ : ∃ rs, Utf8.encode r = rs := ⟨_, rfl⟩
      rw [he] at e1 e2
      have e4 : ∀ hl : rs.size - 1 < rs.size, 128 ≤ (rs[rs.size - 1]'hl).toNat := by subst he; exact e3
      by_cases s2 : rs.size = 2
      · refine ir_default2 r rs h h1 hv he s2 ?_ w
        have := e4 (by omega)
        simp only [s2] at this
        exact this
      · by_cases s3 : rs.size = 3
        · refine ir_default3 r rs h h1 hv he s3 ?_ w
          have := e4 (by omega)
          simp only [s3] at this
          exact this
        · have s4 : rs.size = 4 := by omega
          refine ir_default4 r rs h h1 hv he s4 ?_ w
          have := e4 (by omega)
          simp only [s4] at this
          exact this
    · exact ir_invalid r h h1 hv w

theorem implGH_odd (s : ByteArray) (h : s.size % 2 = 1) (hs : s.size ≤ 1048576) (w : World) :
    Calls Try.prog 20 #[.string s] w fun e w' => e = .returned (ghV none) ∧ Below w.heap.size w w' := by
  unfold ghV
  have h2 : ((s.size : Int) % 2 == 0) = false := by rw [beq_eq_false_iff_ne]; omega
  have h2' : ((s.size : Int) % 2 != 0) = true := by rw [bne_iff_ne]; omega
  have h3 : (s.size : Int) ≤ 4294967296 := by omega
  clear h
  go_enter Try.func20, Try.ntmps20
  go_wp2
  go_ret2
  exact ⟨rfl, Below.refl _ _⟩

set_option maxRecDepth 100000 in
set_option maxHeartbeats 1000000 in
theorem implGH_even (s : ByteArray) (n : Nat) (h : s.size = 2 * n) (hs : s.size ≤ 1048576) (w : World) :
    Calls Try.prog 20 #[.string s] w fun e w' => e = .returned (ghV (unhex s.data.toList)) ∧ Below w.heap.size w w' := by
  obtain ⟨i0, hi0, hz0, hz1, hz2⟩ := info_parts Try.infoU8
  have hmk : ∀ W : World, (Instr.makeSlice 22 (.int .i64 (n : Int)) (.int .i64 (n : Int))).run Try.prog W = .ok (.slice (some ⟨W.heap.size, 0, none⟩) n n) (W.alloc (.cells (cellsAt s n 0) 5)) := by
    intro W
    rw [run_make W 22 5 i0 _ Try.underlying22 hi0 hz0 .i64 .i64 (n : Int) (n : Int) (by omega) (by omega) (by rw [hz2]; omega) (by omega), hz1, ← cellsAt_zero]
    simp [Value.cells]
  have h2 : ((s.size : Int) % 2 == 0) = true := by rw [beq_iff_eq]; omega
  have h2' : ((s.size : Int) % 2 != 0) = false := by rw [bne_eq_false_iff_eq]; omega
  have h3 : (s.size : Int) / 2 = (n : Int) := by omega
  have h4 : (s.size : Int) ≤ 4294967296 := by omega
  have HN := Lib.hid h
  clear h hi0 hz0 hz1 hz2
  go_enter Try.func20, Try.ntmps20
  go_wp2_with fail
  clear hmk h2 h2' h3
  go_loopg [] s.size (fun gf wz => ∃ pos : Nat, wz = (w.alloc (.cells (cellsAt s n pos) 5)).alloc (.stringIter s pos) ∧ pos ≤ s.size ∧ s.size ≤ pos + gf ∧ Hid (∀ k, k < pos → hq s k ≤ 15))
  case atStart => exact ⟨0, rfl, by omega, by omega, Lib.hid (fun k hk => by omega)⟩
  case round =>
    obtain ⟨pos, rfl, hps, hfu, hall⟩ := hrel
    by_cases hlt : pos < s.size
    · obtain ⟨g', rfl⟩ : ∃ g', gk = g' + 1 := ⟨gk - 1, by omega⟩
      have hqe : hq s pos = hv ((s[pos]'hlt).toNat : Int) := by
        have hl : pos < s.data.toList.length := by simpa using hlt
        unfold hq
        rw [List.getD_eq_getElem?_getD, List.getElem?_eq_getElem hl]
        rfl
      by_cases ha : (s[pos]'hlt).toNat < 128
      · have hnx : ∀ ty, (Instr.next (.pointer (some ⟨w.heap.size + 1, 0, none⟩)) true ty).run Try.prog ((w.alloc (.cells (cellsAt s n pos) 5)).alloc (.stringIter s pos)) = .ok (.tuple #[.bool true, .int .i64 pos, .int .i32 ((s[pos]'hlt).toNat : Int)]) ((w.alloc (.cells (cellsAt s n pos) 5)).alloc (.stringIter s (pos + 1))) := fun ty => by
          have := run_next_ascii (P := Try.prog) (w.alloc (.cells (cellsAt s n pos) 5)) s pos ty hlt ha
          simpa [World.iter] using this
        obtain ⟨c, hc⟩ : ∃ c : Int, (((s[pos]'hlt).toNat : Nat) : Int) = c := ⟨_, rfl⟩
        rw [hc] at hnx hqe
        have CR : Hid (∀ W : World, Calls Try.prog 71 #[.string hexC, .int .i32 c] W fun e w' => e = .returned (.int .i64 (hix c)) ∧ W = w') := Lib.hid (fun W => ir_ascii c (by omega) (by omega) W)
        unfold hexC at CR
        have hvb := hv_bd c
        by_cases hg : hv c ≤ 15
        · have hx : hix c = hv c := by unfold hix; rw [if_pos hg]
          rw [hx] at CR
          have hall2 : ∀ k, k < pos + 1 → hq s k ≤ 15 := by
            intro k hk
            by_cases e : k = pos
            · subst e
              omega
            · exact hall.out k (by omega)
          have HALL := Lib.hid hall2
          have hfs := FB_small s pos hall.out
          have hst := cellsAt_step s n pos
          have hn2 : pos / 2 < n := by have := HN.out; omega
          have hcg := cellsAt_get s n pos (pos / 2) hn2
          rw [hqe] at hst
          obtain ⟨k, hk⟩ : ∃ k, pos / 2 = k := ⟨_, rfl⟩
          have hki : (pos : Int) / 2 = (k : Int) := by omega
          rw [hk] at hst hcg hfs hn2
          obtain ⟨x, hxe⟩ : ∃ x, FB s pos k = x := ⟨_, rfl⟩
          obtain ⟨y, hye⟩ : ∃ y, hv c = y := ⟨_, rfl⟩
          rw [hxe] at hst hcg hfs
          rw [hye] at hst CR hvb hg
          have hor : bits .or .u8 (x * 16 % 256) y = 16 * x + y := by rw [show x * 16 % 256 = 16 * x by omega]; exact or_at x y hfs.1 hfs.2 hvb.1 hg
          have hor2 : bits .or .u8 (x * 16) y = 16 * x + y := by rw [Int.mul_comm]; exact or_at x y hfs.1 hfs.2 hvb.1 hg
          have hyw : IntKind.u8.wrap y = y := IntWalk.u8_in _ (by omega)
          have hy0 : ¬ y < 0 := by omega
          have hcell : ((w.alloc (.cells (cellsAt s n pos) 5)).alloc (.stringIter s (pos + 1))).cell? ⟨w.heap.size, k, none⟩ = some (.int .u8 x) := by
            simpa using hcg
          have HST := Lib.hid hst
          clear hst hcg hc ha hqe hall2 hall hx hxe hye hk hvb hg hfs
          go_wp2_with (go_at_call 71; (with_reducible refine (CR.out _).mono ?_); rintro e wx ⟨rfl, rfl⟩)
          go_roundg g'
          case measure => omega
          case rel => exact ⟨pos + 1, by rw [← HST.out], by omega, by omega, HALL⟩
        · have hx : hix c = -1 := by unfold hix; rw [if_neg hg]
          rw [hx] at CR
          have hnone : unhex s.data.toList = none := unhex_bad s.data.toList pos (by simpa using hlt) (by have := hqe; unfold hq at this; omega)
          have HNO := Lib.hid hnone
          clear hnone hc ha hqe hall hvb hg hx
          go_wp2_with (go_at_call 71; (with_reducible refine (CR.out _).mono ?_); rintro e wx ⟨rfl, rfl⟩)
          go_ret2
          exact ⟨by rw [HNO.out]; rfl, below2 _ _ _⟩
      · have hnx : ∀ ty, (Instr.next (.pointer (some ⟨w.heap.size + 1, 0, none⟩)) true ty).run Try.prog ((w.alloc (.cells (cellsAt s n pos) 5)).alloc (.stringIter s pos)) = .ok (.tuple #[.bool true, .int .i64 pos, .int .i32 (Utf8.decode s pos).1]) ((w.alloc (.cells (cellsAt s n pos) 5)).alloc (.stringIter s (pos + (Utf8.decode s pos).2))) := fun ty => by
          have := run_next_any (P := Try.prog) (w.alloc (.cells (cellsAt s n pos) 5)) s pos ty hlt
          simpa [World.iter] using this
        have hR1 := (decode_high s pos hlt (by omega)).1
        generalize (Utf8.decode s pos).1 = R at *
        have CR : Hid (∀ W : World, Calls Try.prog 71 #[.string hexC, .int .i32 (R : Int)] W fun e w' => e = .returned (.int .i64 (-1)) ∧ Below W.heap.size W w') := Lib.hid (fun W => ir_high (R : Int) (by omega) W)
        unfold hexC at CR
        have hnone : unhex s.data.toList = none := unhex_bad s.data.toList pos (by simpa using hlt) (by
          have h1 := hqe
          unfold hq at h1
          rw [h1]
          unfold hv
          rw [if_neg (by omega), if_neg (by omega)]
          omega)
        have HNO := Lib.hid hnone
        clear hnone ha hqe hall hR1
        go_wp2_with (go_at_call 71; (with_reducible refine (CR.out _).mono ?_); rintro e wx ⟨rfl, hbx⟩)
        go_ret2
        exact ⟨by rw [HNO.out]; rfl, bchain (below2 _ _ _) hbx (by simp; omega)⟩
    · obtain rfl : pos = s.size := by omega
      have hnx : ∀ ty, (Instr.next (.pointer (some ⟨w.heap.size + 1, 0, none⟩)) true ty).run Try.prog ((w.alloc (.cells (cellsAt s n s.size) 5)).alloc (.stringIter s s.size)) = .ok (.tuple #[.bool false]) ((w.alloc (.cells (cellsAt s n s.size) 5)).alloc (.stringIter s s.size)) := fun ty => by
        have := run_next_end (P := Try.prog) (w.alloc (.cells (cellsAt s n s.size) 5)) s s.size ty hlt
        simpa [World.iter] using this
      have hsome : unhex s.data.toList = some ((List.range n).map fun j => FB s s.size j) := by
        rw [unhex_good n s.data.toList (by rw [← HN.out]; rfl) (fun k hk => hall.out k (by have := HN.out; omega))]
        congr 1
        apply List.map_congr_left
        intro j hj
        have hj2 : j < n := by simpa using hj
        unfold FB hq
        rw [if_pos (by have := HN.out; omega)]
      have hcv := run_convert_bytes_arg (P := Try.prog) ((w.alloc (.cells (cellsAt s n s.size) 5)).alloc (.stringIter s s.size)) 22 5 Try.underlying22 Try.underlying5 w.heap.size 0 n n ((List.range n).map fun j => FB s s.size j) (by simp) (fun i hi => by
        have hin : i < n := by simpa using hi
        have h1 := cellsAt_get s n s.size i hin
        simpa [hin] using h1) 9 Try.underlying9
      have HSO := Lib.hid hsome
      clear hsome hall
      go_wp2_with fail
      go_ret2
      exact ⟨by rw [HSO.out]; rfl, below2 _ _ _⟩

end Go.Proofs.Ythdnklhaagofhaa
