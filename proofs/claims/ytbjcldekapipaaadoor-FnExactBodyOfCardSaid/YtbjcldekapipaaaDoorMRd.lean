/-
  InsP, RdB, RdI: in one text.
-/
import Derived.Test.YtbjcldekapipaaaDoorInsBy
import Derived.Test.YtbjcldekapipaaaDoorLebBk
import Derived.Lib.Agree
import Derived.Test.YtbjcldekapipaaaDoorGetFix
import Derived.Deep.RegionHeld3
namespace Go.Proofs.YtbjcldekapipaaaDoor
open Go.ChangeShapes Go.WideShapes Go.ChangeAt Go.RowKit

/-- A string is an instruction's bytes and more. -/
def IsIns (s : ByteArray) (op a : Int) (r : ByteArray) : Prop := insV op a = true ∧ s = insBy op a ++ r

theorem app_left (A r : ByteArray) : (A ++ r).extract 0 A.size = A := by
  refine ByteArray.ext ?_
  refine Array.toList_inj.mp ?_
  rw [extract_data', ByteArray.data_append, Array.toList_append]
  have e : A.size = A.data.toList.length := by simp
  simp only [List.drop_zero, Nat.sub_zero]
  rw [e, List.take_left]
theorem app_right (A r : ByteArray) : (A ++ r).extract A.size (A ++ r).size = r := by
  refine ByteArray.ext ?_
  refine Array.toList_inj.mp ?_
  rw [extract_data', ByteArray.data_append, Array.toList_append]
  have e : A.size = A.data.toList.length := by simp
  have e2 : (A ++ r).size - A.size = r.data.toList.length := by
    rw [ByteArray.size_append]
    simp
  rw [e2, e, List.drop_left, List.take_length]
theorem ext_split (s : ByteArray) (m : Nat) : s = s.extract 0 m ++ s.extract m s.size := by
  refine ByteArray.ext ?_
  refine Array.toList_inj.mp ?_
  rw [ByteArray.data_append, Array.toList_append, extract_data', extract_data']
  have e : s.size = s.data.toList.length := by simp
  rw [Nat.sub_zero, List.drop_zero, e]
  have e2 : (s.data.toList.drop m).take (s.data.toList.length - m) = s.data.toList.drop m := List.take_of_length_le (by rw [List.length_drop]; exact Nat.le_refl _)
  rw [e2, List.take_append_drop]
theorem ext_size (s : ByteArray) (m n : Nat) (h : n ≤ s.size) : (s.extract m n).size = n - m := by
  rw [ByteArray.size_extract]
  omega

theorem fix1_head (op : Int) (h0 : 0 ≤ op) (h1 : op < 256) : fixl op 1 = [op] := by
  simp only [fixl, List.nil_append, Int.pow_zero, Int.ediv_one]
  rw [Int.emod_eq_of_lt h0 (by omega)]

/-- The first byte. -/
theorem head_op {F S : ByteArray} {op : Int} (h0 : 0 ≤ op) (h1 : op < 256) (hF : F = strOfNums (fixl op 1)) :
    ∃ h : 0 < (F ++ S).size, (((F ++ S)[0]'h).toNat : Int) = op ∧ (F ++ S).extract 1 (F ++ S).size = S := by
  have hz : F.size = 1 := by rw [hF, strOfNums_size, fixl_length]
  have hl : 0 < (F ++ S).size := by rw [ByteArray.size_append]; omega
  refine ⟨hl, ?_, ?_⟩
  · rw [← nums_getD (F ++ S) 0 hl, nums_app7K, hF, fix1_head op h0 h1, nums_of7K [op] (by intro n hn; simp at hn; omega)]
    rfl
  · have := app_right F S
    rw [hz] at this
    exact this

theorem insBy_pos (op a : Int) : 0 < (insBy op a).size := by
  unfold insBy
  split
  · rw [ByteArray.size_append, fix1_size]; omega
  · rw [fix1_size]; omega
theorem insBy_le (op a : Int) (ha0 : -9223372036854775808 ≤ a) (ha1 : a ≤ 9223372036854775807) : (insBy op a).size ≤ 11 := by
  unfold insBy
  split
  · rw [ByteArray.size_append, fix1_size]
    split
    · have := sleb_size a ha0 ha1; omega
    · have := uleb_size a.toNat (by omega); omega
  · rw [fix1_size]; omega
theorem insR_bd (op : Int) : -9223372036854775808 ≤ (insR op).1 ∧ (insR op).2.1 ≤ 9223372036854775807 := by
  unfold insR
  repeat' split
  all_goals simp
theorem insV_bd {op a : Int} (h : insV op a = true) : -9223372036854775808 ≤ a ∧ a ≤ 9223372036854775807 := by
  have h1 := insV_op h
  have h2 := insR_bd op
  omega
theorem insV_none {op a : Int} (h : insV op a = true) (hb : (insR op).2.2 = false) : a = 0 := by
  have h1 := insV_op h
  have h2 := insR_hasB op
  rw [hb] at h2
  by_cases e : (insR op).1 ≠ 0 ∨ (insR op).2.1 ≠ 0
  · exact absurd (h2.mpr e) (by simp)
  · omega
end Go.Proofs.YtbjcldekapipaaaDoor

namespace Go.Proofs.YtbjcldekapipaaaDoor
open Go.ChangeShapes Go.WideShapes Go.ChangeAt Go.RowKit

/-- A reader in block B: what it has not read yet. -/
def Rd (W : World) (B : Nat) (t : ByteArray) : Prop := W.cell? ⟨B, 0, none⟩ = some (.string t) ∧ W.frozen? ⟨B, 0, none⟩ = false
/-- All but block B stays. -/
def KeepR (B : Nat) (W W' : World) : Prop := Below B W W' ∧ W.heap.size ≤ W'.heap.size ∧ ∀ k, k ≠ B → k < W.heap.size → W'.heap[k]? = W.heap[k]?
theorem KeepR.refl (B : Nat) (W : World) : KeepR B W W := ⟨Below.refl _ _, Nat.le_refl _, fun _ _ _ => rfl⟩
theorem KeepR.trans {B : Nat} {a b c : World} (h : KeepR B a b) (k : KeepR B b c) : KeepR B a c :=
  ⟨h.1.trans k.1, Nat.le_trans h.2.1 k.2.1, fun i hi hl => (k.2.2 i hi (by have := h.2.1; omega)).trans (h.2.2 i hi hl)⟩
theorem KeepR.drewN {B : Nat} {a b : World} (h : KeepR B a b) (n : Nat) : KeepR B a (b.drewN n) := ⟨⟨h.1.os, h.1.tape, h.1.output, h.1.size, h.1.block⟩, h.2.1, h.2.2⟩
theorem KeepR.drew {B : Nat} {a b : World} (h : KeepR B a b) : KeepR B a b.drew := h.drewN 1
theorem KeepR.below {B : Nat} {a b c : World} (h : KeepR B a b) (hb : Below b.heap.size b c) (hB : B ≤ b.heap.size) : KeepR B a c :=
  ⟨h.1.trans (hb.mono hB), Nat.le_trans h.2.1 hb.size, fun i hi hl => (hb.block i (by have := h.2.1; omega)).trans (h.2.2 i hi hl)⟩
theorem KeepR.setCell {B : Nat} {a b : World} (h : KeepR B a b) (o : Nat) (v : Value) : KeepR B a (b.setCell ⟨B, o, none⟩ v) :=
  ⟨h.1.setCell (Nat.le_refl _) v, by simpa [World.setCell] using h.2.1, fun k hk hl => by rw [Below.heap_setCell _ _ _ _ (fun e => hk e)]; exact h.2.2 k hk hl⟩
theorem KeepR.below0 {W W1 W2 : World} {B : Nat} (h1 : Below W.heap.size W W1) (h2 : KeepR B W1 W2) (hB : W.heap.size ≤ B) : Below W.heap.size W W2 := h1.trans (h2.1.mono hB)
theorem KeepR.cell {B : Nat} {a b : World} (h : KeepR B a b) {x : Addr} {v : Value} (hx : x.block ≠ B) (hv : a.cell? x = some v) : b.cell? x = some v := by
  have hl : x.block < a.heap.size := World.block_lt_of_cell? a _ hv
  have e := h.2.2 x.block hx hl
  simp only [World.cell?, e]
  exact hv
theorem Rd.lt {W : World} {B : Nat} {t : ByteArray} (h : Rd W B t) : B < W.heap.size := World.block_lt_of_cell? W _ h.1
theorem Rd.drewN {W : World} {B : Nat} {t : ByteArray} (h : Rd W B t) (n : Nat) : Rd (W.drewN n) B t := h
theorem Rd.below {W W' : World} {B : Nat} {t : ByteArray} (h : Rd W B t) (hb : Below W.heap.size W W') : Rd W' B t :=
  ⟨keepCell hb h.1, by rw [hb.frozen (p := ⟨B, 0, none⟩) h.lt]; exact h.2⟩
theorem Rd.set {W : World} {B : Nat} {t : ByteArray} (h : Rd W B t) (u : ByteArray) : Rd (W.setCell ⟨B, 0, none⟩ (.string u)) B u :=
  ⟨World.cell?_setCell_same _ _ _ h.1, by simpa using h.2⟩

theorem take_strK (s : ByteArray) (m : Nat) : strOfNums ((nums s).take m) = s.extract 0 m := by
  refine ByteArray.ext ?_
  refine Array.toList_inj.mp ?_
  rw [strOfNums_data, extract_data']
  simp only [List.drop_zero, Nat.sub_zero]
  rw [nums, ← List.map_take, List.map_map]
  conv => rhs; rw [← List.map_id' (s.data.toList.take m)]
  apply List.map_congr_left
  intro b _
  simp
theorem pass_any (B : Nat) (t : ByteArray) (m : Nat) (hm : m ≤ t.size) (W : World) (h : Rd W B t) :
    Calls Tryd.prog 69 #[.pointer (some ⟨B, 0, none⟩), .int .i64 m] W fun e w' => e = .returned (.string (t.extract 0 m)) ∧ Rd w' B (t.extract m t.size) ∧ KeepR B W w' := by
  have h0 := h.1
  have h1 := h.2
  have HH := Lib.hid h
  have hmi : (m : Int) ≤ (t.size : Int) := by omega
  clear h
  go_enter Tryd.func69, Tryd.ntmps69
  go_wp2_with fail
  go_ret
  exact ⟨rfl, HH.out.set _, (KeepR.refl _ _).setCell 0 _⟩

/-- The first byte, or nought. -/
def byte0 (t : ByteArray) : Int := if h : 0 < t.size then ((t[0]'h).toNat : Int) else 0
theorem byte0_bd (t : ByteArray) : 0 ≤ byte0 t ∧ byte0 t < 256 := by
  unfold byte0
  split
  · rename_i h
    have := (t[0]'h).toNat_lt
    omega
  · omega
theorem fix_byte0 (t : ByteArray) : wrap64 (fixv (nums (t.extract 0 (min 1 t.size)))) = byte0 t := by
  by_cases h : 0 < t.size
  · have e : min 1 t.size = 1 := by omega
    rw [e, ← take_strK t 1]
    have e2 : (nums t).take 1 = [((t[0]'h).toNat : Int)] := by
      have := nums_take_snoc t 0 h
      rw [List.take_zero] at this
      exact this
    have hb := (t[0]'h).toNat_lt
    rw [e2, nums_of7K _ (by intro n hn; simp at hn; omega)]
    unfold byte0
    rw [dif_pos h]
    simp only [fixv]
    unfold wrap64
    omega
  · have e : t.extract 0 (min 1 t.size) = ⟨#[]⟩ := by
      apply ByteArray.ext
      apply Array.toList_inj.mp
      rw [extract_data', List.take_of_length_le]
      · have e2 : min 1 t.size - 0 = 0 := by omega
        have : t.data.toList = [] := by
          apply List.eq_nil_of_length_eq_zero
          have e3 : t.data.toList.length = t.size := by simp
          omega
        rw [this]
        rfl
      · rw [List.length_drop]
        have e3 : t.data.toList.length = t.size := by simp
        omega
    rw [e]
    unfold byte0
    rw [dif_neg h]
    have hn : nums (⟨#[]⟩ : ByteArray) = [] := rfl
    rw [hn]
    simp [fixv, wrap64]

theorem readByte_any (B : Nat) (t : ByteArray) (W : World) (h : Rd W B t) :
    Calls Tryd.prog 67 #[.pointer (some ⟨B, 0, none⟩)] W fun e w' => e = .returned (.int .i64 (byte0 t)) ∧ Rd w' B (t.extract (min 1 t.size) t.size) ∧ KeepR B W w' := by
  have CP := Lib.hid (fun W hr => pass_any B t (min 1 t.size) (by omega) W hr)
  have CG := Lib.hid (fun W => implGetFix_any (t.extract 0 (min 1 t.size)) W (by rw [ext_size _ _ _ (by omega)]; omega))
  rw [fix_byte0] at CG
  have h0 := h.1
  have HH := Lib.hid h
  clear h
  generalize byte0 t = b at *
  by_cases h1 : 0 < t.size
  · have e : min 1 t.size = 1 := by omega
    have hc : ¬ ((t.size : Int) < 1) := by omega
    rw [e] at CP CG ⊢
    clear e h1
    go_enter Tryd.func67, Tryd.ntmps67
    go_wp2_with (first
      | (go_at_call 69; refine (CP.out _ HH.out).mono ?_; rintro e w1 ⟨rfl, hr1, hk1⟩; have HR1 := Lib.hid hr1; have HK1 := Lib.hid hk1; clear hr1 hk1)
      | (go_at_call 79; refine (CG.out _).mono ?_; rintro e w2 ⟨rfl, hb2⟩; have HR2 := Lib.hid (HR1.out.below hb2); have HK2 := Lib.hid (HK1.out.below hb2 (Nat.le_of_lt HR1.out.lt)); clear hb2))
    go_ret
    exact ⟨rfl, HR2.out, HK2.out⟩
  · have e : min 1 t.size = t.size := by omega
    have hc : ((t.size : Int) < 1) := by omega
    rw [e] at CP CG ⊢
    clear e h1
    obtain ⟨m, hm⟩ : ∃ m, t.size = m := ⟨_, rfl⟩
    rw [hm] at CP CG hc ⊢
    go_enter Tryd.func67, Tryd.ntmps67
    go_wp2_with (first
      | (go_at_call 69; refine (CP.out _ HH.out).mono ?_; rintro e w1 ⟨rfl, hr1, hk1⟩; have HR1 := Lib.hid hr1; have HK1 := Lib.hid hk1; clear hr1 hk1)
      | (go_at_call 79; refine (CG.out _).mono ?_; rintro e w2 ⟨rfl, hb2⟩; have HR2 := Lib.hid (HR1.out.below hb2); have HK2 := Lib.hid (HK1.out.below hb2 (Nat.le_of_lt HR1.out.lt)); clear hb2))
    go_ret
    exact ⟨rfl, HR2.out, HK2.out⟩

theorem readLeb_any (B : Nat) (t : ByteArray) (x : Int) (m : Nat) (ok : Bool) (hm : m ≤ t.size) (hC : ∀ W, Calls Tryd.prog 83 #[.string t] W fun e w' => e = .returned (.tuple #[.int .i64 x, .int .i64 m, .bool ok]) ∧ Below W.heap.size W w') (W : World) (h : Rd W B t) :
    Calls Tryd.prog 70 #[.pointer (some ⟨B, 0, none⟩)] W fun e w' => e = .returned (.int .i64 x) ∧ Rd w' B (t.extract m t.size) ∧ KeepR B W w' := by
  have CP := Lib.hid (fun W hr => pass_any B t m hm W hr)
  have CG := Lib.hid hC
  have h0 := h.1
  have HH := Lib.hid h
  have hlt := h.lt
  clear h hC hm
  go_enter Tryd.func70, Tryd.ntmps70
  go_wp2_with (first
    | (go_at_call 83; refine (CG.out _).mono ?_; rintro e w1 ⟨rfl, hb1⟩; have HR1 := Lib.hid (HH.out.below hb1); have HK1 := Lib.hid ((KeepR.refl B W).below hb1 (Nat.le_of_lt hlt)); clear hb1)
    | (go_at_call 69; refine (CP.out _ HR1.out).mono ?_; rintro e w2 ⟨rfl, hr2, hk2⟩; have HR2 := Lib.hid hr2; have HK2 := Lib.hid (HK1.out.trans hk2); clear hr2 hk2))
  go_ret
  exact ⟨rfl, HR2.out, HK2.out⟩
end Go.Proofs.YtbjcldekapipaaaDoor

namespace Go.Proofs.YtbjcldekapipaaaDoor
open Go.ChangeShapes Go.WideShapes Go.ChangeAt Go.RowKit

/-- A block of two cells of one's own. -/
def Y2 (W : World) (B : Nat) (u v : Value) : Prop := W.cell? ⟨B, 0, none⟩ = some u ∧ W.cell? ⟨B, 1, none⟩ = some v ∧ (∀ o, W.frozen? ⟨B, o, none⟩ = false) ∧ B < W.heap.size
theorem Y2.new (w : World) (u v : Value) (t : TypeId) : Y2 (w.alloc (.cells #[u, v] t)) w.heap.size u v := ⟨by go_simp, by go_simp, fun o => by go_simp, by go_simp⟩
theorem Y2.keep {W W' : World} {B : Nat} {u v : Value} (h : Y2 W B u v) (hb : Below W.heap.size W W') : Y2 W' B u v :=
  ⟨keepCell hb h.1, keepCell hb h.2.1, fun o => (hb.frozen (p := ⟨B, o, none⟩) h.2.2.2).trans (h.2.2.1 o), by have := hb.size; have := h.2.2.2; omega⟩
theorem Y2.keepR {W W' : World} {B C : Nat} {u v : Value} (h : Y2 W B u v) (hb : KeepR C W W') (hn : B ≠ C) : Y2 W' B u v := by
  have e := hb.2.2 B hn h.2.2.2
  refine ⟨hb.cell hn h.1, hb.cell hn h.2.1, fun o => ?_, by have := hb.2.1; have := h.2.2.2; omega⟩
  have := h.2.2.1 o
  simp only [World.frozen?] at this ⊢
  rw [e]
  exact this
theorem Y2.alloc {W : World} {B : Nat} {u v : Value} (h : Y2 W B u v) (o : Obj) : Y2 (W.alloc o) B u v := h.keep ((Below.refl _ _).alloc (Nat.le_refl _) o)
/-- Stores into a block behind the first world's. -/
theorem KeepR.set2 {B : Nat} {a b : World} (h : KeepR B a b) {C : Nat} (hC : a.heap.size ≤ C) (hB : B < a.heap.size) (u v : Value) : KeepR B a ((b.setCell ⟨C, 0, none⟩ u).setCell ⟨C, 1, none⟩ v) := by
  refine ⟨(h.1.setCell (by simp; omega) u).setCell (by simp; omega) v, by simpa [World.setCell] using h.2.1, fun k hk hl => ?_⟩
  rw [Below.heap_setCell _ _ _ _ (by simp; omega), Below.heap_setCell _ _ _ _ (by simp; omega)]
  exact h.2.2 k hk hl
theorem Rd.set2 {W : World} {B : Nat} {t : ByteArray} (h : Rd W B t) {C : Nat} (hC : B ≠ C) (u v : Value) : Rd ((W.setCell ⟨C, 0, none⟩ u).setCell ⟨C, 1, none⟩ v) B t := by
  refine ⟨?_, ?_⟩
  · rw [World.cell?_setCell_other _ _ _ _ (by first | (simp; done) | (simp; omega)), World.cell?_setCell_other _ _ _ _ (by first | (simp; done) | (simp; omega))]
    exact h.1
  · simpa using h.2

theorem IsIns.cut {t r : ByteArray} {op a : Int} (h : IsIns t op a r) : byte0 t = op ∧ 1 ≤ t.size ∧
    ((insR op).2.2 = false → a = 0 ∧ t.extract 1 t.size = r) ∧
    ((insR op).2.2 = true → t.extract 1 t.size = (if op = 1 then strOfNums (lebS a) else strOfNums (lebU a.toNat)) ++ r) := by
  obtain ⟨hv, rfl⟩ := h
  have ho := insV_op hv
  have key : ∀ S : ByteArray, byte0 (strOfNums (fixl op 1) ++ S) = op ∧ 1 ≤ (strOfNums (fixl op 1) ++ S).size ∧ (strOfNums (fixl op 1) ++ S).extract 1 (strOfNums (fixl op 1) ++ S).size = S := by
    intro S
    obtain ⟨hl, h1, h2⟩ := head_op (F := strOfNums (fixl op 1)) (S := S) (op := op) (by omega) (by omega) rfl
    refine ⟨?_, hl, h2⟩
    unfold byte0
    rw [dif_pos hl]
    exact h1
  cases hb : (insR op).2.2 with
  | false =>
    have e : insBy op a = strOfNums (fixl op 1) := by unfold insBy; rw [hb]; simp
    rw [e]
    obtain ⟨k1, k2, k3⟩ := key r
    exact ⟨k1, k2, fun _ => ⟨insV_none hv hb, k3⟩, fun h => by cases h⟩
  | true =>
    have e : insBy op a = strOfNums (fixl op 1) ++ (if op = 1 then strOfNums (lebS a) else strOfNums (lebU a.toNat)) := by unfold insBy; rw [hb]; simp
    rw [e, ByteArray.append_assoc]
    obtain ⟨k1, k2, k3⟩ := key ((if op = 1 then strOfNums (lebS a) else strOfNums (lebU a.toNat)) ++ r)
    exact ⟨k1, k2, fun h => (by cases h), fun _ => k3⟩

theorem noInit_sleb : Tryd.prog.inits.idxOf? 68 = none := by kernel_rfl
theorem noInit_leb : Tryd.prog.inits.idxOf? 83 = none := by kernel_rfl

theorem sleb_at (t : ByteArray) (hz : t.size ≤ 1048576) : ∃ (x : Int) (m : Nat) (ok : Bool), (-9223372036854775808 ≤ x ∧ x ≤ 9223372036854775807 ∧ m ≤ t.size) ∧ (∀ (a : Int) (r : ByteArray), -9223372036854775808 ≤ a → a ≤ 9223372036854775807 → t = strOfNums (lebS a) ++ r → x = a ∧ m = (strOfNums (lebS a)).size ∧ ok = true) ∧
    (∀ W, Calls Tryd.prog 68 #[.string t] W fun e w' => e = .returned (.tuple #[.int .i64 x, .int .i64 m, .bool ok]) ∧ Below W.heap.size W w') ∧
    (∀ W, Calls Tryd.prog 46 #[.string t] W fun e w' => e = .returned (.tuple #[.int .i64 x, .int .i64 m, .bool ok]) ∧ Below W.heap.size W w') := by
  obtain ⟨x, y, ok, ⟨h0, h1, h2, h3⟩, hs, hi⟩ := getSleb_bothK t (by omega)
  obtain ⟨m, rfl⟩ : ∃ m : Nat, y = m := ⟨y.toNat, by omega⟩
  refine ⟨x, m, ok, ⟨h0, h1, by omega⟩, fun a r a0 a1 e => ?_, hi, hs⟩
  have hr : r.size ≤ 2000000 := by
    have := congrArg ByteArray.size e
    rw [ByteArray.size_append] at this
    omega
  have hk := Lib.agree noInit_sleb (hi default) (by rw [e]; exact getSleb_backK a a0 a1 r hr default)
  injection hk with hk
  have k0 := congrArg (fun z => z[0]?) hk
  have k1 := congrArg (fun z => z[1]?) hk
  have k2 := congrArg (fun z => z[2]?) hk
  simp at k0 k1 k2
  rw [strOfNums_size]
  exact ⟨k0, by omega, k2⟩
theorem leb_at (t : ByteArray) (hz : t.size ≤ 1048576) : ∃ (x : Int) (m : Nat) (ok : Bool), (0 ≤ x ∧ x ≤ 9223372036854775807 ∧ m ≤ t.size) ∧ (∀ (a : Nat) (r : ByteArray), (a : Int) ≤ 9223372036854775807 → t = strOfNums (lebU a) ++ r → x = a ∧ m = (strOfNums (lebU a)).size ∧ ok = true) ∧
    (∀ W, Calls Tryd.prog 83 #[.string t] W fun e w' => e = .returned (.tuple #[.int .i64 x, .int .i64 m, .bool ok]) ∧ Below W.heap.size W w') ∧
    (∀ W, Calls Tryd.prog 47 #[.string t] W fun e w' => e = .returned (.tuple #[.int .i64 x, .int .i64 m, .bool ok]) ∧ Below W.heap.size W w') := by
  obtain ⟨x, y, ok, ⟨h0, h1, h2, h3⟩, hs, hi⟩ := getLeb_both t (by omega)
  obtain ⟨m, rfl⟩ : ∃ m : Nat, y = m := ⟨y.toNat, by omega⟩
  refine ⟨x, m, ok, ⟨h0, h1, by omega⟩, fun a r a1 e => ?_, hi, hs⟩
  have hr : r.size ≤ 2000000 := by
    have := congrArg ByteArray.size e
    rw [ByteArray.size_append] at this
    omega
  have hk := Lib.agree noInit_leb (hi default) (by rw [e]; exact getLeb_backK a a1 r hr default)
  injection hk with hk
  have k0 := congrArg (fun z => z[0]?) hk
  have k1 := congrArg (fun z => z[1]?) hk
  have k2 := congrArg (fun z => z[2]?) hk
  simp at k0 k1 k2
  rw [strOfNums_size]
  exact ⟨k0, by omega, k2⟩

/-- What readIns leaves. -/
def InsRd (B : Nat) (o a : Int) (u : ByteArray) (W : World) (e : Ending) (w' : World) : Prop := e = .returned (.agg #[.int .i64 o, .int .i64 a]) ∧ Rd w' B u ∧ KeepR B W w'

set_option maxHeartbeats 1000000 in
theorem readIns_none (B : Nat) (t : ByteArray) (hb : (insR (byte0 t)).2.2 = false) (W : World) (h : Rd W B t) :
    Calls Tryd.prog 48 #[.pointer (some ⟨B, 0, none⟩)] W (InsRd B (byte0 t) 0 (t.extract (min 1 t.size) t.size) W) := by
  have CB := Lib.hid (fun W hr => readByte_any B t W hr)
  have CH := Lib.hid (fun W => hasOpB_any (byte0 t) W)
  rw [hb] at CH
  have HH := Lib.hid h
  have hlt := h.lt
  have hne : W.heap.size ≠ B := by omega
  clear h hb
  generalize byte0 t = o at *
  generalize t.extract (min 1 t.size) t.size = u at *
  go_enter Tryd.func48, Tryd.ntmps48
  go_wp2_with (first
    | (go_at_call 67; refine (CB.out _ (HH.out.below (below1 _ _))).mono ?_; rintro e w1 ⟨rfl, hr1, hk1⟩; have HR1 := Lib.hid hr1; have HK1 := Lib.hid (((KeepR.refl B W).below (below1 _ _) (Nat.le_of_lt hlt)).trans hk1); have Z1 := Lib.hid ((Y2.new W _ _ _).keepR hk1 hne); clear hr1 hk1)
    | (go_at_call 43; refine (CH.out _).mono ?_; rintro e w2 ⟨rfl, hb2⟩; have HR2 := Lib.hid (HR1.out.below hb2); have HK2 := Lib.hid (HK1.out.below hb2 (Nat.le_of_lt HR1.out.lt)); have Z2 := Lib.hid (Z1.out.keep hb2); have ⟨c0, c1, f0, _⟩ := Z1.out.keep hb2; clear hb2))
  refine bodyPost_ret (v := .agg #[.int .i64 o, .int .i64 0]) ?hres rfl ⟨rfl, ?hrd, ?hkp⟩
  case hres => simp [results, Tryd.results48, go_sem, *]
  case hrd => exact HR2.out.set2 (Ne.symm hne) _ _
  case hkp => exact HK2.out.set2 (Nat.le_refl _) hlt _ _

set_option maxHeartbeats 1000000 in
theorem readIns_const (B : Nat) (t u : ByteArray) (x : Int) (m : Nat) (ok : Bool) (hb : (insR (byte0 t)).2.2 = true) (h1 : byte0 t = 1) (hu : t.extract (min 1 t.size) t.size = u) (hm : m ≤ u.size)
    (hC : ∀ W, Calls Tryd.prog 68 #[.string u] W fun e w' => e = .returned (.tuple #[.int .i64 x, .int .i64 m, .bool ok]) ∧ Below W.heap.size W w') (W : World) (h : Rd W B t) :
    Calls Tryd.prog 48 #[.pointer (some ⟨B, 0, none⟩)] W (InsRd B 1 x (u.extract m u.size) W) := by
  have CB := Lib.hid (fun W hr => readByte_any B t W hr)
  have CH := Lib.hid (fun W => hasOpB_any (byte0 t) W)
  have CP := Lib.hid (fun W hr => pass_any B u m hm W hr)
  have CG := Lib.hid hC
  rw [hu, h1] at CB
  rw [hb, h1] at CH
  have HH := Lib.hid h
  have hlt := h.lt
  have hne : W.heap.size ≠ B := by omega
  clear h hb hu h1 hm hC
  generalize u.extract m u.size = u2 at *
  go_enter Tryd.func48, Tryd.ntmps48
  go_wp2_with (first
    | (go_at_call 67; refine (CB.out _ (HH.out.below (below1 _ _))).mono ?_; rintro e w1 ⟨rfl, hr1, hk1⟩; have HR1 := Lib.hid hr1; have HK1 := Lib.hid (((KeepR.refl B W).below (below1 _ _) (Nat.le_of_lt hlt)).trans hk1); have Z1 := Lib.hid ((Y2.new W _ _ _).keepR hk1 hne); clear hr1 hk1)
    | (go_at_call 43; refine (CH.out _).mono ?_; rintro e w2 ⟨rfl, hb2⟩; have HR2 := Lib.hid (HR1.out.below hb2); have r2 := (HR1.out.below hb2).1; have HK2 := Lib.hid (HK1.out.below hb2 (Nat.le_of_lt HR1.out.lt)); have Z2 := Lib.hid (Z1.out.keep hb2); clear hb2)
    | (go_at_call 68; refine (CG.out _).mono ?_; rintro e w3 ⟨rfl, hb3⟩; have HR3 := Lib.hid (HR2.out.below hb3); have HK3 := Lib.hid (HK2.out.below hb3 (Nat.le_of_lt HR2.out.lt)); have Z3 := Lib.hid (Z2.out.keep hb3); clear hb3 r2)
    | (go_at_call 69; refine (CP.out _ HR3.out).mono ?_; rintro e w4 ⟨rfl, hr4, hk4⟩; have HR4 := Lib.hid hr4; have HK4 := Lib.hid (HK3.out.trans hk4); have ⟨c0, c1, f0, _⟩ := Z3.out.keepR hk4 hne; clear hr4 hk4))
  refine bodyPost_ret (v := .agg #[.int .i64 1, .int .i64 x]) ?hres rfl ⟨rfl, ?hrd, ?hkp⟩
  case hres => simp [results, Tryd.results48, go_sem, *]
  case hrd => exact HR4.out.set2 (Ne.symm hne) _ _
  case hkp => exact HK4.out.set2 (Nat.le_refl _) hlt _ _

set_option maxHeartbeats 1000000 in
theorem readIns_num (B : Nat) (t u : ByteArray) (o x : Int) (m : Nat) (ok : Bool) (hb : (insR (byte0 t)).2.2 = true) (ho : byte0 t = o) (h1 : o ≠ 1) (hu : t.extract (min 1 t.size) t.size = u) (hm : m ≤ u.size)
    (hC : ∀ W, Calls Tryd.prog 83 #[.string u] W fun e w' => e = .returned (.tuple #[.int .i64 x, .int .i64 m, .bool ok]) ∧ Below W.heap.size W w') (W : World) (h : Rd W B t) :
    Calls Tryd.prog 48 #[.pointer (some ⟨B, 0, none⟩)] W (InsRd B o x (u.extract m u.size) W) := by
  have CB := Lib.hid (fun W hr => readByte_any B t W hr)
  have CH := Lib.hid (fun W => hasOpB_any (byte0 t) W)
  have CL := Lib.hid (fun W hr => readLeb_any B u x m ok hm hC W hr)
  rw [hu, ho] at CB
  rw [hb, ho] at CH
  have q1 : (o == 1) = false := beq_eq_false_iff_ne.mpr h1
  have HH := Lib.hid h
  have hlt := h.lt
  have hne : W.heap.size ≠ B := by omega
  clear h hb hu ho hm hC h1
  generalize u.extract m u.size = u2 at *
  go_enter Tryd.func48, Tryd.ntmps48
  go_wp2_with (first
    | (go_at_call 67; refine (CB.out _ (HH.out.below (below1 _ _))).mono ?_; rintro e w1 ⟨rfl, hr1, hk1⟩; have HR1 := Lib.hid hr1; have HK1 := Lib.hid (((KeepR.refl B W).below (below1 _ _) (Nat.le_of_lt hlt)).trans hk1); have Z1 := Lib.hid ((Y2.new W _ _ _).keepR hk1 hne); clear hr1 hk1)
    | (go_at_call 43; refine (CH.out _).mono ?_; rintro e w2 ⟨rfl, hb2⟩; have HR2 := Lib.hid (HR1.out.below hb2); have HK2 := Lib.hid (HK1.out.below hb2 (Nat.le_of_lt HR1.out.lt)); have Z2 := Lib.hid (Z1.out.keep hb2); clear hb2)
    | (go_at_call 70; refine (CL.out _ HR2.out).mono ?_; rintro e w4 ⟨rfl, hr4, hk4⟩; have HR4 := Lib.hid hr4; have HK4 := Lib.hid (HK2.out.trans hk4); have ⟨c0, c1, f0, _⟩ := Z2.out.keepR hk4 hne; clear hr4 hk4))
  refine bodyPost_ret (v := .agg #[.int .i64 o, .int .i64 x]) ?hres rfl ⟨rfl, ?hrd, ?hkp⟩
  case hres => simp [results, Tryd.results48, go_sem, *]
  case hrd => exact HR4.out.set2 (Ne.symm hne) _ _
  case hkp => exact HK4.out.set2 (Nat.le_refl _) hlt _ _

/-- One instruction read: whatever the string begins with is what is read. -/
theorem readIns_any (t : ByteArray) (hz : t.size ≤ 1048576) : ∃ (o a : Int) (u : ByteArray), ((0 ≤ o ∧ o < 256) ∧ -9223372036854775808 ≤ a ∧ a ≤ 9223372036854775807 ∧ u.size ≤ t.size) ∧ (∀ (op av : Int) (r : ByteArray), IsIns t op av r → o = op ∧ a = av ∧ u = r) ∧
    ∀ (B : Nat) (W : World), Rd W B t → Calls Tryd.prog 48 #[.pointer (some ⟨B, 0, none⟩)] W (InsRd B o a u W) := by
  have hbd := byte0_bd t
  obtain ⟨u, hu⟩ : ∃ u, t.extract (min 1 t.size) t.size = u := ⟨_, rfl⟩
  have huz : u.size ≤ t.size := by
    rw [← hu, ext_size _ _ _ (Nat.le_refl _)]
    omega
  have hcut : ∀ {op av : Int} {r : ByteArray}, IsIns t op av r → u = t.extract 1 t.size := fun h => by
    have := h.cut.2.1
    rw [← hu, show min 1 t.size = 1 by omega]
  cases hb : (insR (byte0 t)).2.2 with
  | false =>
    refine ⟨byte0 t, 0, u, ⟨hbd, by omega, by omega, huz⟩, fun op av r h => ?_, fun B W hr => by rw [← hu]; exact readIns_none B t hb W hr⟩
    have hc := hcut h
    obtain ⟨k1, k2, k3, _⟩ := h.cut
    rw [k1] at hb
    obtain ⟨k4, k5⟩ := k3 hb
    exact ⟨k1, k4.symm, hc.trans k5⟩
  | true =>
    by_cases h1 : byte0 t = 1
    · obtain ⟨x, m, ok, ⟨x0, x1, hm⟩, hf, hi, _⟩ := sleb_at u (by omega)
      refine ⟨1, x, u.extract m u.size, ⟨by omega, x0, x1, by rw [ext_size _ _ _ (Nat.le_refl _)]; omega⟩, fun op av r h => ?_, fun B W hr => readIns_const B t u x m ok hb h1 hu hm hi W hr⟩
      have hc := hcut h
      have hvb := insV_bd h.1
      obtain ⟨k1, k2, _, k4⟩ := h.cut
      rw [k1] at hb
      have k5 := k4 hb
      have e1 : op = 1 := by omega
      rw [if_pos e1, ← hc] at k5
      obtain ⟨f1, f2, _⟩ := hf av r hvb.1 hvb.2 k5
      exact ⟨e1.symm, f1, by rw [f2, k5]; exact app_right _ _⟩
    · obtain ⟨x, m, ok, ⟨x0, x1, hm⟩, hf, hi, _⟩ := leb_at u (by omega)
      refine ⟨byte0 t, x, u.extract m u.size, ⟨hbd, by omega, x1, by rw [ext_size _ _ _ (Nat.le_refl _)]; omega⟩, fun op av r h => ?_, fun B W hr => readIns_num B t u _ x m ok hb rfl h1 hu hm hi W hr⟩
      have hc := hcut h
      have hvb := insV_bd h.1
      have hvo := insV_op h.1
      obtain ⟨k1, k2, _, k4⟩ := h.cut
      rw [k1] at hb h1
      have k5 := k4 hb
      have hl := insR_low op h1
      rw [if_neg h1, ← hc] at k5
      obtain ⟨f1, f2, _⟩ := hf av.toNat r (by omega) k5
      exact ⟨k1, by omega, by rw [f2, k5]; exact app_right _ _⟩
end Go.Proofs.YtbjcldekapipaaaDoor

