/-
  The law FnExactTextOk: both answer the same.
-/
import Derived.Test.YthdnklhaagofhaaDoorUtfPoint
import Derived.Lib.MapLaws
import Derived.Lib.IndexBytes
import Derived.Deep.AppendLies
import Derived.Ground.NamesProg
import Derived.Shelf.Lay
import Derived.Shelf.Unicode.ValidAny
import Derived.Lib.LaidU8T
import Derived.Lib.LaidIn
namespace Go.Proofs
open Go.Shelf
def Tryd.laysVS_ren : Go.Shelf.Ren := ⟨fun | 196 => 102 | 259 => 144 | n => n, fun | 9 => 9 | 4 => 4 | 3 => 3 | 5 => 5 | 12 => 12 | 119 => 171 | 0 => 0 | 46 => 133 | 139 => 174 | 138 => 173 | 53 => 135 | n => n, fun | 3 => 0 | 4 => 1 | n => n⟩
theorem Tryd.laysVS : Go.Proofs.Lays.n196 Tryd.prog Tryd.laysVS_ren := {
  mixed := by kernel_rfl
  f196 := Tryd.func102.trans (congrArg some (by kernel_rfl))
  f259 := Tryd.func144.trans (congrArg some (by kernel_rfl))
  t0 := Tryd.underlying0
  a0 := Tryd.isAgg0
  z0 := Tryd.sizeOf0
  v0 := Tryd.zeroValue0
  t3 := Tryd.underlying3
  a3 := Tryd.isAgg3
  z3 := Tryd.sizeOf3
  v3 := Tryd.zeroValue3
  t4 := Tryd.underlying4
  a4 := Tryd.isAgg4
  z4 := Tryd.sizeOf4
  v4 := Tryd.zeroValue4
  t5 := Tryd.underlying5
  a5 := Tryd.isAgg5
  z5 := Tryd.sizeOf5
  v5 := Tryd.zeroValue5
  t9 := Tryd.underlying9
  a9 := Tryd.isAgg9
  z9 := Tryd.sizeOf9
  v9 := Tryd.zeroValue9
  t12 := Tryd.underlying12
  a12 := Tryd.isAgg12
  z12 := Tryd.sizeOf12
  v12 := Tryd.zeroValue12
  t46 := Tryd.underlying133
  a46 := Tryd.isAgg133
  z46 := Tryd.sizeOf133
  v46 := Tryd.zeroValue133
  t53 := Tryd.underlying135
  a53 := Tryd.isAgg135
  z53 := Tryd.sizeOf135
  v53 := Tryd.zeroValue135
  t119 := Tryd.underlying171
  a119 := Tryd.isAgg171
  z119 := Tryd.sizeOf171
  t138 := Tryd.underlying173
  a138 := Tryd.isAgg173
  z138 := Tryd.sizeOf173
  v138 := Tryd.zeroValue173
  t139 := Tryd.underlying174
  a139 := Tryd.isAgg174
  z139 := Tryd.sizeOf174
  v139 := Tryd.zeroValue174
  g3 := by kernel_rfl
  g4 := by kernel_rfl }
end Go.Proofs
namespace Go.Proofs.YthdnklhaagofhaaDoor
open Go.ChangeShapes Go.WideShapes Go.ChangeAt Go.RowKit

/-- A text's byte, as a natural number. -/
def bN (s : ByteArray) (k : Nat) : Nat := (s.data.toList.getD k 0).toNat
theorem bI_bN (s : ByteArray) (k : Nat) : bI s k = (bN s k : Int) := rfl
theorem bN_lt (s : ByteArray) (k : Nat) : bN s k < 256 := (s.data.toList.getD k 0).toNat_lt
/-- Where no code point is told. -/
def Bad (l : List UInt8) : Prop := (Lib.decodeL l).1 = 65533 ∧ (Lib.decodeL l).2 = 1

theorem enc_cast (n : Nat) : encI (n : Int) = (encB n).map Int.ofNat := by
  unfold encI encB
  by_cases h1 : n < 128
  · rw [if_pos (by omega), if_pos h1]
    rfl
  · rw [if_neg (by omega), if_neg h1]
    by_cases h2 : n < 2048
    · rw [if_pos (by omega), if_pos h2]
      simp
    · rw [if_neg (by omega), if_neg h2]
      by_cases h3 : n < 65536
      · rw [if_pos (by omega), if_pos h3]
        simp
      · rw [if_neg (by omega), if_neg h3]
        simp
theorem enc_small (n : Nat) (h : n ≤ 1114111) : ∀ x ∈ encB n, x < 256 := by
  unfold encB
  intro x hx
  split at hx
  · simp at hx
    omega
  · split at hx
    · simp at hx
      omega
    · split at hx
      · simp at hx
        omega
      · simp at hx
        omega
theorem take_four (l : List UInt8) (m : Nat) (hm : m ≤ l.length) (h4 : m ≤ 4) : (l.take m).map UInt8.toNat = [(l.getD 0 0).toNat, (l.getD 1 0).toNat, (l.getD 2 0).toNat, (l.getD 3 0).toNat].take m := by
  have h5 : m = 0 ∨ m = 1 ∨ m = 2 ∨ m = 3 ∨ m = 4 := by omega
  match l, hm with
  | [], hm => simp at hm; subst hm; rfl
  | [a], hm => rcases h5 with rfl | rfl | rfl | rfl | rfl <;> first | rfl | (simp at hm)
  | [a, b], hm => rcases h5 with rfl | rfl | rfl | rfl | rfl <;> first | rfl | (simp at hm)
  | [a, b, c], hm => rcases h5 with rfl | rfl | rfl | rfl | rfl <;> first | rfl | (simp at hm)
  | a :: b :: c :: d :: t, _ => rcases h5 with rfl | rfl | rfl | rfl | rfl <;> rfl
theorem map_toNat_inj : ∀ a b : List UInt8, a.map UInt8.toNat = b.map UInt8.toNat → a = b
  | [], [], _ => rfl
  | [], _ :: _, h => by simp at h
  | _ :: _, [], h => by simp at h
  | x :: a, y :: b, h => by
    simp only [List.map_cons, List.cons.injEq] at h
    rw [UInt8.toNat_inj.mp h.1, map_toNat_inj a b h.2]
theorem enc_iff (s : ByteArray) (n m : Nat) (hn : n ≤ 1114111) (hm : m ≤ s.size) (h4 : m ≤ 4) : strOfNums (encI (n : Int)) = s.extract 0 m ↔ encB n = [bN s 0, bN s 1, bN s 2, bN s 3].take m := by
  have hx : (s.extract 0 m).data.toList = s.data.toList.take m := by
    rw [ByteArray.data_extract, Array.toList_extract]
    simp [List.extract]
  have hy : (strOfNums (encI (n : Int))).data.toList.map UInt8.toNat = encB n := by
    rw [strOfNums_data, enc_cast, List.map_map, List.map_map]
    refine (List.map_congr_left (fun x hx => ?_)).trans (List.map_id _)
    have := enc_small n hn x hx
    simp
    omega
  have ht := take_four s.data.toList m (by simpa using hm) h4
  constructor
  · intro h
    rw [← hy, h, hx, ht]
    rfl
  · intro h
    apply ByteArray.ext
    apply Array.toList_inj.mp
    rw [hx]
    apply map_toNat_inj
    exact hy.trans (h.trans ht.symm)
theorem ch_iff (n : Nat) : ChI (n : Int) ↔ chr n := by
  unfold ChI chr
  omega
theorem dec_bytes (s : ByteArray) : Lib.decodeL s.data.toList = Lib.decodeN s.size (bN s 0) (bN s 1) (bN s 2) (bN s 3) := Lib.decodeL_N s.data.toList

/-- What the model's l04Point answers, beside the decoder. -/
theorem point_any (s : ByteArray) (h : 1 ≤ s.size) (hs : s.size ≤ 24) : ∃ (a : Int) (m : Nat), Hid (∀ w : World, Calls Tryd.prog 180 #[.string s] w fun e w' => e = .returned (.tuple #[.int .i64 a, .int .i64 (m : Int)]) ∧ Below w.heap.size w w') ∧
    ((Bad s.data.toList ∧ m = 0) ∨ (¬ Bad s.data.toList ∧ m = (Lib.decodeL s.data.toList).2 ∧ 1 ≤ m ∧ m ≤ s.size ∧ a = ((Lib.decodeL s.data.toList).1 : Int))) := by
  have l0 := bN_lt s 0
  have l1 := bN_lt s 1
  have l2 := bN_lt s 2
  have l3 := bN_lt s 3
  obtain ⟨p1, p2⟩ := ptOk_iff s.size (bN s 0) (bN s 1) (bN s 2) (bN s 3) h l0 l1 l2 l3
  -- the walk's answer, at a number of bytes
  have main : ∀ (m : Nat) (N : Int) (_ : manyB (bN s 0) = m) (_ : N = (numB (bN s 0) (bN s 1) (bN s 2) (bN s 3) : Int)) (_ : 1 ≤ m ∧ m ≤ 4)
      (_ : s.size < m → ∀ w : World, Calls Tryd.prog 180 #[.string s] w fun e w' => e = .returned (.tuple #[.int .i64 0, .int .i64 0]) ∧ Below w.heap.size w w')
      (_ : m ≤ s.size → ∀ ok : Bool, (ok = true ↔ (ChI N ∧ strOfNums (encI N) = s.extract 0 m)) → ∀ w : World, Calls Tryd.prog 180 #[.string s] w fun e w' => e = .returned (ptV s m N ok) ∧ Below w.heap.size w w'),
      ∃ (a : Int) (m : Nat), Hid (∀ w : World, Calls Tryd.prog 180 #[.string s] w fun e w' => e = .returned (.tuple #[.int .i64 a, .int .i64 (m : Int)]) ∧ Below w.heap.size w w') ∧
        ((Bad s.data.toList ∧ m = 0) ∨ (¬ Bad s.data.toList ∧ m = (Lib.decodeL s.data.toList).2 ∧ 1 ≤ m ∧ m ≤ s.size ∧ a = ((Lib.decodeL s.data.toList).1 : Int))) := by
    intro m N hm hN hm4 hshort hlong
    by_cases hsz : s.size < m
    · have hno : ¬ ptOk s.size (bN s 0) (bN s 1) (bN s 2) (bN s 3) := by
        rintro ⟨a1, _, _⟩
        omega
      refine ⟨0, 0, Lib.hid (hshort hsz), Or.inl ⟨?_, rfl⟩⟩
      unfold Bad
      rw [dec_bytes, p2 hno]
      exact ⟨rfl, rfl⟩
    · have hle : m ≤ s.size := by omega
      by_cases hp : ptOk s.size (bN s 0) (bN s 1) (bN s 2) (bN s 3)
      · have hp' := hp
        obtain ⟨a1, a2, a3⟩ := hp'
        have hch : numB (bN s 0) (bN s 1) (bN s 2) (bN s 3) ≤ 1114111 := by unfold chr at a2; omega
        have hok : ChI N ∧ strOfNums (encI N) = s.extract 0 m := by
          rw [hN]
          refine ⟨(ch_iff _).mpr a2, (enc_iff s _ m hch hle hm4.2).mpr ?_⟩
          rw [a3, hm]
        have hw := hlong hle true ⟨fun _ => hok, fun _ => rfl⟩
        refine ⟨N, m, Lib.hid hw, Or.inr ?_⟩
        obtain ⟨q1, q2⟩ := p1 hp
        unfold Bad
        rw [dec_bytes, q1, hm]
        rw [hm] at q2
        exact ⟨q2, rfl, hm4.1, hle, hN⟩
      · have hnok : ¬ (ChI N ∧ strOfNums (encI N) = s.extract 0 m) := by
          rintro ⟨b1, b2⟩
          rw [hN] at b1 b2
          have c2 := (ch_iff _).mp b1
          have hch : numB (bN s 0) (bN s 1) (bN s 2) (bN s 3) ≤ 1114111 := by unfold chr at c2; omega
          exact hp ⟨by omega, c2, by rw [hm]; exact (enc_iff s _ m hch hle hm4.2).mp b2⟩
        have hw := hlong hle false ⟨(fun e => by cases e), fun e => absurd e hnok⟩
        refine ⟨0, 0, Lib.hid hw, Or.inl ⟨?_, rfl⟩⟩
        unfold Bad
        rw [dec_bytes, p2 hp]
        exact ⟨rfl, rfl⟩
  have e0 := bI_bN s 0
  have e1 := bI_bN s 1
  have e2 := bI_bN s 2
  have e3 := bI_bN s 3
  by_cases k4 : 240 ≤ bN s 0
  · refine main 4 (accS (bI s 0 - 240) s 3) (by unfold manyB; rw [if_pos k4]) ?_ (by omega) (fun hz w => point4_short s h hs (by omega) hz w) (fun hz ok hok w => point4_long s h hs (by omega) hz ok hok w)
    unfold numB
    rw [if_pos k4]
    simp only [accS, e0, e1, e2, e3]
    omega
  · by_cases k3 : 224 ≤ bN s 0
    · refine main 3 (accS (bI s 0 - 224) s 2) (by unfold manyB; rw [if_neg k4, if_pos k3]) ?_ (by omega) (fun hz w => point3_short s h hs (by omega) hz w) (fun hz ok hok w => point3_long s h hs (by omega) hz ok hok w)
      unfold numB
      rw [if_neg k4, if_pos k3]
      simp only [accS, e0, e1, e2]
      omega
    · by_cases k2 : 192 ≤ bN s 0
      · refine main 2 (accS (bI s 0 - 192) s 1) (by unfold manyB; rw [if_neg k4, if_neg k3, if_pos k2]) ?_ (by omega) (fun hz w => point2_short s h hs (by omega) hz w) (fun hz ok hok w => point2_long s h hs (by omega) hz ok hok w)
        unfold numB
        rw [if_neg k4, if_neg k3, if_pos k2]
        simp only [accS, e0, e1]
        omega
      · refine main 1 (accS (bI s 0) s 0) (by unfold manyB; rw [if_neg k4, if_neg k3, if_neg k2]) ?_ (by omega) (fun hz w => by omega) (fun hz ok hok w => point1_long s h hs (by omega) hz ok hok w)
        unfold numB
        rw [if_neg k4, if_neg k3, if_neg k2]
        simp only [accS, e0]
end Go.Proofs.YthdnklhaagofhaaDoor
