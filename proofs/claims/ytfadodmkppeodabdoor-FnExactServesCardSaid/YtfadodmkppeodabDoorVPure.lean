/-
  A text is a version just where it is the text of three parts below 1000: the pure part.
-/
import Derived.Test.YtfadodmkppeodabDoorRVer
import Derived.Test.YtfadodmkppeodabDoorVAt
import Derived.Lib.IndexBytes
namespace Go.Proofs.YtfadodmkppeodabDoor
open Go.ChangeShapes Go.WideShapes Go.ChangeAt Go.RowKit

/-- Pieces, joined by dots. -/
def joinDots : List (List UInt8) → List UInt8
  | [] => []
  | [a] => a
  | a :: b :: t => a ++ 46 :: joinDots (b :: t)

theorem splitK_ne (k : Nat) (l : List UInt8) : Lib.splitK [46] 0 k l ≠ [] := by
  cases k with
  | zero => simp [Lib.splitK]
  | succ k =>
    rw [Lib.splitK]
    split <;> simp

theorem joinDots_cons (a : List UInt8) (t : List (List UInt8)) (h : t ≠ []) : joinDots (a :: t) = a ++ 46 :: joinDots t := by
  cases t with
  | nil => exact absurd rfl h
  | cons b t => rfl

theorem join_split (k : Nat) (l : List UInt8) : joinDots (Lib.splitK [46] 0 k l) = l := by
  induction k generalizing l with
  | zero => rfl
  | succ k ih =>
    rw [Lib.splitK]
    split
    · rfl
    · rename_i h
      have hg := Lib.index_ge l [46]
      have hn : Lib.index l [46] ≠ -1 := fun e => h (by rw [e]; rfl)
      obtain ⟨i, hi⟩ : ∃ i : Nat, Lib.index l [46] = i := ⟨(Lib.index l [46]).toNat, by omega⟩
      have hb : Lib.indexByte l 46 = i := by rw [← Lib.index_one]; exact hi
      have hat := (Lib.indexByte_some hb).1
      obtain ⟨hlt, hv⟩ := List.getElem?_eq_some_iff.mp hat
      rw [hi, joinDots_cons _ _ (splitK_ne _ _), ih]
      have hd : l.drop i = 46 :: l.drop (i + 1) := by rw [List.drop_eq_getElem_cons hlt, hv]
      have he : (((i : Int).toNat + ([46] : List UInt8).length) : Nat) = i + 1 := by simp
      rw [he, Int.toNat_natCast, Nat.add_zero, ← hd, List.take_append_drop]

theorem index_app (p r : List UInt8) (h : ∀ c ∈ p, c ≠ 46) : Lib.index (p ++ 46 :: r) [46] = p.length := by
  rw [Lib.index_one]
  induction p with
  | nil => rfl
  | cons c p ih =>
    have hc : (c == 46) = false := beq_eq_false_iff_ne.mpr (h c (by simp))
    have hi := ih (fun d hd => h d (by simp [hd]))
    have hm : ((p.length : Int) == -1) = false := by rw [beq_eq_false_iff_ne]; omega
    show Lib.indexByte (c :: (p ++ 46 :: r)) 46 = _
    rw [Lib.indexByte, hc, hi, hm]
    simp

theorem index_none (l : List UInt8) (h : ∀ c ∈ l, c ≠ 46) : Lib.index l [46] = -1 := by
  rw [Lib.index_one]
  induction l with
  | nil => rfl
  | cons c p ih =>
    have hc : (c == 46) = false := beq_eq_false_iff_ne.mpr (h c (by simp))
    have hi := ih (fun d hd => h d (by simp [hd]))
    rw [Lib.indexByte, hc, hi]
    rfl

theorem splitK_app (k : Nat) (p r : List UInt8) (h : ∀ c ∈ p, c ≠ 46) : Lib.splitK [46] 0 (k + 1) (p ++ 46 :: r) = p :: Lib.splitK [46] 0 k r := by
  have hm : ((p.length : Int) == -1) = false := by rw [beq_eq_false_iff_ne]; omega
  rw [Lib.splitK, index_app p r h, hm]
  simp

theorem splitK_none (k : Nat) (l : List UInt8) (h : ∀ c ∈ l, c ≠ 46) : Lib.splitK [46] 0 k l = [l] := by
  cases k with
  | zero => rfl
  | succ k =>
    rw [Lib.splitK, index_none l h]
    rfl

theorem ofNat_ne (d : Nat) (h : d < 10) : UInt8.ofNat (48 + d) ≠ 46 := by
  intro e
  have h1 := dig_nat d h
  rw [e] at h1
  have h2 : (46 : UInt8).toNat = 46 := rfl
  omega

theorem dec_nodot (n : Nat) (h : n < 1000) : ∀ c ∈ Lib.decDigits n, c ≠ 46 := by
  intro c hc
  by_cases h1 : n < 10
  · rw [dec1 n h1] at hc
    simp only [List.mem_singleton] at hc
    rw [hc]
    exact ofNat_ne n h1
  · by_cases h2 : n < 100
    · rw [dec2 n (by omega) h2] at hc
      simp only [List.mem_cons, List.not_mem_nil, or_false] at hc
      rcases hc with hc | hc <;> rw [hc] <;> exact ofNat_ne _ (by omega)
    · rw [dec3 n (by omega) h] at hc
      simp only [List.mem_cons, List.not_mem_nil, or_false] at hc
      rcases hc with hc | hc | hc <;> rw [hc] <;> exact ofNat_ne _ (by omega)

theorem dec_pos (n : Nat) : 1 ≤ (Lib.decDigits n).length := by
  rw [Lib.decDigits]
  split <;> simp

theorem decB_list (n : Int) : (decB n).data.toList = Lib.decDigits n.toNat := rfl

theorem verB_list (x y z : Int) : (verB x y z).data.toList = Lib.decDigits x.toNat ++ 46 :: (Lib.decDigits y.toNat ++ 46 :: Lib.decDigits z.toNat) := by
  simp [verB, decB]

/-- The text of three parts below 1000. -/
def IsVer (s : ByteArray) (x y z : Int) : Prop := 0 ≤ x ∧ x < 1000 ∧ 0 ≤ y ∧ y < 1000 ∧ 0 ≤ z ∧ z < 1000 ∧ s = verB x y z

theorem pieces_list (s : ByteArray) : (pieces s).map (·.data.toList) = Lib.splitK [46] 0 (min 4 (s.size + 1) - 1) s.data.toList := Lib.splitB_data _ _ _ _

theorem ba_ext {a b : ByteArray} (h : a.data.toList = b.data.toList) : a = b := ByteArray.ext (Array.toList_inj.mp h)

theorem size_list (s : ByteArray) : s.data.toList.length = s.size := rfl

theorem ver_size {s : ByteArray} {x y z : Int} (h : IsVer s x y z) : 5 ≤ s.size ∧ s.size ≤ 11 := by
  obtain ⟨x0, x1, y0, y1, z0, z1, rfl⟩ := h
  have a1 := dec_pos x.toNat
  have a2 := dec_pos y.toNat
  have a3 := dec_pos z.toNat
  have b1 := decLen3 x.toNat (by omega)
  have b2 := decLen3 y.toNat (by omega)
  have b3 := decLen3 z.toNat (by omega)
  rw [← size_list, verB_list]
  simp only [List.length_append, List.length_cons]
  omega

theorem pieces_ver {s : ByteArray} {x y z : Int} (h : IsVer s x y z) : pieces s = [decB x, decB y, decB z] := by
  have hs := ver_size h
  obtain ⟨x0, x1, y0, y1, z0, z1, rfl⟩ := h
  have hm := pieces_list (verB x y z)
  rw [show min 4 ((verB x y z).size + 1) - 1 = 3 by omega, verB_list, splitK_app 2 _ _ (dec_nodot _ (by omega)), splitK_app 1 _ _ (dec_nodot _ (by omega)), splitK_none 1 _ (dec_nodot _ (by omega))] at hm
  obtain ⟨a, l1, hp, h1, hm⟩ := List.map_eq_cons_iff.mp hm
  obtain ⟨b, l2, rfl, h2, hm⟩ := List.map_eq_cons_iff.mp hm
  obtain ⟨d, l3, rfl, h3, hm⟩ := List.map_eq_cons_iff.mp hm
  obtain rfl := List.map_eq_nil_iff.mp hm
  rw [hp, ba_ext (a := a) (b := decB x) h1, ba_ext (a := b) (b := decB y) h2, ba_ext (a := d) (b := decB z) h3]

theorem rp_decB (x : Int) (h0 : 0 ≤ x) (h1 : x < 1000) : rp (decB x) = some x := by
  have := rp_dec x.toNat (by omega)
  rw [Int.toNat_of_nonneg h0] at this
  exact this

theorem ver_inj {s : ByteArray} {x y z x' y' z' : Int} (h : IsVer s x y z) (h' : IsVer s x' y' z') : x = x' ∧ y = y' ∧ z = z' := by
  have e := (pieces_ver h).symm.trans (pieces_ver h')
  obtain ⟨x0, x1, y0, y1, z0, z1, _⟩ := h
  obtain ⟨x0', x1', y0', y1', z0', z1', _⟩ := h'
  simp only [List.cons.injEq, and_true] at e
  have e1 := congrArg rp e.1
  have e2 := congrArg rp e.2.1
  have e3 := congrArg rp e.2.2
  rw [rp_decB x x0 x1, rp_decB x' x0' x1'] at e1
  rw [rp_decB y y0 y1, rp_decB y' y0' y1'] at e2
  rw [rp_decB z z0 z1, rp_decB z' z0' z1'] at e3
  exact ⟨Option.some.inj e1, Option.some.inj e2, Option.some.inj e3⟩

/-- Three pieces, joined. -/
theorem pieces_three {s a b d : ByteArray} (h : pieces s = [a, b, d]) : s.data.toList = a.data.toList ++ 46 :: (b.data.toList ++ 46 :: d.data.toList) ∧ 3 ≤ min 4 (s.size + 1) := by
  have hm := pieces_list s
  have hl : (pieces s).length ≤ (min 4 (s.size + 1) - 1) + 1 := Lib.splitB_length_le _ _ _ _
  have hj := join_split (min 4 (s.size + 1) - 1) s.data.toList
  rw [← hm, h] at hj
  rw [h] at hl
  simp only [List.length_cons, List.length_nil] at hl
  exact ⟨hj.symm, by omega⟩

theorem three_ver {s a b d : ByteArray} {x y z : Int} (h : pieces s = [a, b, d]) (hx : rp a = some x) (hy : rp b = some y) (hz : rp d = some z) : IsVer s x y z := by
  obtain ⟨hj, _⟩ := pieces_three h
  obtain ⟨x0, x1, rfl⟩ := rp_some a x hx
  obtain ⟨y0, y1, rfl⟩ := rp_some b y hy
  obtain ⟨z0, z1, rfl⟩ := rp_some d z hz
  refine ⟨x0, x1, y0, y1, z0, z1, ba_ext ?_⟩
  rw [hj, verB_list]
  rfl

/-- readVersion at a version. -/
theorem readVersion_yes {s : ByteArray} {x y z : Int} (h : IsVer s x y z) (m : Int) (w : World) (hm : w.cell? ⟨2, 0, none⟩ = some (.int .i64 m)) :
    Calls Tryd.prog 33 #[.string s] w fun e w' => e = .returned (.tuple #[.agg #[.int .i64 x, .int .i64 y, .int .i64 z], .bool true]) ∧ Below w.heap.size w w' := by
  have hs := ver_size h
  have hp := pieces_ver h
  obtain ⟨x0, x1, y0, y1, z0, z1, _⟩ := h
  have b1 := decB_size x x0 x1
  have b2 := decB_size y y0 y1
  have b3 := decB_size z z0 z1
  exact readVersion_three s _ _ _ m w (by omega) hm hp (by omega) (by omega) (by omega) (by omega) x y z (rp_decB x x0 x1) (rp_decB y y0 y1) (rp_decB z z0 z1)

theorem outR_cases (o : Option Int) : ∃ (n : Int) (p : Bool), outR o = .tuple #[.int .i64 n, .bool p] ∧ (p = true → o = some n) := by
  cases o with
  | none => exact ⟨0, false, rfl, by simp⟩
  | some n => exact ⟨n, true, rfl, fun _ => rfl⟩

/-- readVersion at what is none. -/
theorem readVersion_no {s : ByteArray} (h : ¬ ∃ x y z, IsVer s x y z) (hs : s.size ≤ 1048576) (m : Int) (w : World) (hm : w.cell? ⟨2, 0, none⟩ = some (.int .i64 m)) :
    Calls Tryd.prog 33 #[.string s] w fun e w' => e = .returned (.tuple #[.agg #[.int .i64 0, .int .i64 0, .int .i64 0], .bool false]) ∧ Below w.heap.size w w' := by
  by_cases h3 : (pieces s).length = 3
  · match hp : pieces s, h3 with
    | [a, b, d], _ =>
      obtain ⟨hj, hN⟩ := pieces_three hp
      have hl := congrArg List.length hj
      simp only [List.length_append, List.length_cons, size_list] at hl
      obtain ⟨x, p, hx, hxp⟩ := outR_cases (rp a)
      obtain ⟨y, q, hy, hyq⟩ := outR_cases (rp b)
      obtain ⟨z, t, hz, hzt⟩ := outR_cases (rp d)
      refine readVersion_bad s a b d m w hs hm hp hN (by omega) (by omega) (by omega) x y z p q t hx hy hz ?_
      rw [Bool.eq_false_iff]
      intro ht
      simp only [Bool.and_eq_true] at ht
      exact h ⟨x, y, z, three_ver hp (hxp ht.1.1) (hyq ht.1.2) (hzt ht.2)⟩
  · exact readVersion_few s m w hs hm h3
end Go.Proofs.YtfadodmkppeodabDoor
