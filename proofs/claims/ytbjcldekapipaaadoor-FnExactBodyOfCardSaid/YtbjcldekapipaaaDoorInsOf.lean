/-
  The walks of both InsOf.
-/
import Derived.Test.YtbjcldekapipaaaDoorMRd
import Derived.Ground.NamesProg
import Derived.Shelf.Lay
import Derived.Shelf.Strings.Prefix
namespace Go.Proofs
open Go.Shelf
def Tryd.laysHP_ren : Go.Shelf.Ren := ⟨fun | 99 => 49 | 206 => 71 | n => n, fun | 9 => 9 | 4 => 4 | 3 => 3 | n => n, fun | n => n⟩
theorem Tryd.laysHP : Go.Proofs.Lays.n99 Tryd.prog Tryd.laysHP_ren := {
  mixed := by kernel_rfl
  f99 := Tryd.func49.trans (congrArg some (by kernel_rfl))
  f206 := Tryd.func71.trans (congrArg some (by kernel_rfl))
  t3 := Tryd.underlying3
  a3 := Tryd.isAgg3
  z3 := Tryd.sizeOf3
  v3 := Tryd.zeroValue3
  t4 := Tryd.underlying4
  a4 := Tryd.isAgg4
  z4 := Tryd.sizeOf4
  v4 := Tryd.zeroValue4
  t9 := Tryd.underlying9
  a9 := Tryd.isAgg9
  z9 := Tryd.sizeOf9
  v9 := Tryd.zeroValue9 }
end Go.Proofs
namespace Go.Proofs.YtbjcldekapipaaaDoor
open Go.ChangeShapes Go.WideShapes Go.ChangeAt Go.RowKit

/-- Has s that prefix? -/
def hasP (s p : ByteArray) : Bool := Lib.hasPrefix s.data.toList p.data.toList
theorem hasP_yes (p r : ByteArray) : hasP (p ++ r) p = true := by
  unfold hasP Lib.hasPrefix
  rw [ByteArray.data_append, Array.toList_append, List.isPrefixOf_iff_prefix]
  exact List.prefix_append _ _
theorem hasP_ex {s p : ByteArray} (h : hasP s p = true) : ∃ r, s = p ++ r := by
  unfold hasP Lib.hasPrefix at h
  rw [List.isPrefixOf_iff_prefix] at h
  obtain ⟨l, hl⟩ := h
  refine ⟨⟨l.toArray⟩, ByteArray.ext (Array.toList_inj.mp ?_)⟩
  rw [ByteArray.data_append, Array.toList_append, ← hl]
theorem hasPrefix_any (s p : ByteArray) (w : World) :
    Calls Tryd.prog 49 #[.string s, .string p] w fun e w' => e = .returned (.bool (hasP s p)) ∧ w = w' :=
  (Any.strings_HasPrefix Tryd.laysHP s p w).mono fun _ _ h => ⟨h.1, h.2.symm⟩

/-- The answer of InsOf. -/
def InsOfA (o a m : Int) (ok : Bool) (w : World) (e : Ending) (w' : World) : Prop := e = .returned (.tuple #[.agg #[.int .i64 o, .int .i64 a], .int .i64 m, .bool ok]) ∧ Below w.heap.size w w'

theorem empty_no {T : ByteArray} (h : 0 < T.size) : T.toList.isEmpty = false := by
  rw [ByteArray.toList_eq]
  cases hl : T.data.toList with
  | nil =>
    have h2 : T.data.toList.length = T.size := by simp
    rw [hl] at h2
    simp at h2
    omega
  | cons _ _ => rfl
theorem empty_yes : (⟨#[]⟩ : ByteArray).toList.isEmpty = true := by
  rw [ByteArray.toList_eq]
  rfl

set_option maxHeartbeats 2000000 in
set_option maxRecDepth 100000 in
theorem implInsOf_yes (s : ByteArray) (op a : Int) (r : ByteArray) (hs : s.size ≤ 1048576) (h : IsIns s op a r) (w : World) (ht : OpTab w) :
    Calls Tryd.prog 15 #[.string s] w (InsOfA op a ((insBy op a).size : Int) true w) := by
  obtain ⟨o1, a1, u, _, hf, CR0⟩ := readIns_any s hs
  obtain ⟨rfl, rfl, rfl⟩ := hf op a r h
  have CR := Lib.hid CR0
  have hbd := insV_bd h.1
  have hop := insV_op h.1
  have CI := Lib.hid (fun W (hb : Below w.heap.size w W) => implInsBytes_any o1 a1 (by omega) (by omega) hbd.1 hbd.2 W (ht.keep hb))
  rw [h.1, if_pos rfl] at CI
  have hP : hasP s (insBy o1 a1) = true := by rw [h.2]; exact hasP_yes _ _
  have CP := Lib.hid (fun W => hasPrefix_any s (insBy o1 a1) W)
  rw [hP] at CP
  have hw := empty_no (insBy_pos o1 a1)
  have hle := insBy_le o1 a1 hbd.1 hbd.2
  clear hf CR0 hP hbd hop h ht
  generalize insBy o1 a1 = T at *
  go_enter Tryd.func15, Tryd.ntmps15
  go_wp2_with (first
    | (go_at_call 48; refine (CR.out _ _ ⟨by go_simp, by go_simp⟩).mono ?_; rintro e w1 ⟨rfl, _, hk1⟩; have HB1 := Lib.hid (KeepR.below0 (below2 w _ _) hk1 (by omega)); have Z1 := Lib.hid (((Y2.new w _ _ _).alloc _).keepR hk1 (by omega)); clear hk1)
    | (go_at_call 13; refine (CI.out _ (HB1.out.alloc HB1.out.size _)).mono ?_; rintro e w2 ⟨rfl, hb2⟩; have HB2 := Lib.hid (bnext (HB1.out.alloc HB1.out.size _) hb2); have Z2 := Lib.hid ((Z1.out.alloc _).keep hb2); have V2 := Lib.hid ((Y2.new w1 _ _ _).keep hb2); have ⟨c0, c1, f0, _⟩ := Z2.out; have ⟨i0, i1, _, _⟩ := V2.out; clear hb2)
    | (go_at_call 49; refine (CP.out _).mono ?_; rintro e w3 ⟨rfl, rfl⟩))
  refine bodyPost_ret (v := .tuple #[.agg #[.int .i64 o1, .int .i64 a1], .int .i64 T.size, .bool true]) ?hres rfl ⟨rfl, ?hbel⟩
  case hres => simp [results, Tryd.results15, go_sem, *]
  case hbel => exact (HB2.out.setCell (by first | (simp; done) | (simp; omega)) _).setCell (by first | (simp; done) | (simp; omega)) _

set_option maxHeartbeats 2000000 in
set_option maxRecDepth 100000 in
theorem implInsOf_no (s : ByteArray) (hs : s.size ≤ 1048576) (h : ∀ op a r, ¬ IsIns s op a r) (w : World) (ht : OpTab w) :
    Calls Tryd.prog 15 #[.string s] w (InsOfA 0 0 0 false w) := by
  obtain ⟨o1, a1, u, ⟨⟨o0, o2⟩, a0, a2, _⟩, _, CR0⟩ := readIns_any s hs
  have CR := Lib.hid CR0
  have CI := Lib.hid (fun W (hb : Below w.heap.size w W) => implInsBytes_any o1 a1 (by omega) (by omega) a0 a2 W (ht.keep hb))
  cases hv : insV o1 a1 with
  | true =>
    rw [hv, if_pos rfl] at CI
    have hP : hasP s (insBy o1 a1) = false := by
      cases hq : hasP s (insBy o1 a1) with
      | false => rfl
      | true =>
        obtain ⟨r, hr⟩ := hasP_ex hq
        exact absurd ⟨hv, hr⟩ (h o1 a1 r)
    have CP := Lib.hid (fun W => hasPrefix_any s (insBy o1 a1) W)
    rw [hP] at CP
    have hw := empty_no (insBy_pos o1 a1)
    clear CR0 hP hv h ht o0 o2 a0 a2
    generalize insBy o1 a1 = T at *
    go_enter Tryd.func15, Tryd.ntmps15
    go_wp2_with (first
      | (go_at_call 48; refine (CR.out _ _ ⟨by go_simp, by go_simp⟩).mono ?_; rintro e w1 ⟨rfl, _, hk1⟩; have HB1 := Lib.hid (KeepR.below0 (below2 w _ _) hk1 (by omega)); have Z1 := Lib.hid (((Y2.new w _ _ _).alloc _).keepR hk1 (by omega)); clear hk1)
      | (go_at_call 13; refine (CI.out _ (HB1.out.alloc HB1.out.size _)).mono ?_; rintro e w2 ⟨rfl, hb2⟩; have HB2 := Lib.hid (bnext (HB1.out.alloc HB1.out.size _) hb2); have Z2 := Lib.hid ((Z1.out.alloc _).keep hb2); have V2 := Lib.hid ((Y2.new w1 _ _ _).keep hb2); have ⟨c0, c1, f0, _⟩ := Z2.out; have ⟨i0, i1, _, _⟩ := V2.out; clear hb2)
      | (go_at_call 49; refine (CP.out _).mono ?_; rintro e w3 ⟨rfl, rfl⟩))
    refine bodyPost_ret (v := .tuple #[.agg #[.int .i64 0, .int .i64 0], .int .i64 0, .bool false]) ?hres rfl ⟨rfl, ?hbel⟩
    case hres => simp [results, Tryd.results15, go_sem, *]
    case hbel => exact (HB2.out.setCell (by first | (simp; done) | (simp; omega)) _).setCell (by first | (simp; done) | (simp; omega)) _
  | false =>
    rw [hv, if_neg (by simp)] at CI
    have hw := empty_yes
    clear CR0 hv h ht o0 o2 a0 a2
    go_enter Tryd.func15, Tryd.ntmps15
    go_wp2_with (first
      | (go_at_call 48; refine (CR.out _ _ ⟨by go_simp, by go_simp⟩).mono ?_; rintro e w1 ⟨rfl, _, hk1⟩; have HB1 := Lib.hid (KeepR.below0 (below2 w _ _) hk1 (by omega)); have Z1 := Lib.hid (((Y2.new w _ _ _).alloc _).keepR hk1 (by omega)); clear hk1)
      | (go_at_call 13; refine (CI.out _ (HB1.out.alloc HB1.out.size _)).mono ?_; rintro e w2 ⟨rfl, hb2⟩; have HB2 := Lib.hid (bnext (HB1.out.alloc HB1.out.size _) hb2); have Z2 := Lib.hid ((Z1.out.alloc _).keep hb2); have V2 := Lib.hid ((Y2.new w1 _ _ _).keep hb2); have ⟨c0, c1, f0, _⟩ := Z2.out; have ⟨i0, i1, _, _⟩ := V2.out; clear hb2))
    refine bodyPost_ret (v := .tuple #[.agg #[.int .i64 0, .int .i64 0], .int .i64 0, .bool false]) ?hres rfl ⟨rfl, ?hbel⟩
    case hres => simp [results, Tryd.results15, go_sem, *]
    case hbel => exact (HB2.out.setCell (by first | (simp; done) | (simp; omega)) _).setCell (by first | (simp; done) | (simp; omega)) _
end Go.Proofs.YtbjcldekapipaaaDoor
