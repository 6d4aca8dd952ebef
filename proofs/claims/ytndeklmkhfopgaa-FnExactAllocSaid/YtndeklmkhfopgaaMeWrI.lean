/-
  The walk of the program's WriteMem.
-/
import Derived.Test.YtndeklmkhfopgaaMeFr
import Derived.Lib.BufferWrite
import Derived.Lib.ConvBytes
import Derived.Laws.AppendOwn
import Derived.Laws.IdiomStrings
import Derived.Laws.IdiomCopy
namespace Go.Proofs.Ytndeklmkhfopgaa
open Go.ChangeShapes Go.WideShapes Go.ChangeAt Go.RowKit Go.Deep

/-- Bytes written over a memory's. -/
def putOver (s : ByteArray) (p : Nat) (t : ByteArray) : ByteArray := s.extract 0 p ++ t ++ s.extract (p + t.size) s.size
def memWrite (x : Me) (p : Int) (t : ByteArray) : Me × Int :=
  if memOk x = true then (if 0 ≤ p ∧ 0 ≤ (t.size : Int) ∧ (t.size : Int) ≤ (x.bytes.size : Int) - p then (⟨putOver x.bytes p.toNat t, x.free⟩, 0) else (noMe, 10)) else (noMe, 1)

set_option maxRecDepth 100000 in
set_option maxHeartbeats 1000000 in
theorem implWrite_bad (x : Me) (hT : x.wt ≤ 1048576) (hfin : x.Fin) (hno : memOk x = false) (R : Option Addr) (c : Nat) (p : Int) (t : ByteArray) (lo : Nat) (w : World) (h : Me.At w lo x R) :
    Calls Try.prog 30 #[.agg #[.string x.bytes, .slice R x.free.length c], .int .i64 p, .string t] w (MeAns2 noMe 1 w) := by
  have CM := fun W (h : Me.At W lo x R) => implMemoryOk_any x hT hfin R c lo W h
  rw [hno] at CM
  have CM := Lib.hid CM
  have H := Lib.hid h
  clear h hno hfin hT
  go_enter Try.func30, Try.ntmps30
  go_wp2_with fail
  have F0 := Lib.hid (Fr.new w x R c)
  go_at_call 68
  refine (CM.out _ (Me.At.below H.out F0.out.hb)).mono ?_
  rintro e w1 ⟨rfl, hb1⟩
  have F1 := Lib.hid (F0.out.below hb1)
  have q0 := F1.out.q0
  have q1 := F1.out.q1
  have qf := F1.out.qf
  clear hb1
  go_wp2_with fail
  obtain ⟨s0, s1, s2⟩ := F1.out.ret (.string ⟨#[]⟩) (.slice none 0 0)
  refine bodyPost_ret (v := .tuple #[.agg #[.string ⟨#[]⟩, .slice none 0 0], .int .i64 1]) (by simp [results, Try.results30, go_sem, s0, s1]) rfl ?_
  exact ⟨none, 0, rfl, ownBk_nil _ _, s2⟩
set_option maxRecDepth 100000 in
set_option maxHeartbeats 1000000 in
theorem implWrite_out (x : Me) (hT : x.wt ≤ 1048576) (hfin : x.Fin) (hok : memOk x = true) (R : Option Addr) (c : Nat) (p : Int) (hp : -9223372036854775808 ≤ p ∧ p ≤ 9223372036854775807) (t : ByteArray) (_ht : t.size ≤ 1048576) (hno : ¬ (0 ≤ p ∧ 0 ≤ (t.size : Int) ∧ (t.size : Int) ≤ (x.bytes.size : Int) - p)) (lo : Nat) (w : World) (h : Me.At w lo x R) :
    Calls Try.prog 30 #[.agg #[.string x.bytes, .slice R x.free.length c], .int .i64 p, .string t] w (MeAns2 noMe 10 w) := by
  have CM := fun W (h : Me.At W lo x R) => implMemoryOk_any x hT hfin R c lo W h
  rw [hok] at CM
  have CM := Lib.hid CM
  have CI := fun W => inBounds_any x.bytes (Me.parts_le hT).1 R x.free.length c p t.size hp.1 hp.2 W
  rw [decide_eq_false hno] at CI
  have CI := Lib.hid CI
  have H := Lib.hid h
  clear h hno hfin hT hok
  go_enter Try.func30, Try.ntmps30
  go_wp2_with fail
  have F0 := Lib.hid (Fr.new w x R c)
  go_at_call 68
  refine (CM.out _ (Me.At.below H.out F0.out.hb)).mono ?_
  rintro e w1 ⟨rfl, hb1⟩
  have F1 := Lib.hid (F0.out.below hb1)
  have k0 := F1.out.k0
  have k1 := F1.out.k1
  clear hb1
  go_wp2_with fail
  go_at_call 69
  refine (CI.out _).mono ?_
  rintro e w2 ⟨rfl, hb2⟩
  have F2 := Lib.hid (F1.out.below hb2)
  have q0 := F2.out.q0
  have q1 := F2.out.q1
  have qf := F2.out.qf
  clear hb2 k0 k1
  go_wp2_with fail
  obtain ⟨s0, s1, s2⟩ := F2.out.ret (.string ⟨#[]⟩) (.slice none 0 0)
  refine bodyPost_ret (v := .tuple #[.agg #[.string ⟨#[]⟩, .slice none 0 0], .int .i64 10]) (by simp [results, Try.results30, go_sem, s0, s1]) rfl ?_
  exact ⟨none, 0, rfl, ownBk_nil _ _, s2⟩
theorem infoU87 : (Try.prog.info? 5).map (fun i => (i.zero, i.size, i.bytes)) = some (some (.int .u8 0), 1, 1) := by kernel_rfl
theorem sizeOfU87 (w : World) : (Go.sizeOf 5).run Try.prog w = .ok 1 w := by kernel_rfl
/-- A string's bytes. -/
def u8s (s : ByteArray) : List Value := s.data.toList.map fun b => .int .u8 (b.toNat : Int)
theorem u8s_len (s : ByteArray) : (u8s s).length = s.size := by simp [u8s]
theorem u8s_get {s : ByteArray} {j : Nat} (h : j < s.size) : (u8s s)[j]? = some (.int .u8 ((s.data.toList.getD j 0).toNat : Int)) := by
  simp [u8s, List.getD, h]
theorem putOver_size {s t : ByteArray} {p : Nat} (h : p + t.size ≤ s.size) : (putOver s p t).size = s.size := by
  unfold putOver
  simp only [ByteArray.size_append, ByteArray.size_extract]
  omega
theorem putOver_list {s t : ByteArray} {p : Nat} : (putOver s p t).data.toList = s.data.toList.take p ++ t.data.toList ++ s.data.toList.drop (p + t.size) := by
  unfold putOver
  simp only [ByteArray.data_append, Array.toList_append, Lib.extract_data, List.drop_zero, Nat.sub_zero]
  congr 1
  refine List.take_of_length_le ?_
  simp
/-- 'copy(dst, s)', s a string no longer than dst. -/
theorem run_copy_str7 {P : Program} (w : World) (dT sT ty elem : TypeId) (b o dLen dCap : Nat) (t : ByteArray)
    (hu : P.underlying dT = some (.slice elem)) (hz : ∀ w, (Go.sizeOf elem).run P w = .ok 1 w) (hle : t.size ≤ dLen)
    (hc : ∀ j, j < t.size → (w.cell? ⟨b, o + j, none⟩).isSome = true) (hf : ∀ j, j < t.size → w.frozen? ⟨b, o + j, none⟩ = false) :
    (Builtin.copy_ #[dT, sT] ty #[.slice (some ⟨b, o, none⟩) dLen dCap, .string t]).run P w = .ok (goInt t.size) (w.setCells b o (u8s t)) := by
  have hmin : Nat.min t.size dLen = t.size := Nat.min_eq_left hle
  have hl : (t.data.toList.map fun x => Value.int .u8 (x.toNat : Int)).length = t.size := by rw [List.length_map]; simp
  have hst := run_storeCells_cells (P := P) b o (t.data.toList.map fun x => Value.int .u8 (x.toNat : Int)) 0 w (by rw [hl]; simpa using hc) (by rw [hl]; simpa using hf) (by
    intro v hv
    obtain ⟨x, _, rfl⟩ := List.mem_map.1 hv
    rfl)
  simp [Builtin.copy_, run_underlying hu, Builtin.lenOf, Builtin.firstCells, hz, hmin]
  rw [List.take_of_length_le (by rw [hl]; exact Nat.le_refl _), hst]
  rfl
theorem below_cells7 {B : Nat} {a : World} (b : Nat) (hb : B ≤ b) : ∀ (vs : List Value) (o : Nat) {w : World}, Below B a w → Below B a (w.setCells b o vs)
  | [], _, _, h => h
  | v :: r, o, _, h => below_cells7 b hb r (o + 1) (h.setCell (p := ⟨b, o, none⟩) hb v)
/-- The bytes of a string in memory, with some written over them. -/
theorem conv_over (W : World) (s t : ByteArray) (p q : Nat) (hin : p + t.size ≤ s.size) (hq : 0 < t.size → q = p) :
    ∃ (cap : Nat) (W3 W4 : World), (convert 9 95 (.string s)).run Try.prog W = .ok (.slice (some ⟨W.heap.size, 0, none⟩) s.size cap) W3 ∧ s.size ≤ cap ∧
      (Builtin.copy_ #[95, 9] 3 #[.slice (some ⟨W.heap.size, q, none⟩) t.size t.size, .string t]).run Try.prog W3 = .ok (goInt t.size) W4 ∧ Below W.heap.size W W3 ∧ Below W.heap.size W W4 ∧
      ∀ W5, Below W4.heap.size W4 W5 → (convert 95 9 (.slice (some ⟨W.heap.size, 0, none⟩) s.size cap)).run Try.prog W5 = .ok (.string (putOver s p t)) W5 := by
  obtain ⟨i0, hi, hz0, hz1, hz2⟩ := info_parts infoU87
  have hc := Lib.run_convert_string_bytes (P := Try.prog) W 9 95 5 s Try.underlying9 Try.underlying95 Try.underlying5
  obtain ⟨W3, hW3⟩ : ∃ W3, Lib.bytesWorld W 5 s = W3 := ⟨_, rfl⟩
  have hold := Lib.bytesWorld_at_old W 5 s
  have hnew := Lib.bytesWorld_at_new W 5 s
  have hsz := Lib.bytesWorld_size W 5 s
  have hcl := Lib.bytesWorld_cell W 5 s
  rw [hW3] at hc hold hnew hsz hcl
  have hos : W3.os = W.os ∧ W3.tape = W.tape ∧ W3.output = W.output := by rw [← hW3]; exact ⟨rfl, rfl, rfl⟩
  have hb3 : Below W.heap.size W W3 := ⟨hos.1, hos.2.1, hos.2.2, by omega, fun k hk => hold k hk⟩
  have hcap : s.size ≤ grownCap W s.size 0 5 := grownCap_ge _ _ _ _
  have hfz : ∀ j, j < s.size → W3.frozen? ⟨W.heap.size, j, none⟩ = false := fun j hj => by
    have h2 : (Lib.bytesCells W 5 s).size = s.size + (grownCap W s.size 0 5 - s.size) := by
      simp [Lib.bytesCells]
    simp only [World.frozen?, hnew, h2]
    have h3 : ¬ s.size + (grownCap W s.size 0 5 - s.size) ≤ j := by omega
    simp [h3]
  have hqs : ∀ j, j < t.size → q + j < s.size := fun j hj => by
    have := hq (by omega)
    omega
  have hin4 := World.cell?_setCells_in W.heap.size (u8s t) q W3 (fun j hj => by
    rw [u8s_len] at hj
    rw [hcl (q + j) (hqs j hj)]
    rfl)
  have hsl : s.data.toList.length = s.size := by simp
  have htl : t.data.toList.length = t.size := by simp
  have key : ∀ j, j < s.size → (W3.setCells W.heap.size q (u8s t)).cell? ⟨W.heap.size, j, none⟩ = some (.int .u8 (((putOver s p t).data.toList.getD j 0).toNat : Int)) := by
    intro j hj
    have hA : (s.data.toList.take p).length = p := by rw [List.length_take, hsl]; omega
    rw [putOver_list]
    by_cases h1 : p ≤ j ∧ j < p + t.size
    · have hqp := hq (by omega)
      subst hqp
      have h4 := hin4 (j - q) (by rw [u8s_len]; omega)
      rw [show q + (j - q) = j by omega] at h4
      have e := u8s_get (s := t) (j := j - q) (by omega)
      rw [List.getElem?_eq_getElem (by rw [u8s_len]; omega)] at e
      rw [h4, Option.some.inj e]
      have e5 : t.data.toList.getD (j - q) 0 = (s.data.toList.take q ++ t.data.toList ++ s.data.toList.drop (q + t.size)).getD j 0 := by
        simp only [List.getD_eq_getElem?_getD]
        rw [List.getElem?_append_left (by rw [List.length_append, hA, htl]; omega), List.getElem?_append_right (by rw [hA]; omega), hA]
      rw [e5]
    · rw [World.cell?_setCells_out W.heap.size (u8s t) q W3 ⟨W.heap.size, j, none⟩ (fun _ _ => by
        rw [u8s_len]
        dsimp only
        by_cases h0 : t.size = 0
        · omega
        · have := hq (by omega)
          omega), hcl j hj]
      have e5 : s.data.toList.getD j 0 = (s.data.toList.take p ++ t.data.toList ++ s.data.toList.drop (p + t.size)).getD j 0 := by
       simp only [List.getD_eq_getElem?_getD]
       by_cases h2 : j < p
       · rw [List.getElem?_append_left (by rw [List.length_append, hA, htl]; omega), List.getElem?_append_left (by rw [hA]; omega), List.getElem?_take_of_lt h2]
       · rw [List.getElem?_append_right (by rw [List.length_append, hA, htl]; omega), List.length_append, hA, htl, List.getElem?_drop, show p + t.size + (j - (p + t.size)) = j by omega]
      rw [e5]
  refine ⟨_, W3, W3.setCells W.heap.size q (u8s t), hc, hcap, ?_, hb3, below_cells7 _ (Nat.le_refl _) _ _ hb3, fun W5 hb5 => ?_⟩
  · exact run_copy_str7 W3 _ _ _ 5 W.heap.size q t.size t.size t Try.underlying95 sizeOfU87 (Nat.le_refl _) (fun j hj => by rw [hcl (q + j) (hqs j hj)]; rfl) (fun j hj => hfz _ (hqs j hj))
  · have hps := putOver_size hin
    have hb := run_convert_bytes_back (P := Try.prog) W5 95 9 5 ⟨W.heap.size, 0, none⟩ (grownCap W s.size 0 5) (putOver s p t).data.toList Try.underlying95 Try.underlying5 Try.underlying9 (fun j hj => by
      have hj' : j < s.size := by
        rw [← hps]
        simpa using hj
      have hadd : (⟨W.heap.size, 0, none⟩ : Addr).add j = ⟨W.heap.size, j, none⟩ := by unfold Addr.add; split <;> simp_all
      rw [hadd, keepCell hb5 (key j hj')]
      simp only [List.getD_eq_getElem?_getD, List.getElem?_eq_getElem hj, Option.getD_some])
    have e1 : (putOver s p t).data.toList.length = s.size := by rw [← hps]; simp
    rw [e1] at hb
    exact hb
theorem slice_over (g p : Nat) (t : ByteArray) (n : Nat) : ∃ q, (0 < t.size → q = p) ∧ ∀ cap : Nat, p + t.size ≤ cap → ∀ W, (Instr.slice 95 (.slice (some ⟨g, 0, none⟩) n cap) (some (.int .i64 (p : Int))) (some (.int .i64 ((p : Int) + (t.size : Int)))) (some (.int .i64 ((p : Int) + (t.size : Int))))).run Try.prog W = .ok (.slice (some ⟨g, q, none⟩) t.size t.size) W := by
  have he : Try.prog.elem 95 = 5 := by simp [Program.elem, Try.underlying95]
  have hu : Try.prog.underlying 95 = some (.slice (Try.prog.elem 95)) := by rw [he]; exact Try.underlying95
  refine ⟨if t.size = 0 then 0 else p, fun h => by rw [if_neg (by omega)], fun cap hc W => ?_⟩
  rw [run_slice_lhm W _ _ n cap hu .i64 .i64 .i64 (p : Int) ((p : Int) + (t.size : Int)) ((p : Int) + (t.size : Int)) (by omega) (by omega) (by omega) (by omega), he, sizeOfU87]
  have e1 : ((p : Int) + (t.size : Int)).toNat = p + t.size := by omega
  simp only [Result.andThen, sliced, e1, Int.toNat_natCast, Nat.mul_one]
  by_cases h0 : t.size = 0
  · rw [if_pos h0]
    simp [h0]
  · rw [if_neg h0]
    simp [h0, Addr.add]
    exact fun e => e.symm
set_option maxRecDepth 100000 in
set_option maxHeartbeats 1000000 in
theorem implWrite_yes (x : Me) (hT : x.wt ≤ 1048576) (hfin : x.Fin) (hok : memOk x = true) (R : Option Addr) (c : Nat) (p : Nat) (t : ByteArray) (_ht : t.size ≤ 1048576) (hin : p + t.size ≤ x.bytes.size) (lo : Nat) (w : World) (h : Me.At w lo x R) :
    Calls Try.prog 30 #[.agg #[.string x.bytes, .slice R x.free.length c], .int .i64 p, .string t] w (MeAns2 ⟨putOver x.bytes p t, x.free⟩ 0 w) := by
  have hbs := (Me.parts_le hT).1
  have CM := fun W (h : Me.At W lo x R) => implMemoryOk_any x hT hfin R c lo W h
  rw [hok] at CM
  have CM := Lib.hid CM
  have CI := fun W => inBounds_any x.bytes hbs R x.free.length c p t.size (by omega) (by omega) W
  rw [decide_eq_true (show 0 ≤ (p : Int) ∧ 0 ≤ (t.size : Int) ∧ (t.size : Int) ≤ (x.bytes.size : Int) - p by omega)] at CI
  have CI := Lib.hid CI
  have CC := Lib.hid (fun W (h : Me.At W lo x R) => copyMemory_any x (by have := memOk_len hok; omega) R c lo W h)
  have H := Lib.hid h
  have h1 : (p : Int) + (t.size : Int) ≤ (x.bytes.size : Int) := by omega
  have h2 : (p : Int) ≤ (p : Int) + (t.size : Int) := by omega
  clear h hfin hT hok
  go_enter Try.func30, Try.ntmps30
  go_wp2_with fail
  have F0 := Lib.hid (Fr.new w x R c)
  go_at_call 68
  refine (CM.out _ (Me.At.below H.out F0.out.hb)).mono ?_
  rintro e w1 ⟨rfl, hb1⟩
  have F1 := Lib.hid (F0.out.below hb1)
  have k0 := F1.out.k0
  have k1 := F1.out.k1
  clear hb1
  go_wp2_with fail
  go_at_call 69
  refine (CI.out _).mono ?_
  rintro e w2 ⟨rfl, hb2⟩
  have F2 := Lib.hid (F1.out.below hb2)
  replace k0 := F2.out.k0
  replace k1 := F2.out.k1
  have q0 := F2.out.q0
  have q1 := F2.out.q1
  have qf := F2.out.qf
  clear hb2
  obtain ⟨q, hq, hsl⟩ := slice_over w2.heap.size p t x.bytes.size
  obtain ⟨cap, W3, W4, hc, hcap, hcp, hb3, hb4, hfin⟩ := conv_over w2 x.bytes t p q hin hq
  have hsl := hsl cap (by omega)
  have F3 := Lib.hid (F2.out.below hb4)
  have k03 := (F2.out.below hb3).k0
  have k04 := F3.out.k0
  have k14 := F3.out.k1
  have q04 := F3.out.q0
  have q14 := F3.out.q1
  have qf4 := F3.out.qf
  have HF := Lib.hid hfin
  have HA := Lib.hid (Me.At.below H.out F3.out.hb)
  clear hcap hb3 hb4 hfin hq
  go_wp2_with fail
  go_at_call 70
  refine (CC.out _ HA.out).mono ?_
  rintro e w5 ⟨R5, c5, rfl, ho5, hb5⟩
  have F5 := Lib.hid (F3.out.below hb5)
  have hcv := fun o => HF.out (w5.alloc o) (bnext hb5 (below1 w5 o))
  have HO5 := Lib.hid ho5
  have HZ3 := Lib.hid F3.out.hz
  have hw5 := hb5.size
  have q05 := fun o => keepCell (below1 w5 o) F5.out.q0
  have q15 := fun o => keepCell (below1 w5 o) F5.out.q1
  have qf5 := F5.out.qf
  have qf6 := fun o j => ((below1 w5 o).frozen (p := ⟨w.heap.size + 1, j, none⟩) (by have := F5.out.hz; dsimp only; omega)).trans (qf5 j)
  have hzne : w.heap.size + 1 ≠ w5.heap.size := by have := F5.out.hz; omega
  clear ho5 hb5 hc hcp hsl k0 k1 q0 q1 qf k03 k04 k14 q04 q14 qf4
  go_wp2_with fail
  obtain ⟨s0, s1, s2⟩ := (F5.out.below (below1 w5 (.cells #[.string (putOver x.bytes p t), .slice R5 x.free.length c5] 50))).ret (.string (putOver x.bytes p t)) (.slice R5 x.free.length c5)
  refine bodyPost_ret (v := .tuple #[.agg #[.string (putOver x.bytes p t), .slice R5 x.free.length c5], .int .i64 0]) (by simp [results, Try.results30, go_sem, s0, s1]) rfl ?_
  exact ⟨R5, c5, rfl, (HO5.out.keep (below1 _ _)).ret HZ3.out _ _, s2⟩
theorem implWriteMem_any (x : Me) (hT : x.wt ≤ 1048576) (hfin : x.Fin) (R : Option Addr) (c : Nat) (p : Int) (hp : -9223372036854775808 ≤ p ∧ p ≤ 9223372036854775807) (t : ByteArray) (ht : t.size ≤ 1048576) (lo : Nat) (w : World) (h : Me.At w lo x R) :
    Calls Try.prog 30 #[.agg #[.string x.bytes, .slice R x.free.length c], .int .i64 p, .string t] w (MeAns2 (memWrite x p t).1 (memWrite x p t).2 w) := by
  unfold memWrite
  by_cases hok : memOk x = true
  · rw [if_pos hok]
    by_cases hi : 0 ≤ p ∧ 0 ≤ (t.size : Int) ∧ (t.size : Int) ≤ (x.bytes.size : Int) - p
    · rw [if_pos hi]
      obtain ⟨q, rfl⟩ := Int.eq_ofNat_of_zero_le hi.1
      exact implWrite_yes x hT hfin hok R c q t ht (by omega) lo w h
    · rw [if_neg hi]
      exact implWrite_out x hT hfin hok R c p hp t ht hi lo w h
  · rw [if_neg hok]
    exact implWrite_bad x hT hfin (by simpa using hok) R c p t lo w h
end Go.Proofs.Ytndeklmkhfopgaa
