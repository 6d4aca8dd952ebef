/-
  The names of a module's imports and cores; ModuleShape, CoreOf and ImportOf of the program.
-/
import Derived.Test.YtoeofhhmkkpjbaaDoorShapeI
import Derived.Test.YtoeofhhmkkpjbaaDoorAreDist
import Derived.Test.YtoeofhhmkkpjbaaDoorStWMoC
import Derived.OwnWalk
import Derived.Laws.AppendOwn
import Derived.Laws.OwnMore
import Derived.Deep.AppendLies
namespace Go.Proofs.YtoeofhhmkkpjbaaDoor
open Go.ChangeShapes Go.WideShapes Go.ChangeAt Go.RowKit Go.Deep

theorem infoString15 : (Tryd.prog.info? 9).map (fun i => (i.zero, i.size, i.bytes)) = some (some (.string ⟨#[]⟩), 1, 16) := by kernel_rfl
/-- A row of texts of one's own. -/
def OwnS (W : World) (base : Nat) (xs : List ByteArray) (R : Option Addr) (n c : Nat) : Prop := xs.length = n ∧ W.ownsRow base 9 1 (.slice R n c) n (xs.map Value.string)
theorem OwnS.snoc2 {W wr w1 : World} {xs : List ByteArray} {m : ByteArray} {R3 : Option Addr} {c3 g cap n : Nat} {o o2 : Obj} (HO : OwnS wr W.heap.size xs R3 n c3) (HB : Below W.heap.size W wr)
    (hown : w1.ownsRow W.heap.size 9 1 (.slice (some ⟨g, 0, none⟩) (n + 1) cap) (n + 1) (xs.map Value.string ++ [.string m])) (hgrow : ((wr.alloc o).alloc o2).grownBy w1 (Value.slice R3 n c3).ownBlock) :
    OwnS w1 W.heap.size (xs ++ [m]) (some ⟨g, 0, none⟩) (n + 1) cap ∧ Below W.heap.size W w1 :=
  ⟨⟨by rw [List.length_append, HO.1]; rfl, by rw [List.map_append]; exact hown⟩, ((HB.alloc HB.size _).alloc (by have := HB.size; simp; omega) _).grown hgrow (by have := HB.size; simp; omega) (fun g hg => (HO.2.lt g hg).1)⟩
theorem OwnS.strs {w : World} {base : Nat} {xs : List ByteArray} {R : Option Addr} {c : Nat} (h : OwnS w base xs R xs.length c) : Strs w base xs R := by
  rcases h.2.2 with ⟨e, e2⟩ | ⟨g, cap', cur, e, hg, hb, h1, h2, h3, h4⟩
  · exact fun hp => by omega
  · injection e with e1 e2 e3
    subst e1
    refine fun hp => ⟨g, 0, rfl, hg, fun i n hn => ?_⟩
    have hi : i < xs.length := (List.getElem?_eq_some_iff.1 hn).1
    have hci : cur.toList[i]? = some (Value.string n) := by
      have h5 := congrArg (fun z => z[i]?) h4
      simp only [List.getElem?_take, Nat.mul_one, if_pos hi, List.getElem?_map, hn, Option.map_some] at h5
      exact h5
    simp only [World.cell?, hb, Nat.zero_add]
    rw [Array.getElem?_toList] at hci
    exact hci
theorem newsS (W : World) (o : Obj) (v : Value) (t : TypeId) : ∀ (j : Nat) (u : Value), [v][j]? = some u → ((W.alloc o).alloc (.cells #[v] t)).cell? ((⟨W.heap.size + 1, 0, none⟩ : Addr).add j) = some u := by
  intro j u hu
  cases j with
  | zero =>
    simp at hu
    subst hu
    simp [Addr.add]
  | succ n => simp at hu
theorem takeN {l : List ByteArray} {k : Nat} {s : ByteArray} (h : l[k]? = some s) : l.take (k + 1) = l.take k ++ [s] := by
  obtain ⟨hk, rfl⟩ := List.getElem?_eq_some_iff.1 h
  rw [List.take_succ_eq_append_getElem hk]
/-- The answer is a row of texts. -/
def AnsS (ls : List ByteArray) (w : World) (e : Ending) (w' : World) : Prop := ∃ (A : Option Addr) (c : Nat), e = .returned (.slice A ls.length c) ∧ Strs w' w.heap.size ls A ∧ Below w.heap.size w w'

set_option maxHeartbeats 2000000 in
set_option maxRecDepth 100000 in
theorem importNames_any (x : Mo) (hx : x.wt ≤ 1048576) (Rimports : Option Addr) (cimports : Nat) (Rcores : Option Addr) (ccores : Nat) (lo : Nat) (w : World) (h : Mo.At w lo x Rimports Rcores) :
    Calls Tryd.prog 66 #[.agg #[.int .i64 x.pages, .slice Rimports x.imports.length cimports, .slice Rcores x.cores.length ccores]] w (AnsS (imN x) w) := by
  obtain ⟨q_imports, q_cores, _⟩ := Mo.parts_le hx
  have hm : x.imports.length ≤ 1048576 := by have := Im.wts_nonneg x.imports; have := Co.wts_nonneg x.cores; omega
  have H := Lib.hid h
  obtain ⟨i0, hi0, hz0, hz1, hz2⟩ := info_parts infoString15
  clear h hx q_imports q_cores
  go_enter Tryd.func66, Tryd.ntmps66
  go_wp2_with fail
  go_loopw [3, 9] (fun v i wr => ∃ k : Nat, k ≤ x.imports.length ∧ i = .int .i64 k ∧ (∃ (R : Option Addr) (c : Nat), v = .slice R k c ∧ Hid (OwnS wr w.heap.size ((imN x).take k) R k c)) ∧ Hid (Below w.heap.size w wr)) (fun _ i _ => x.imports.length - (intOf i).toNat)
  case atStart => exact ⟨0, Nat.zero_le _, rfl, ⟨_, _, rfl, rfl, World.ownsRow_nil _ _ _ _⟩, below1 _ _⟩
  case round =>
    obtain ⟨k, hk, rfl, ⟨R3, c3, rfl, HO⟩, HB⟩ := hrel
    by_cases hlt : k < x.imports.length
    · obtain ⟨b, o, y, rfl, _, hyk, hc⟩ := (Ims.below H.out.1 HB.out).at_ hlt
      obtain ⟨c0_, c1_, c2_, _⟩ := hc
      have hz9 : b < wr.heap.size := World.block_lt_of_cell? wr _ c0_
      have hli : (k : Int) < (x.imports.length : Int) := by omega
      have hzi : w.heap.size ≤ wr.heap.size := HB.out.size
      have HTK : Hid ((imN x).take (k + 1) = (imN x).take k ++ [y.name]) := Lib.hid (takeN (by unfold imN; rw [List.getElem?_map, hyk]; rfl))
      clear hyk
      go_wp2_with (at_builtin; refine wpList_append_lies _ rfl _ _ _ rfl w.heap.size 9 i0 _ 1 16 Tryd.underlying69 hi0 hz0 hz1 hz2 rfl (by decide) (.slice R3 k c3) k (((imN x).take k).map Value.string) rfl ((HO.out.2.alloc _).alloc _) ⟨wr.heap.size + 1, 0, none⟩ 1 1 [.string y.name] rfl rfl (newsS _ _ _ _) (by simp [Value.oneCell']) (by omega) (by unfold maxLen; omega) (by omega) (by simp; omega) _ rfl ?_; intro g4 cap w4 hown4 hgrow4 hat4 hlt4; have HS4 := Lib.hid (HO.out.snoc2 (m := y.name) HB.out hown4 hgrow4); clear hown4 hgrow4 hat4 hlt4)
      go_roundw
      case rel => exact ⟨k + 1, by omega, by go_num, ⟨_, _, rfl, by rw [HTK.out]; exact HS4.out.1⟩, HS4.out.2⟩
      case measure => simp [intOf]; omega
    · obtain rfl : k = x.imports.length := by omega
      have hlti : ¬ (x.imports.length : Int) < (x.imports.length : Int) := by omega
      have hall : (imN x).take x.imports.length = imN x := List.take_of_length_le (by unfold imN; rw [List.length_map]; exact Nat.le_refl _)
      have HO' := HO.out
      rw [hall] at HO'
      have hln : (imN x).length = x.imports.length := by unfold imN; rw [List.length_map]
      have HA : Hid (AnsS (imN x) w (.returned (.slice R3 x.imports.length c3)) wr) := Lib.hid (by rw [← hln]; exact ⟨_, _, rfl, OwnS.strs (by rw [hln]; exact HO'), HB.out⟩)
      clear HO HO' hall hln
      go_wp2_with fail
      go_ret
      exact HA.out

set_option maxHeartbeats 2000000 in
set_option maxRecDepth 100000 in
theorem coreNames_any (x : Mo) (hx : x.wt ≤ 1048576) (Rimports : Option Addr) (cimports : Nat) (Rcores : Option Addr) (ccores : Nat) (lo : Nat) (w : World) (h : Mo.At w lo x Rimports Rcores) :
    Calls Tryd.prog 67 #[.agg #[.int .i64 x.pages, .slice Rimports x.imports.length cimports, .slice Rcores x.cores.length ccores]] w (AnsS (coN x) w) := by
  obtain ⟨q_imports, q_cores, _⟩ := Mo.parts_le hx
  have hm : x.cores.length ≤ 1048576 := by have := Im.wts_nonneg x.imports; have := Co.wts_nonneg x.cores; omega
  have H := Lib.hid h
  obtain ⟨i0, hi0, hz0, hz1, hz2⟩ := info_parts infoString15
  clear h hx q_imports q_cores
  go_enter Tryd.func67, Tryd.ntmps67
  go_wp2_with fail
  go_loopw [3, 9] (fun v i wr => ∃ k : Nat, k ≤ x.cores.length ∧ i = .int .i64 k ∧ (∃ (R : Option Addr) (c : Nat), v = .slice R k c ∧ Hid (OwnS wr w.heap.size ((coN x).take k) R k c)) ∧ Hid (Below w.heap.size w wr)) (fun _ i _ => x.cores.length - (intOf i).toNat)
  case atStart => exact ⟨0, Nat.zero_le _, rfl, ⟨_, _, rfl, rfl, World.ownsRow_nil _ _ _ _⟩, below1 _ _⟩
  case round =>
    obtain ⟨k, hk, rfl, ⟨R3, c3, rfl, HO⟩, HB⟩ := hrel
    by_cases hlt : k < x.cores.length
    · obtain ⟨b, o, y, R1, c1, rfl, _, hyk, hc⟩ := (Cos.below H.out.2 HB.out).at_ hlt
      obtain ⟨c0_, c1_, c2_, c3_, c4_, _⟩ := hc
      have hz9 : b < wr.heap.size := World.block_lt_of_cell? wr _ c0_
      have hli : (k : Int) < (x.cores.length : Int) := by omega
      have hzi : w.heap.size ≤ wr.heap.size := HB.out.size
      have HTK : Hid ((coN x).take (k + 1) = (coN x).take k ++ [y.name]) := Lib.hid (takeN (by unfold coN; rw [List.getElem?_map, hyk]; rfl))
      clear hyk
      go_wp2_with (at_builtin; refine wpList_append_lies _ rfl _ _ _ rfl w.heap.size 9 i0 _ 1 16 Tryd.underlying69 hi0 hz0 hz1 hz2 rfl (by decide) (.slice R3 k c3) k (((coN x).take k).map Value.string) rfl ((HO.out.2.alloc _).alloc _) ⟨wr.heap.size + 1, 0, none⟩ 1 1 [.string y.name] rfl rfl (newsS _ _ _ _) (by simp [Value.oneCell']) (by omega) (by unfold maxLen; omega) (by omega) (by simp; omega) _ rfl ?_; intro g4 cap w4 hown4 hgrow4 hat4 hlt4; have HS4 := Lib.hid (HO.out.snoc2 (m := y.name) HB.out hown4 hgrow4); clear hown4 hgrow4 hat4 hlt4)
      go_roundw
      case rel => exact ⟨k + 1, by omega, by go_num, ⟨_, _, rfl, by rw [HTK.out]; exact HS4.out.1⟩, HS4.out.2⟩
      case measure => simp [intOf]; omega
    · obtain rfl : k = x.cores.length := by omega
      have hlti : ¬ (x.cores.length : Int) < (x.cores.length : Int) := by omega
      have hall : (coN x).take x.cores.length = coN x := List.take_of_length_le (by unfold coN; rw [List.length_map]; exact Nat.le_refl _)
      have HO' := HO.out
      rw [hall] at HO'
      have hln : (coN x).length = x.cores.length := by unfold coN; rw [List.length_map]
      have HA : Hid (AnsS (coN x) w (.returned (.slice R3 x.cores.length c3)) wr) := Lib.hid (by rw [← hln]; exact ⟨_, _, rfl, OwnS.strs (by rw [hln]; exact HO'), HB.out⟩)
      clear HO HO' hall hln
      go_wp2_with fail
      go_ret
      exact HA.out

end Go.Proofs.YtoeofhhmkkpjbaaDoor
