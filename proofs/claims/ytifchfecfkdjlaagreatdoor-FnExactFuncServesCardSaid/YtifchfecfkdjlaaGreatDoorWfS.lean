/-
  The walk of the model's l08Func.
-/
import Derived.Test.YtifchfecfkdjlaaGreatDoorWfP
import Derived.Deep.CutRange
import Derived.Deep.RegionHeld3
namespace Go.Proofs.YtifchfecfkdjlaaGreatDoor
open Go.ChangeShapes Go.WideShapes Go.ChangeAt Go.RowKit Go.Deep

theorem setTwo {w : World} {g : Nat} {u0 u1 v0 v1 : Value} (h0 : w.cell? ⟨g, 0, none⟩ = some u0) (h1 : w.cell? ⟨g, 1, none⟩ = some u1) : ((w.setCell ⟨g, 0, none⟩ v0).setCell ⟨g, 1, none⟩ v1).cell? ⟨g, 0, none⟩ = some v0 ∧ ((w.setCell ⟨g, 0, none⟩ v0).setCell ⟨g, 1, none⟩ v1).cell? ⟨g, 1, none⟩ = some v1 := by
  have kk := sets_in w g [v0, v1] (fun j hj => by
    have h4 : j = 0 ∨ j = 1 := by simp at hj; omega
    rcases h4 with rfl | rfl <;> simp [h0, h1])
  exact ⟨kk 0 (by simp), kk 1 (by simp)⟩
theorem farSet {w : World} {p a : Addr} {u v : Value} (hne : a.block ≠ p.block) (h : w.cell? a = some v) : (w.setCell p u).cell? a = some v := (World.cell?_setCell_other _ _ _ _ (fun e => hne (by rw [e]))).trans h
theorem app_nil (s : ByteArray) : s ++ (⟨#[]⟩ : ByteArray) = s := by
  apply ByteArray.ext
  simp
theorem blk_n2 (w : World) (a b : Obj) (c : Array Value) (t : TypeId) : Blk (((w.alloc a).alloc b).alloc (.cells c t)) (w.heap.size + 1 + 1) := ⟨c, t, by
  have h := heap_alloc_new ((w.alloc a).alloc b) (.cells c t)
  simpa using h⟩

set_option maxHeartbeats 2000000 in
set_option maxRecDepth 100000 in
theorem l08Func_any (H4 : SpTy 4) (a b : Fn) (ga : FnG a) (gb : FnG b) (Ra Rb A B A' B' : Option Addr) (na nb ca cb ca' cb' lo lo' : Nat) (pt : ByteArray) (hpt : pt.size ≤ 50000000) (w : World) (hat : Fn.At w lo a Ra A B) (hbt : Fn.At w lo' b Rb A' B') :
    Calls Tryz.prog 35 #[.agg #[.slice Ra a.params.length na, .int .i64 a.res.kind, .string a.res.name, .slice A a.res.labels.length ca, .slice B a.res.kids.length cb, .bool a.async], .agg #[.slice Rb b.params.length nb, .int .i64 b.res.kind, .string b.res.name, .slice A' b.res.labels.length ca', .slice B' b.res.kids.length cb', .bool b.async], .string pt] w (RsnS (Fn.why a b) pt w) := by
  obtain ⟨la, hna⟩ := Fn.name_le ga.1
  obtain ⟨lb, hnb⟩ := Fn.name_le gb.1
  obtain ⟨R, hR⟩ : ∃ R, Fn.why a b = R := ⟨_, rfl⟩
  rw [hR]
  have HPA := Lib.hid hat.1
  have HPB := Lib.hid hbt.1
  have HRA := Lib.hid hat.2.1
  have HRB := Lib.hid hbt.2.1
  have HN := Lib.hid (fun k p W => no_any k p W)
  clear hat hbt
  by_cases hl : a.params.length = b.params.length
  · have CR := Lib.hid (fun pt h W h1 h2 => H4 a.res b.res ga.2.1 gb.2.1 A B A' B' ca cb ca' cb' lo lo' pt h W h1 h2)
    have CP : Hid (∀ (j : Nat) (p q : Pm), a.params[j]? = some p → b.params[j]? = some q → ∀ (A B A' B' : Option Addr) (ca cb ca' cb' : Nat) (pt : ByteArray), pt.size ≤ 60000000 → ∀ W, Ty.At W lo' q.ty A B → Ty.At W lo p.ty A' B' → Calls Tryz.prog 31 #[.agg #[.int .i64 q.ty.kind, .string q.ty.name, .slice A q.ty.labels.length ca, .slice B q.ty.kids.length cb], .agg #[.int .i64 p.ty.kind, .string p.ty.name, .slice A' p.ty.labels.length ca', .slice B' p.ty.kids.length cb'], .string pt] W (RsnS (Ty.why 4 q.ty p.ty) pt W)) := Lib.hid (fun j p q hp hq A B A' B' ca cb ca' cb' pt h W h1 h2 => H4 q.ty p.ty (gb.2.2 q (List.mem_of_getElem? hq)) (ga.2.2 p (List.mem_of_getElem? hp)) A B A' B' ca cb ca' cb' lo' lo pt (by omega) W h1 h2)
    have HW : Hid (R = orR (pmsWhy (a.params.drop 0) (b.params.drop 0)) (a.whyR b)) := Lib.hid (by rw [← hR, Fn.why, if_pos hl, List.drop_zero, List.drop_zero])
    obtain ⟨n, hla⟩ : ∃ n, a.params.length = n := ⟨_, rfl⟩
    have hlb : b.params.length = n := by omega
    have HLA := Lib.hid hla
    have HLB := Lib.hid hlb
    rw [hla, hlb]
    rw [hla] at la
    have HNA := Lib.hid hna
    have HNB := Lib.hid hnb
    clear hR ga gb H4 hna hnb hl hla hlb lb
    have ka0 : (((w.alloc (.cells #[.slice Ra n na, .int .i64 a.res.kind, .string a.res.name, .slice A a.res.labels.length ca, .slice B a.res.kids.length cb, .bool a.async] 45)).alloc (.cells #[.slice Rb n nb, .int .i64 b.res.kind, .string b.res.name, .slice A' b.res.labels.length ca', .slice B' b.res.kids.length cb', .bool b.async] 45)).alloc (.cells #[.int .i64 0, .string ⟨#[]⟩] 34)).cell? ⟨w.heap.size, 0, none⟩ = some (.slice Ra n na) := by go_simp
    have ka1 : (((w.alloc (.cells #[.slice Ra n na, .int .i64 a.res.kind, .string a.res.name, .slice A a.res.labels.length ca, .slice B a.res.kids.length cb, .bool a.async] 45)).alloc (.cells #[.slice Rb n nb, .int .i64 b.res.kind, .string b.res.name, .slice A' b.res.labels.length ca', .slice B' b.res.kids.length cb', .bool b.async] 45)).alloc (.cells #[.int .i64 0, .string ⟨#[]⟩] 34)).cell? ⟨w.heap.size, 1, none⟩ = some (.int .i64 a.res.kind) := by go_simp
    have ka2 : (((w.alloc (.cells #[.slice Ra n na, .int .i64 a.res.kind, .string a.res.name, .slice A a.res.labels.length ca, .slice B a.res.kids.length cb, .bool a.async] 45)).alloc (.cells #[.slice Rb n nb, .int .i64 b.res.kind, .string b.res.name, .slice A' b.res.labels.length ca', .slice B' b.res.kids.length cb', .bool b.async] 45)).alloc (.cells #[.int .i64 0, .string ⟨#[]⟩] 34)).cell? ⟨w.heap.size, 2, none⟩ = some (.string a.res.name) := by go_simp
    have ka3 : (((w.alloc (.cells #[.slice Ra n na, .int .i64 a.res.kind, .string a.res.name, .slice A a.res.labels.length ca, .slice B a.res.kids.length cb, .bool a.async] 45)).alloc (.cells #[.slice Rb n nb, .int .i64 b.res.kind, .string b.res.name, .slice A' b.res.labels.length ca', .slice B' b.res.kids.length cb', .bool b.async] 45)).alloc (.cells #[.int .i64 0, .string ⟨#[]⟩] 34)).cell? ⟨w.heap.size, 3, none⟩ = some (.slice A a.res.labels.length ca) := by go_simp
    have ka4 : (((w.alloc (.cells #[.slice Ra n na, .int .i64 a.res.kind, .string a.res.name, .slice A a.res.labels.length ca, .slice B a.res.kids.length cb, .bool a.async] 45)).alloc (.cells #[.slice Rb n nb, .int .i64 b.res.kind, .string b.res.name, .slice A' b.res.labels.length ca', .slice B' b.res.kids.length cb', .bool b.async] 45)).alloc (.cells #[.int .i64 0, .string ⟨#[]⟩] 34)).cell? ⟨w.heap.size, 4, none⟩ = some (.slice B a.res.kids.length cb) := by go_simp
    have ka5 : (((w.alloc (.cells #[.slice Ra n na, .int .i64 a.res.kind, .string a.res.name, .slice A a.res.labels.length ca, .slice B a.res.kids.length cb, .bool a.async] 45)).alloc (.cells #[.slice Rb n nb, .int .i64 b.res.kind, .string b.res.name, .slice A' b.res.labels.length ca', .slice B' b.res.kids.length cb', .bool b.async] 45)).alloc (.cells #[.int .i64 0, .string ⟨#[]⟩] 34)).cell? ⟨w.heap.size, 5, none⟩ = some (.bool a.async) := by go_simp
    have kb0 : (((w.alloc (.cells #[.slice Ra n na, .int .i64 a.res.kind, .string a.res.name, .slice A a.res.labels.length ca, .slice B a.res.kids.length cb, .bool a.async] 45)).alloc (.cells #[.slice Rb n nb, .int .i64 b.res.kind, .string b.res.name, .slice A' b.res.labels.length ca', .slice B' b.res.kids.length cb', .bool b.async] 45)).alloc (.cells #[.int .i64 0, .string ⟨#[]⟩] 34)).cell? ⟨w.heap.size + 1, 0, none⟩ = some (.slice Rb n nb) := by go_simp
    have kb1 : (((w.alloc (.cells #[.slice Ra n na, .int .i64 a.res.kind, .string a.res.name, .slice A a.res.labels.length ca, .slice B a.res.kids.length cb, .bool a.async] 45)).alloc (.cells #[.slice Rb n nb, .int .i64 b.res.kind, .string b.res.name, .slice A' b.res.labels.length ca', .slice B' b.res.kids.length cb', .bool b.async] 45)).alloc (.cells #[.int .i64 0, .string ⟨#[]⟩] 34)).cell? ⟨w.heap.size + 1, 1, none⟩ = some (.int .i64 b.res.kind) := by go_simp
    have kb2 : (((w.alloc (.cells #[.slice Ra n na, .int .i64 a.res.kind, .string a.res.name, .slice A a.res.labels.length ca, .slice B a.res.kids.length cb, .bool a.async] 45)).alloc (.cells #[.slice Rb n nb, .int .i64 b.res.kind, .string b.res.name, .slice A' b.res.labels.length ca', .slice B' b.res.kids.length cb', .bool b.async] 45)).alloc (.cells #[.int .i64 0, .string ⟨#[]⟩] 34)).cell? ⟨w.heap.size + 1, 2, none⟩ = some (.string b.res.name) := by go_simp
    have kb3 : (((w.alloc (.cells #[.slice Ra n na, .int .i64 a.res.kind, .string a.res.name, .slice A a.res.labels.length ca, .slice B a.res.kids.length cb, .bool a.async] 45)).alloc (.cells #[.slice Rb n nb, .int .i64 b.res.kind, .string b.res.name, .slice A' b.res.labels.length ca', .slice B' b.res.kids.length cb', .bool b.async] 45)).alloc (.cells #[.int .i64 0, .string ⟨#[]⟩] 34)).cell? ⟨w.heap.size + 1, 3, none⟩ = some (.slice A' b.res.labels.length ca') := by go_simp
    have kb4 : (((w.alloc (.cells #[.slice Ra n na, .int .i64 a.res.kind, .string a.res.name, .slice A a.res.labels.length ca, .slice B a.res.kids.length cb, .bool a.async] 45)).alloc (.cells #[.slice Rb n nb, .int .i64 b.res.kind, .string b.res.name, .slice A' b.res.labels.length ca', .slice B' b.res.kids.length cb', .bool b.async] 45)).alloc (.cells #[.int .i64 0, .string ⟨#[]⟩] 34)).cell? ⟨w.heap.size + 1, 4, none⟩ = some (.slice B' b.res.kids.length cb') := by go_simp
    have kb5 : (((w.alloc (.cells #[.slice Ra n na, .int .i64 a.res.kind, .string a.res.name, .slice A a.res.labels.length ca, .slice B a.res.kids.length cb, .bool a.async] 45)).alloc (.cells #[.slice Rb n nb, .int .i64 b.res.kind, .string b.res.name, .slice A' b.res.labels.length ca', .slice B' b.res.kids.length cb', .bool b.async] 45)).alloc (.cells #[.int .i64 0, .string ⟨#[]⟩] 34)).cell? ⟨w.heap.size + 1, 5, none⟩ = some (.bool b.async) := by go_simp
    have r0 : (((w.alloc (.cells #[.slice Ra n na, .int .i64 a.res.kind, .string a.res.name, .slice A a.res.labels.length ca, .slice B a.res.kids.length cb, .bool a.async] 45)).alloc (.cells #[.slice Rb n nb, .int .i64 b.res.kind, .string b.res.name, .slice A' b.res.labels.length ca', .slice B' b.res.kids.length cb', .bool b.async] 45)).alloc (.cells #[.int .i64 0, .string ⟨#[]⟩] 34)).cell? ⟨w.heap.size + 1 + 1, 0, none⟩ = some (.int .i64 0) := by go_simp
    have r1 : (((w.alloc (.cells #[.slice Ra n na, .int .i64 a.res.kind, .string a.res.name, .slice A a.res.labels.length ca, .slice B a.res.kids.length cb, .bool a.async] 45)).alloc (.cells #[.slice Rb n nb, .int .i64 b.res.kind, .string b.res.name, .slice A' b.res.labels.length ca', .slice B' b.res.kids.length cb', .bool b.async] 45)).alloc (.cells #[.int .i64 0, .string ⟨#[]⟩] 34)).cell? ⟨w.heap.size + 1 + 1, 1, none⟩ = some (.string ⟨#[]⟩) := by go_simp
    have BR := Lib.hid (blk_n2 w (.cells #[.slice Ra n na, .int .i64 a.res.kind, .string a.res.name, .slice A a.res.labels.length ca, .slice B a.res.kids.length cb, .bool a.async] 45) (.cells #[.slice Rb n nb, .int .i64 b.res.kind, .string b.res.name, .slice A' b.res.labels.length ca', .slice B' b.res.kids.length cb', .bool b.async] 45) #[.int .i64 0, .string ⟨#[]⟩] 34)
    have HW3 := Lib.hid (below3 w (.cells #[.slice Ra n na, .int .i64 a.res.kind, .string a.res.name, .slice A a.res.labels.length ca, .slice B a.res.kids.length cb, .bool a.async] 45) (.cells #[.slice Rb n nb, .int .i64 b.res.kind, .string b.res.name, .slice A' b.res.labels.length ca', .slice B' b.res.kids.length cb', .bool b.async] 45) (.cells #[.int .i64 0, .string ⟨#[]⟩] 34))
    have hz3 : (((w.alloc (.cells #[.slice Ra n na, .int .i64 a.res.kind, .string a.res.name, .slice A a.res.labels.length ca, .slice B a.res.kids.length cb, .bool a.async] 45)).alloc (.cells #[.slice Rb n nb, .int .i64 b.res.kind, .string b.res.name, .slice A' b.res.labels.length ca', .slice B' b.res.kids.length cb', .bool b.async] 45)).alloc (.cells #[.int .i64 0, .string ⟨#[]⟩] 34)).heap.size = w.heap.size + 3 := by simp
    go_enter Tryz.func35, Tryz.ntmps35
    go_wp2_with fail
    generalize (((w.alloc (.cells #[.slice Ra n na, .int .i64 a.res.kind, .string a.res.name, .slice A a.res.labels.length ca, .slice B a.res.kids.length cb, .bool a.async] 45)).alloc (.cells #[.slice Rb n nb, .int .i64 b.res.kind, .string b.res.name, .slice A' b.res.labels.length ca', .slice B' b.res.kids.length cb', .bool b.async] 45)).alloc (.cells #[.int .i64 0, .string ⟨#[]⟩] 34)) = W at *
    go_loopw [8] (fun i wr => ∃ j : Nat, j ≤ n ∧ i = .int .i64 j ∧ Hid (R = orR (pmsWhy (a.params.drop j) (b.params.drop j)) (a.whyR b)) ∧ Hid (Below W.heap.size W wr)) (fun i _ => n - (intOf i).toNat)
    case atStart => exact ⟨0, Nat.zero_le _, rfl, HW, Below.refl _ _⟩
    case round =>
      obtain ⟨j, hj, rfl, HWj, HB⟩ := hrel
      have sa0 := keepCell HB.out ka0
      have sb0 := keepCell HB.out kb0
      have q0 := keepCell HB.out r0
      have q1 := keepCell HB.out r1
      have brr := (BR.out.below HB.out).free
      have f1 := fun o => brr o
      have HBw := Lib.hid (bnext HW3.out HB.out)
      by_cases hlt : j < n
      · obtain ⟨b1, o1, p, Ap, Bp, cp, dp, hra, _, hp, hcp⟩ := (HPA.out.below HBw.out).at_ (k := j) (by have := HLA.out; omega)
        obtain ⟨b2, o2, q, Aq, Bq, cq, dq, hrb, _, hq, hcq⟩ := (HPB.out.below HBw.out).at_ (k := j) (by have := HLB.out; omega)
        subst hra
        subst hrb
        have hnp := HNA.out j p hp
        have hnq := HNB.out j q hq
        rw [pmsWhy_drop hp hq, orR_assoc] at HWj
        have C := Lib.hid (CP.out j p q hp hq)
        obtain ⟨c0, c1, c2, c3, c4, cat⟩ := hcp
        obtain ⟨d0, d1, d2, d3, d4, dat⟩ := hcq
        have HPT := Lib.hid cat.1
        have HQT := Lib.hid dat.1
        have hlj : (j : Int) < (n : Int) := by omega
        clear cat dat hp hq
        by_cases hn : p.name = q.name
        · rw [pmWhy, if_pos hn] at HWj
          rw [hn] at c0
          obtain ⟨X, hX⟩ : ∃ X, Ty.why 4 q.ty p.ty = X := ⟨_, rfl⟩
          rw [hX] at HWj
          have hsz : (pt ++ (⟨#[40]⟩ : ByteArray) ++ q.name ++ ⟨#[41]⟩).size ≤ 60000000 := by
            rw [ByteArray.size_append, ByteArray.size_append, ByteArray.size_append]
            show pt.size + 1 + q.name.size + 1 ≤ 60000000
            omega
          obtain ⟨P, hP⟩ : ∃ P, pt ++ (⟨#[40]⟩ : ByteArray) ++ q.name ++ ⟨#[41]⟩ = P := ⟨_, rfl⟩
          have HP := Lib.hid hP
          rw [hP] at hsz
          have C' := Lib.hid (fun W h1 h2 => (C.out Aq Bq Ap Bp cq dq cp dp P hsz W h1 h2).mono fun e w' h => (show RsnS X P W e w' by rw [← hX]; exact h))
          clear hX C hsz hP
          go_wp2_with fail
          go_quiet (fail)
          go_wp2_with fail
          rw [HP.out]
          have hbq := belowN (Below.refl wr.heap.size wr) nq
          replace sa0 := keepCell hbq sa0
          replace sb0 := keepCell hbq sb0
          replace q0 := keepCell hbq q0
          replace q1 := keepCell hbq q1
          replace c1 := keepCell hbq c1
          replace c2 := keepCell hbq c2
          replace c3 := keepCell hbq c3
          replace c4 := keepCell hbq c4
          replace d1 := keepCell hbq d1
          replace d2 := keepCell hbq d2
          replace d3 := keepCell hbq d3
          replace d4 := keepCell hbq d4
          replace HPT := Lib.hid (HPT.out.below hbq)
          replace HQT := Lib.hid (HQT.out.below hbq)
          have HBX := Lib.hid (bnext HB.out hbq)
          clear hbq f1 brr c0 d0 HB HBw
          generalize wr.drewN nq = wx at *
          go_cut [10, 11] from 25 to 77 (fun r no w' => ∃ g : Nat, r = .pointer (some ⟨g, 0, none⟩) ∧ no = .bool X.isSome ∧ wx.heap.size ≤ g ∧ w'.cell? ⟨g, 0, none⟩ = some (.int .i64 (rk X)) ∧ w'.cell? ⟨g, 1, none⟩ = some (.string (rp P X)) ∧ Below wx.heap.size wx w')
          case first =>
            have hl1 : w.heap.size < wx.heap.size := World.block_lt_of_cell? wx _ sa0
            have hl2 : w.heap.size + 1 < wx.heap.size := World.block_lt_of_cell? wx _ sb0
            have hl3 : b1 < wx.heap.size := World.block_lt_of_cell? wx _ c1
            have hl4 : b2 < wx.heap.size := World.block_lt_of_cell? wx _ d1
            go_region_held3 (fun w' => w'.cell? ⟨w.heap.size, 0, none⟩ = some (.slice (some ⟨b1, o1, none⟩) n na) ∧ w'.cell? ⟨w.heap.size + 1, 0, none⟩ = some (.slice (some ⟨b2, o2, none⟩) n nb) ∧ w'.cell? ⟨b1, o1 + j * 5 + 1, none⟩ = some (.int .i64 p.ty.kind) ∧ w'.cell? ⟨b1, o1 + j * 5 + 2, none⟩ = some (.string p.ty.name) ∧ w'.cell? ⟨b1, o1 + j * 5 + 3, none⟩ = some (.slice Ap p.ty.labels.length cp) ∧ w'.cell? ⟨b1, o1 + j * 5 + 4, none⟩ = some (.slice Bp p.ty.kids.length dp) ∧ w'.cell? ⟨b2, o2 + j * 5 + 1, none⟩ = some (.int .i64 q.ty.kind) ∧ w'.cell? ⟨b2, o2 + j * 5 + 2, none⟩ = some (.string q.ty.name) ∧ w'.cell? ⟨b2, o2 + j * 5 + 3, none⟩ = some (.slice Aq q.ty.labels.length cq) ∧ w'.cell? ⟨b2, o2 + j * 5 + 4, none⟩ = some (.slice Bq q.ty.kids.length dq))
              (first | (with_reducible assumption) | (with_reducible exact ⟨keepCell (Below.refl _ _).drew sa0, keepCell (Below.refl _ _).drew sb0, keepCell (Below.refl _ _).drew c1, keepCell (Below.refl _ _).drew c2, keepCell (Below.refl _ _).drew c3, keepCell (Below.refl _ _).drew c4, keepCell (Below.refl _ _).drew d1, keepCell (Below.refl _ _).drew d2, keepCell (Below.refl _ _).drew d3, keepCell (Below.refl _ _).drew d4⟩) | (with_reducible exact ⟨keepCell (below1 _ _) sa0, keepCell (below1 _ _) sb0, keepCell (below1 _ _) c1, keepCell (below1 _ _) c2, keepCell (below1 _ _) c3, keepCell (below1 _ _) c4, keepCell (below1 _ _) d1, keepCell (below1 _ _) d2, keepCell (below1 _ _) d3, keepCell (below1 _ _) d4⟩) | (with_reducible exact ⟨keepCell (below1 _ _).drew sa0, keepCell (below1 _ _).drew sb0, keepCell (below1 _ _).drew c1, keepCell (below1 _ _).drew c2, keepCell (below1 _ _).drew c3, keepCell (below1 _ _).drew c4, keepCell (below1 _ _).drew d1, keepCell (below1 _ _).drew d2, keepCell (below1 _ _).drew d3, keepCell (below1 _ _).drew d4⟩) | (with_reducible exact ⟨keepCell (bnext (Below.refl _ _).drew (below1 _ _)) sa0, keepCell (bnext (Below.refl _ _).drew (below1 _ _)) sb0, keepCell (bnext (Below.refl _ _).drew (below1 _ _)) c1, keepCell (bnext (Below.refl _ _).drew (below1 _ _)) c2, keepCell (bnext (Below.refl _ _).drew (below1 _ _)) c3, keepCell (bnext (Below.refl _ _).drew (below1 _ _)) c4, keepCell (bnext (Below.refl _ _).drew (below1 _ _)) d1, keepCell (bnext (Below.refl _ _).drew (below1 _ _)) d2, keepCell (bnext (Below.refl _ _).drew (below1 _ _)) d3, keepCell (bnext (Below.refl _ _).drew (below1 _ _)) d4⟩) | (with_reducible exact ⟨usa0, usb0, uc1, uc2, uc3, uc4, ud1, ud2, ud3, ud4⟩) | (with_reducible exact ⟨keepCell (below1 _ _) usa0, keepCell (below1 _ _) usb0, keepCell (below1 _ _) uc1, keepCell (below1 _ _) uc2, keepCell (below1 _ _) uc3, keepCell (below1 _ _) uc4, keepCell (below1 _ _) ud1, keepCell (below1 _ _) ud2, keepCell (below1 _ _) ud3, keepCell (below1 _ _) ud4⟩) | (with_reducible exact ⟨farSet (by first | (dsimp only; omega) | (simp; omega)) (farSet (by first | (dsimp only; omega) | (simp; omega)) usa0), farSet (by first | (dsimp only; omega) | (simp; omega)) (farSet (by first | (dsimp only; omega) | (simp; omega)) usb0), farSet (by first | (dsimp only; omega) | (simp; omega)) (farSet (by first | (dsimp only; omega) | (simp; omega)) uc1), farSet (by first | (dsimp only; omega) | (simp; omega)) (farSet (by first | (dsimp only; omega) | (simp; omega)) uc2), farSet (by first | (dsimp only; omega) | (simp; omega)) (farSet (by first | (dsimp only; omega) | (simp; omega)) uc3), farSet (by first | (dsimp only; omega) | (simp; omega)) (farSet (by first | (dsimp only; omega) | (simp; omega)) uc4), farSet (by first | (dsimp only; omega) | (simp; omega)) (farSet (by first | (dsimp only; omega) | (simp; omega)) ud1), farSet (by first | (dsimp only; omega) | (simp; omega)) (farSet (by first | (dsimp only; omega) | (simp; omega)) ud2), farSet (by first | (dsimp only; omega) | (simp; omega)) (farSet (by first | (dsimp only; omega) | (simp; omega)) ud3), farSet (by first | (dsimp only; omega) | (simp; omega)) (farSet (by first | (dsimp only; omega) | (simp; omega)) ud4)⟩) | fail)
              (first | (go_at_call 31; first | ((with_reducible refine (C'.out _ (HQT.out.below (Below.refl _ _).drew) (HPT.out.below (Below.refl _ _).drew)).mono ?_); rintro e w4 ⟨rfl, hb4⟩; have hbw : Below wx.heap.size wx w4 := (Below.refl wx.heap.size wx).drew.trans hb4; have usa0 := keepCell hbw sa0; have usb0 := keepCell hbw sb0; have uc1 := keepCell hbw c1; have uc2 := keepCell hbw c2; have uc3 := keepCell hbw c3; have uc4 := keepCell hbw c4; have ud1 := keepCell hbw d1; have ud2 := keepCell hbw d2; have ud3 := keepCell hbw d3; have ud4 := keepCell hbw d4; clear hb4) | ((with_reducible refine (C'.out _ (HQT.out.below (below1 _ _).drew) (HPT.out.below (below1 _ _).drew)).mono ?_); rintro e w4 ⟨rfl, hb4⟩; have hbw : Below wx.heap.size wx w4 := bnext (below1 _ _).drew hb4; have z0 := keepCell (a := ⟨wx.heap.size, 0, none⟩) (v := .int .i64 0) hb4 (by go_simp); have z1 := keepCell (a := ⟨wx.heap.size, 1, none⟩) (v := .string ⟨#[]⟩) hb4 (by go_simp); have zf : ∀ o, w4.frozen? ⟨wx.heap.size, o, none⟩ = false := (fun o => ((bcell hb4).2 _ _ (by simp)).trans (by go_simp)); have usa0 := keepCell hbw sa0; have usb0 := keepCell hbw sb0; have uc1 := keepCell hbw c1; have uc2 := keepCell hbw c2; have uc3 := keepCell hbw c3; have uc4 := keepCell hbw c4; have ud1 := keepCell hbw d1; have ud2 := keepCell hbw d2; have ud3 := keepCell hbw d3; have ud4 := keepCell hbw d4; clear hb4)))
            all_goals go_wp2_with fail
            all_goals go_meet
            all_goals first
              | exact ⟨_, rfl, rfl, hbw.size, by go_simp, by go_simp, bnext hbw (below1 _ _)⟩
              | exact ⟨_, rfl, rfl, Nat.le_refl _, (setTwo z0 z1).1, (setTwo z0 z1).2, (hbw.setCell (Nat.le_refl _) _).setCell (Nat.le_refl _) _⟩
          case rest =>
            obtain ⟨g, rfl, rfl, hg, g0, g1, hbc⟩ := hcut
            replace q0 := keepCell hbc q0
            replace q1 := keepCell hbc q1
            have f1 := fun o => ((BR.out.below HBX.out).below hbc).free o
            have HBC := Lib.hid (bnext HBX.out hbc)
            clear hbc c1 c2 c3 c4 d1 d2 d3 d4 sa0 sb0
            cases X with
            | none =>
              go_wp2_with fail
              go_roundw
              case rel => exact ⟨j + 1, by omega, by go_num, HWj, HBC⟩
              case measure => simp [intOf]; omega
            | some x =>
              obtain ⟨kx, sx⟩ := x
              have hRv : R = some (kx, sPar q.name ++ sx) := HWj.out
              subst hRv
              have g0' : wc.cell? ⟨g, 0, none⟩ = some (.int .i64 kx) := g0
              have g1' : wc.cell? ⟨g, 1, none⟩ = some (.string (P ++ sx)) := g1
              have hee : (Option.isSome (some (kx, sx))) = true := rfl
              clear g0 g1
              rw [hee]
              go_wp2_with fail
              have st := setTwo (v0 := .int .i64 kx) (v1 := .string (P ++ sx)) q0 q1
              have s0 := st.1
              have s1 := st.2
              clear st
              refine bodyPost_ret (v := .tuple #[.agg #[.int .i64 kx, .string (P ++ sx)], .bool true]) (by simp [results, Tryz.results35, go_sem, s0, s1]) rfl ⟨?_, ((bnext HW3.out HBC.out).setCell (by simp; omega) _).setCell (by simp; omega) _⟩
              show _ = Ending.returned (.tuple #[.agg #[.int .i64 kx, .string (pt ++ ((⟨#[40]⟩ : ByteArray) ++ q.name ++ ⟨#[41]⟩ ++ sx))], .bool true])
              rw [← HP.out, ByteArray.append_assoc, ByteArray.append_assoc, ByteArray.append_assoc, ByteArray.append_assoc, ByteArray.append_assoc]
        · rw [pmWhy, if_neg hn, orR_some] at HWj
          have hnl : (p.name.toList == q.name.toList) = false := by
            rw [beq_eq_false_iff_ne]
            intro h9
            exact hn (bytes_inj (by rw [← ByteArray.toList_eq, ← ByteArray.toList_eq]; exact h9))
          go_wp2_with fail
          go_quiet (fail)
          go_wp2_with fail
          go_at_call 44
          refine (HN.out _ _ _).mono ?_
          rintro e w2 ⟨rfl, hb2⟩
          have hb3 := bnext (belowN (Below.refl wr.heap.size wr) _) hb2
          replace q0 := keepCell hb3 q0
          replace q1 := keepCell hb3 q1
          have f2 := fun o => ((BR.out.below HB.out).below hb3).free o
          have HB2 := Lib.hid (bnext HBw.out hb3)
          clear hb2 hb3 f1
          go_wp2_with fail
          have hRv := HWj.out
          subst hRv
          have st := setTwo (v0 := .int .i64 7) (v1 := .string (pt ++ (⟨#[40]⟩ : ByteArray) ++ q.name ++ ⟨#[41]⟩)) q0 q1
          have s0 := st.1
          have s1 := st.2
          clear st
          refine bodyPost_ret (v := .tuple #[.agg #[.int .i64 7, .string (pt ++ (⟨#[40]⟩ : ByteArray) ++ q.name ++ ⟨#[41]⟩)], .bool true]) (by simp [results, Tryz.results35, go_sem, s0, s1]) rfl ⟨?_, (HB2.out.setCell (by simp; omega) _).setCell (by simp; omega) _⟩
          show _ = Ending.returned (.tuple #[.agg #[.int .i64 7, .string (pt ++ ((⟨#[40]⟩ : ByteArray) ++ q.name ++ ⟨#[41]⟩))], .bool true])
          rw [ByteArray.append_assoc, ByteArray.append_assoc, ByteArray.append_assoc]
      · have hj' : j = n := by omega
        subst hj'
        have hlj : ¬ (j : Int) < (j : Int) := by omega
        have hw9 := HWj.out
        rw [show pmsWhy (a.params.drop j) (b.params.drop j) = none by rw [← HLA.out]; exact pmsWhy_end, orR_none] at hw9
        have HR9 := Lib.hid hw9
        have sa1 := keepCell HB.out ka1
        have sa2 := keepCell HB.out ka2
        have sa3 := keepCell HB.out ka3
        have sa4 := keepCell HB.out ka4
        have sa5 := keepCell HB.out ka5
        have sb1 := keepCell HB.out kb1
        have sb2 := keepCell HB.out kb2
        have sb3 := keepCell HB.out kb3
        have sb4 := keepCell HB.out kb4
        have sb5 := keepCell HB.out kb5
        clear hw9 HWj
        have hsz : (pt ++ sArr).size + 4 * 1048577 ≤ 100000000 := by
          rw [ByteArray.size_append]
          show pt.size + 2 + 4 * 1048577 ≤ 100000000
          omega
        obtain ⟨X, hX⟩ : ∃ X, Ty.why 4 a.res b.res = X := ⟨_, rfl⟩
        have HX := Lib.hid hX
        have C' := Lib.hid (fun W h1 h2 => (CR.out (pt ++ sArr) hsz W h1 h2).mono fun e w' h => (show RsnS X (pt ++ sArr) W e w' by rw [← hX]; exact h))
        clear hX hsz
        go_wp2_with fail
        go_at_call 31
        refine (C'.out _ (HRA.out.below HBw.out) (HRB.out.below HBw.out)).mono ?_
        rintro e w4 ⟨rfl, hb4⟩
        replace q0 := keepCell hb4 q0
        replace q1 := keepCell hb4 q1
        have f4 := fun o => ((BR.out.below HB.out).below hb4).free o
        replace sa5 := keepCell hb4 sa5
        replace sb5 := keepCell hb4 sb5
        have HB4 := Lib.hid (bnext HBw.out hb4)
        have hz4 : w.heap.size + 1 + 1 < w4.heap.size := World.block_lt_of_cell? w4 _ q0
        clear hb4 f1 brr
        cases X with
        | some x =>
          obtain ⟨kx, sx⟩ := x
          have hRv : R = some (kx, sArr ++ sx) := by
            have h8 := HR9.out
            rw [Fn.whyR, HX.out] at h8
            exact h8
          subst hRv
          go_wp2_with fail
          have st := setTwo (v0 := .int .i64 (rk (some (kx, sx)))) (v1 := .string (rp (pt ++ sArr) (some (kx, sx)))) q0 q1
          have s0 := fun o => keepCell (below1 _ o) st.1
          have s1 := fun o => keepCell (below1 _ o) st.2
          clear st
          refine bodyPost_ret (v := .tuple #[.agg #[.int .i64 (rk (some (kx, sx))), .string (rp (pt ++ sArr) (some (kx, sx)))], .bool true]) (by simp [results, Tryz.results35, go_sem, s0, s1]) rfl ⟨?_, Below.alloc ((HB4.out.setCell (by simp; omega) _).setCell (by simp; omega) _) (by simp; omega) _⟩
          show Ending.returned (.tuple #[.agg #[.int .i64 kx, .string (pt ++ sArr ++ sx)], .bool true]) = Ending.returned (.tuple #[.agg #[.int .i64 kx, .string (pt ++ (sArr ++ sx))], .bool true])
          rw [ByteArray.append_assoc]
        | none =>
          have q0a := fun o => keepCell (below1 w4 o) q0
          have q1a := fun o => keepCell (below1 w4 o) q1
          have sa5a := fun o => keepCell (below1 w4 o) sa5
          have sb5a := fun o => keepCell (below1 w4 o) sb5
          by_cases hq : a.async = true ∧ b.async = false
          · have hRv : R = some (8, ⟨#[]⟩) := by
              have h8 := HR9.out
              rw [Fn.whyR, HX.out] at h8
              rw [h8]
              exact if_pos hq
            subst hRv
            rw [hq.1] at sa5a
            rw [hq.2] at sb5a
            clear HR9 HX C'
            go_wp2_with fail
            go_at_call 44
            refine (HN.out _ _ _).mono ?_
            rintro e w5 ⟨rfl, hb5⟩
            have hb45 := bnext (below1 w4 _) hb5
            replace q0 := keepCell hb45 q0
            replace q1 := keepCell hb45 q1
            have f5 : ∀ o, w5.frozen? ⟨w.heap.size + 1 + 1, o, none⟩ = false := fun o => ((bcell hb45).2 _ _ hz4).trans (f4 o)
            have HB5 := Lib.hid (bnext HB4.out hb45)
            clear hb5 hb45 f4 q0a q1a sa5a sb5a
            go_wp2_with fail
            have st := setTwo (v0 := .int .i64 8) (v1 := .string pt) q0 q1
            have s0 := st.1
            have s1 := st.2
            clear st
            refine bodyPost_ret (v := .tuple #[.agg #[.int .i64 8, .string pt], .bool true]) (by simp [results, Tryz.results35, go_sem, s0, s1]) rfl ⟨?_, (HB5.out.setCell (by simp; omega) _).setCell (by simp; omega) _⟩
            show _ = Ending.returned (.tuple #[.agg #[.int .i64 8, .string (pt ++ (⟨#[]⟩ : ByteArray))], .bool true])
            rw [app_nil]
          · have hRv : R = none := by
              have h8 := HR9.out
              rw [Fn.whyR, HX.out] at h8
              rw [h8]
              exact if_neg hq
            subst hRv
            clear HR9 HX C'
            cases ha : a.async with
            | false =>
              rw [ha] at sa5a
              go_wp2_with fail
              have st := setTwo (v0 := .int .i64 0) (v1 := .string ⟨#[]⟩) q0 q1
              have s0 := fun o => keepCell (below1 _ o) st.1
              have s1 := fun o => keepCell (below1 _ o) st.2
              clear st
              exact bodyPost_ret (v := .tuple #[.agg #[.int .i64 0, .string ⟨#[]⟩], .bool false]) (by simp [results, Tryz.results35, go_sem, s0, s1]) rfl ⟨rfl, Below.alloc ((HB4.out.setCell (by simp; omega) _).setCell (by simp; omega) _) (by simp; omega) _⟩
            | true =>
              have hb : b.async = true := by
                cases h9 : b.async with
                | true => rfl
                | false => exact absurd ⟨ha, h9⟩ hq
              rw [ha] at sa5a
              rw [hb] at sb5a
              go_wp2_with fail
              have st := setTwo (v0 := .int .i64 0) (v1 := .string ⟨#[]⟩) q0 q1
              have s0 := fun o => keepCell (below1 _ o) st.1
              have s1 := fun o => keepCell (below1 _ o) st.2
              clear st
              exact bodyPost_ret (v := .tuple #[.agg #[.int .i64 0, .string ⟨#[]⟩], .bool false]) (by simp [results, Tryz.results35, go_sem, s0, s1]) rfl ⟨rfl, Below.alloc ((HB4.out.setCell (by simp; omega) _).setCell (by simp; omega) _) (by simp; omega) _⟩
  · have hli : ¬ (a.params.length : Int) = (b.params.length : Int) := by omega
    rw [Fn.why, if_neg hl] at hR
    subst hR
    clear ga gb H4 hna hnb HPA HPB HRA HRB
    go_enter Tryz.func35, Tryz.ntmps35
    go_wp2_with fail
    go_at_call 44
    refine (HN.out _ _ _).mono ?_
    rintro e w2 ⟨rfl, hb2⟩
    have r0 := keepCell (a := ⟨w.heap.size + 1 + 1, 0, none⟩) (v := .int .i64 0) hb2 (by go_simp)
    have r1 := keepCell (a := ⟨w.heap.size + 1 + 1, 1, none⟩) (v := .string ⟨#[]⟩) hb2 (by go_simp)
    have br : Blk w2 (w.heap.size + 1 + 1) := Blk.below (blk_n2 _ _ _ _ _) hb2
    have f1 := fun o => br.free o
    have HB2 := Lib.hid (bnext (below3 _ _ _ _) hb2)
    clear hb2
    go_wp2_with fail
    have st := setTwo (v0 := .int .i64 7) (v1 := .string pt) r0 r1
    have s0 := st.1
    have s1 := st.2
    clear st
    refine bodyPost_ret (v := .tuple #[.agg #[.int .i64 7, .string pt], .bool true]) (by simp [results, Tryz.results35, go_sem, s0, s1]) rfl ⟨?_, (HB2.out.setCell (by simp; omega) _).setCell (by simp; omega) _⟩
    show _ = Ending.returned (.tuple #[.agg #[.int .i64 7, .string (pt ++ (⟨#[]⟩ : ByteArray))], .bool true])
    rw [app_nil]
end Go.Proofs.YtifchfecfkdjlaaGreatDoor
