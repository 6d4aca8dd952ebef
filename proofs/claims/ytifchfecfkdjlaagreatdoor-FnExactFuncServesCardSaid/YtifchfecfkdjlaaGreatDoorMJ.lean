/-
  TyAdd, TyNode: in one text.
-/
import Derived.Test.YtifchfecfkdjlaaGreatDoorME
import Derived.OwnWalk
import Derived.Laws.AppendOwn
import Derived.Laws.OwnMore
import Derived.Test.YtifchfecfkdjlaaGreatDoorTySound
namespace Go.Proofs.YtifchfecfkdjlaaGreatDoor
open Go.ChangeShapes Go.WideShapes Go.ChangeAt Go.RowKit Go.Deep

/-- A tree as it lies in a slice: with the addresses of its labels and kids. -/
structure TV where
  t : Ty
  A : Option Addr
  B : Option Addr
  ca : Nat
  cb : Nat
def TV.cells (x : TV) : List Value := [.int .i64 x.t.kind, .string x.t.name, .slice x.A x.t.labels.length x.ca, .slice x.B x.t.kids.length x.cb]
def PartsAt (w0 : World) (lo : Nat) (ts : List Ty) (tvs : List TV) : Prop := tvs.map TV.t = ts ∧ ∀ x ∈ tvs, Ty.At w0 lo x.t x.A x.B
theorem PartsAt.append {w0 : World} {lo : Nat} {ts us : List Ty} {xs ys : List TV} (h : PartsAt w0 lo ts xs) (k : PartsAt w0 lo us ys) : PartsAt w0 lo (ts ++ us) (xs ++ ys) :=
  ⟨by rw [List.map_append, h.1, k.1], fun x hx => by
    rcases List.mem_append.1 hx with h1 | h1
    · exact h.2 x h1
    · exact k.2 x h1⟩

/-- The tree's parts have room beside so many. -/
def FitsM (T : Ty) (d m : Nat) : Prop := d + T.depth ≤ 5 ∧ m + T.size ≤ 24
theorem FitsM.kid {T t : Ty} {d m k : Nat} (h : FitsM T d m) (ht : T.kids[k]? = some t) : FitsM t (d + 1) (m + 1 + Ty.sizes (T.kids.take k)) := by
  have h1 := Ty.depths_get ht
  have h2 := Ty.sizes_take ht
  have h3 := Ty.sizes_take_le T.kids (k + 1)
  have h4 := T.depth_eq
  have h5 := T.size_eq
  unfold FitsM at *
  omega

def AddYes (w0 : World) (lo : Nat) (T : Ty) (m : Nat) (xs : List Value) (e : Ending) (w' : World) : Prop := ∃ (R : Option Addr) (cap : Nat) (tvs : List TV), e = .returned (.tuple #[.slice R (m + T.size) cap, .bool true]) ∧ w'.ownsRow w0.heap.size 30 4 (.slice R (m + T.size) cap) (m + T.size) (xs ++ tvs.flatMap TV.cells) ∧ PartsAt w0 lo T.parts tvs ∧ Below w0.heap.size w0 w'
def AddNo (w0 : World) (e : Ending) (w' : World) : Prop := e = .returned (.tuple #[.slice none 0 0, .bool false]) ∧ Below w0.heap.size w0 w'
def AddPost (w0 : World) (lo : Nat) (T : Ty) (d m : Nat) (xs : List Value) (e : Ending) (w' : World) : Prop := (FitsM T d m → AddYes w0 lo T m xs e w') ∧ (¬ FitsM T d m → AddNo w0 e w')
def AddTy (w0 : World) (lo : Nat) (T : Ty) : Prop := ∀ d m : Nat, 1 ≤ d → d ≤ 5 → m ≤ 24 → ∀ (A B : Option Addr) (ca cb : Nat), Ty.At w0 lo T A B → ∀ (R : Option Addr) (cap : Nat) (xs : List Value) (w : World), w.ownsRow w0.heap.size 30 4 (.slice R m cap) m xs → Below w0.heap.size w0 w →
  Calls Tryz.prog 63 #[.slice R m cap, .agg #[.int .i64 T.kind, .string T.name, .slice A T.labels.length ca, .slice B T.kids.length cb], .int .i64 d] w (AddPost w0 lo T d m xs)

theorem own_form {w : World} {base : Nat} {e : TypeId} {size n : Nat} {v : Value} {xs : List Value} (h : w.ownsRow base e size v n xs) : ∃ (R : Option Addr) (cap : Nat), v = .slice R n cap := by
  rcases h.2 with ⟨rfl, rfl⟩ | ⟨g, cap, _, rfl, _⟩
  · exact ⟨none, 0, rfl⟩
  · exact ⟨_, cap, rfl⟩
theorem own_block_ge {w : World} {base : Nat} {e : TypeId} {size n : Nat} {v : Value} {xs : List Value} (h : w.ownsRow base e size v n xs) : ∀ j, v.ownBlock = some j → base ≤ j := fun j hj => (h.lt j hj).1

theorem addNo_deep (w0 : World) (lo : Nat) (T : Ty) (d m : Nat) (hd : 4 < d) (_ : d ≤ 5) (_ : m ≤ 24) (A B : Option Addr) (ca cb : Nat) (R : Option Addr) (cap : Nat) (xs : List Value) (w : World) (hb : Below w0.heap.size w0 w) :
    Calls Tryz.prog 63 #[.slice R m cap, .agg #[.int .i64 T.kind, .string T.name, .slice A T.labels.length ca, .slice B T.kids.length cb], .int .i64 d] w (AddPost w0 lo T d m xs) := by
  have hd' : (4 : Int) < (d : Int) := by omega
  have HN : Hid (¬ FitsM T d m) := Lib.hid (fun h => by have h1 := h.1; have := T.depth_pos; omega)
  have HB := Lib.hid hb
  clear hb
  go_enter Tryz.func63, Tryz.ntmps63
  go_wp2
  go_ret2
  exact ⟨fun h => absurd h HN.out, fun _ => ⟨rfl, bnext HB.out (below1 _ _)⟩⟩
theorem addNo_many (w0 : World) (lo : Nat) (T : Ty) (d : Nat) (hd : d ≤ 4) (A B : Option Addr) (ca cb : Nat) (R : Option Addr) (cap : Nat) (xs : List Value) (w : World) (hb : Below w0.heap.size w0 w) :
    Calls Tryz.prog 63 #[.slice R 24 cap, .agg #[.int .i64 T.kind, .string T.name, .slice A T.labels.length ca, .slice B T.kids.length cb], .int .i64 d] w (AddPost w0 lo T d 24 xs) := by
  have hd' : ¬ (4 : Int) < (d : Int) := by omega
  have HN : Hid (¬ FitsM T d 24) := Lib.hid (fun h => by have h1 := h.2; have := T.size_pos; omega)
  have HB := Lib.hid hb
  clear hb
  go_enter Tryz.func63, Tryz.ntmps63
  go_wp2
  go_ret2
  exact ⟨fun h => absurd h HN.out, fun _ => ⟨rfl, bnext HB.out (below1 _ _)⟩⟩

theorem infoType' : (Tryz.prog.info? 30).map (fun i => (i.zero, i.size, i.bytes)) = some (some (.agg #[.int .i64 0, .string ⟨#[]⟩, .slice none 0 0, .slice none 0 0]), 4, 72) := by kernel_rfl

set_option maxHeartbeats 2000000 in
set_option maxRecDepth 100000 in
theorem addParts_any (w0 : World) (lo : Nat) (T : Ty) (hT : T.wt ≤ 1048576) : AddTy w0 lo T := by
  induction T using Ty.kidInd with
  | h T ih =>
    intro d m hd1 hd5 hm A B ca cb hat R cap xs w hown hbel0
    by_cases hd : 4 < d
    · exact addNo_deep w0 lo T d m hd hd5 hm A B ca cb R cap xs w hbel0
    by_cases hm24 : m = 24
    · subst hm24
      exact addNo_many w0 lo T d (by omega) A B ca cb R cap xs w hbel0
    obtain ⟨q1, q2, q3, _, _⟩ := Ty.len_le hT
    have IH : Hid (∀ (i : Nat) (t : Ty), T.kids[i]? = some t → AddTy w0 lo t) := Lib.hid (fun i t ht => ih i t ht (q3 i t ht))
    have HR := Lib.hid hat.rowAt
    have HAT := Lib.hid hat
    have HO := Lib.hid hown
    have HB0 := Lib.hid hbel0
    have hd' : ¬ (4 : Int) < (d : Int) := by omega
    have hm' : ((m : Int) == 24) = false := by rw [beq_eq_false_iff_ne]; omega
    have hbz := hbel0.size
    clear ih hat q3 hT hown hbel0
    obtain ⟨i0, hi, hz0, hz1, hz2⟩ := info_parts infoType'
    go_enter Tryz.func63, Tryz.ntmps63
    go_wp2_with (at_builtin; refine wpList_append_own _ rfl _ _ 28 rfl w0.heap.size 30 i0 _ 4 72 Tryz.underlying28 hi hz0 hz1 hz2 rfl (by decide) (.slice R m cap) m xs rfl ((HO.out.alloc _).alloc _) ⟨w.heap.size + 1, 0, none⟩ 1 1 [.int .i64 T.kind, .string T.name, .slice A T.labels.length ca, .slice B T.kids.length cb] rfl rfl ?c1 ?c2 ?c3 ?c4 ?c5 ?_)
    case c2 => simp [Value.oneCell']
    case c3 => unfold maxLen; omega
    case c4 => omega
    case c5 => omega
    intro v1 w1 hown1 hgrow1 _
    obtain ⟨R1, cap1, rfl⟩ := own_form hown1
    have hbox := World.cell?_of_block (a := ⟨w.heap.size, 3, none⟩) (hgrow1.block w.heap.size (by simp; omega) (fun e => by have := (HO.out.lt _ e.symm).2; omega))
    have hbox1 : w1.cell? ⟨w.heap.size, 3, none⟩ = some (.slice B T.kids.length cb) := hbox.trans (by go_simp)
    have HB1 := Lib.hid (((HB0.out.alloc hbz _).alloc (by simp; omega) _).grown hgrow1 (by simp; omega) (own_block_ge HO.out))
    have HO1 := Lib.hid hown1
    clear hown1 hgrow1 hbox hi hz0 hz1 hz2
    go_wp2_with fail
    go_loopw [0, 25] (fun p i wr => ∃ k : Nat, k ≤ T.kids.length ∧ i = .int .i64 k ∧ (∃ (R2 : Option Addr) (c2 M : Nat), p = .slice R2 M c2 ∧ M ≤ 24 ∧ Hid (M = m + 1 + Ty.sizes (T.kids.take k) ∧ ((k = 0) ∨ d + 1 + Ty.depths (T.kids.take k) ≤ 5) ∧ ∃ tvs, wr.ownsRow w0.heap.size 30 4 (.slice R2 M c2) M (xs ++ tvs.flatMap TV.cells) ∧ PartsAt w0 lo (T :: Ty.partss (T.kids.take k)) tvs)) ∧ Hid (Below w0.heap.size w0 wr)) (fun _ i _ => T.kids.length - (intOf i).toNat)
    case atStart =>
      refine ⟨0, Nat.zero_le _, rfl, ⟨R1, cap1, m + 1, rfl, by omega, by simp [Ty.sizes], Or.inl rfl, [⟨T, A, B, ca, cb⟩], ?_, ?_⟩, HB1.out⟩
      · simpa [TV.cells] using HO1.out
      · exact ⟨by simp [Ty.partss], by intro x hx; simp at hx; subst hx; exact HAT.out⟩
    case round =>
      obtain ⟨k, hk, rfl, ⟨R2, c2, M, rfl, hM, hinv⟩, HBR⟩ := hrel
      clear hbox1
      by_cases hlt : k < T.kids.length
      · obtain ⟨b, o, t, A', B', ca', cb', rfl, hlo, htk, hc0⟩ := HR.out.at_ hlt
        have hc := hc0.keep (KeptFrom.below HBR.out lo) hlo
        have C : Hid (∀ W : World, Below w0.heap.size w0 W → ∀ ys, W.ownsRow w0.heap.size 30 4 (.slice R2 M c2) M ys → Calls Tryz.prog 63 #[.slice R2 M c2, .agg #[.int .i64 t.kind, .string t.name, .slice A' t.labels.length ca', .slice B' t.kids.length cb'], .int .i64 ((d : Int) + 1)] W (AddPost w0 lo t (d + 1) M ys)) := Lib.hid (fun W hW ys hy => IH.out k t htk (d + 1) M (by omega) (by omega) hM A' B' ca' cb' hc0.tree R2 c2 ys W hy hW)
        have HD := Lib.hid (Ty.depths_take htk)
        have HS := Lib.hid (Ty.sizes_take htk)
        have HP := Lib.hid (Ty.partss_take htk)
        have HT := Lib.hid htk
        obtain ⟨c0, c1, c2', c3, _⟩ := hc
        have lb : b < wr.heap.size := World.block_lt_of_cell? wr _ c0
        have hwz := HBR.out.size
        obtain ⟨tvs, hown2, hpat⟩ := hinv.out.2.2
        have HO2 := Lib.hid hown2
        have HPA := Lib.hid hpat
        clear htk hc0 hlo hown2 hpat
        by_cases hf : FitsM t (d + 1) M
        · have HF := Lib.hid hf
          have C' : Hid (∀ W : World, Below w0.heap.size w0 W → ∀ ys, W.ownsRow w0.heap.size 30 4 (.slice R2 M c2) M ys → Calls Tryz.prog 63 #[.slice R2 M c2, .agg #[.int .i64 t.kind, .string t.name, .slice A' t.labels.length ca', .slice B' t.kids.length cb'], .int .i64 ((d : Int) + 1)] W (AddYes w0 lo t M ys)) := Lib.hid (fun W hW ys hy => (C.out W hW ys hy).mono fun _ _ h => h.1 hf)
          have hM2 : M + t.size ≤ 24 := hf.2
          clear C hf
          go_wp2_with fail
          go_at_call 63
          refine (C'.out _ (HBR.out.alloc hwz _) _ (HO2.out.alloc _)).mono ?_
          rintro e w2 ⟨R3, c3', tvs', rfl, hown3, hpat3, hb3⟩
          have HO3 := Lib.hid hown3
          have HP3 := Lib.hid hpat3
          have HB3 := Lib.hid hb3
          clear hown3 hpat3 hb3
          go_wp2_with fail
          go_roundw
          case rel =>
            refine ⟨k + 1, by omega, by go_num, ⟨R3, c3', M + t.size, rfl, hM2, ?_, ?_, tvs ++ tvs', ?_, ?_⟩, HB3.out⟩
            · have := hinv.out.1
              have := HS.out
              omega
            · right
              have h1 := hinv.out.2.1
              have h2 := HD.out
              have h3 := HF.out.1
              rcases h1 with h1 | h1
              · subst h1
                rw [List.take_zero] at h2
                simp only [Ty.depths] at h2
                omega
              · omega
            · have := HO3.out
              rw [List.flatMap_append, ← List.append_assoc]
              exact this
            · have h4 := HPA.out.append HP3.out
              rw [HP.out]
              exact h4
          case measure => simp [intOf]; omega
        · have HF := Lib.hid hf
          have C' : Hid (∀ W : World, Below w0.heap.size w0 W → ∀ ys, W.ownsRow w0.heap.size 30 4 (.slice R2 M c2) M ys → Calls Tryz.prog 63 #[.slice R2 M c2, .agg #[.int .i64 t.kind, .string t.name, .slice A' t.labels.length ca', .slice B' t.kids.length cb'], .int .i64 ((d : Int) + 1)] W (AddNo w0)) := Lib.hid (fun W hW ys hy => (C.out W hW ys hy).mono fun _ _ h => h.2 hf)
          clear C hf
          go_wp2_with fail
          go_at_call 63
          refine (C'.out _ (HBR.out.alloc hwz _) _ (HO2.out.alloc _)).mono ?_
          rintro e w2 ⟨rfl, hb3⟩
          have HB3 := Lib.hid hb3
          clear hb3
          go_wp2_with fail
          go_ret2
          exact ⟨fun h => absurd (by have h1 := h.kid HT.out; rw [← hinv.out.1] at h1; exact h1) HF.out, fun _ => ⟨rfl, HB3.out⟩⟩
      · have hk' : k = T.kids.length := by omega
        obtain ⟨tvs, hown2, hpat⟩ := hinv.out.2.2
        have HO2 := Lib.hid hown2
        have HPA := Lib.hid hpat
        clear hown2 hpat
        go_wp2_with fail
        go_ret2
        have h1 := hinv.out.1
        have h2 := hinv.out.2.1
        have h3 := T.size_eq
        have h4 := T.depth_eq
        have h5 := HPA.out
        rw [hk', List.take_length] at h1 h2 h5
        have hMe : M = m + T.size := by omega
        have hfit : FitsM T d m := by
          unfold FitsM
          rcases h2 with h2 | h2
          · have h6 : T.kids = [] := List.eq_nil_of_length_eq_zero h2
            rw [h6] at h4
            simp [Ty.depths] at h4
            omega
          · omega
        refine ⟨fun _ => ⟨R2, c2, tvs, ?_, ?_, ?_, HBR.out⟩, fun h => absurd hfit h⟩
        · rw [← hMe]
          rfl
        · rw [← hMe]
          exact HO2.out
        · rw [Ty.parts_eq]
          exact h5
end Go.Proofs.YtifchfecfkdjlaaGreatDoor

namespace Go.Proofs.YtifchfecfkdjlaaGreatDoor
open Go.ChangeShapes Go.WideShapes Go.ChangeAt Go.RowKit Go.Deep

theorem nodeOf_12 (n : ByteArray) (A B : Option Addr) (l m ca cb : Nat) (k : Int) (hk : k = 12 ∨ k = 13 ∨ k = 14 ∨ k = 15 ∨ k = 22 ∨ k = 23) (w : World) :
    Calls Tryz.prog 64 #[.agg #[.int .i64 k, .string n, .slice A l ca, .slice B m cb]] w fun e w' => e = .returned (.iface 104 (.agg #[.int .i64 k, .string n, .slice A l ca, .slice B m cb])) ∧ Below w.heap.size w w' := by
  rcases hk with rfl | rfl | rfl | rfl | rfl | rfl
  all_goals
    go_enter Tryz.func64, Tryz.ntmps64
    go_wp2
    go_ret
    exact ⟨rfl, below1 _ _⟩
theorem nodeOf_16 (n : ByteArray) (A B : Option Addr) (l m ca cb : Nat) (k : Int) (hk : k = 16 ∨ k = 17 ∨ k = 18 ∨ k = 19) (w : World) :
    Calls Tryz.prog 64 #[.agg #[.int .i64 k, .string n, .slice A l ca, .slice B m cb]] w fun e w' => e = .returned (.iface 105 (.agg #[.int .i64 k, .string n, .slice A l ca, .slice B m cb])) ∧ Below w.heap.size w w' := by
  rcases hk with rfl | rfl | rfl | rfl
  all_goals
    go_enter Tryz.func64, Tryz.ntmps64
    go_wp2
    go_ret
    exact ⟨rfl, below1 _ _⟩
theorem nodeOf_20 (n : ByteArray) (A B : Option Addr) (l m ca cb : Nat) (k : Int) (hk : k = 20 ∨ k = 21) (w : World) :
    Calls Tryz.prog 64 #[.agg #[.int .i64 k, .string n, .slice A l ca, .slice B m cb]] w fun e w' => e = .returned (.iface 106 (.agg #[.int .i64 k, .string n, .slice A l ca, .slice B m cb])) ∧ Below w.heap.size w w' := by
  rcases hk with rfl | rfl
  all_goals
    go_enter Tryz.func64, Tryz.ntmps64
    go_wp2
    go_ret
    exact ⟨rfl, below1 _ _⟩
theorem nodeOf_else (n : ByteArray) (A B : Option Addr) (l m ca cb : Nat) (k : Int) (hk : k < 12 ∨ 23 < k) (w : World) :
    Calls Tryz.prog 64 #[.agg #[.int .i64 k, .string n, .slice A l ca, .slice B m cb]] w fun e w' => e = .returned (.iface 107 (.agg #[.int .i64 k, .string n, .slice A l ca, .slice B m cb])) ∧ Below w.heap.size w w' := by
  have k12 : (k == 12) = false := by rw [beq_eq_false_iff_ne]; omega
  have k13 : (k == 13) = false := by rw [beq_eq_false_iff_ne]; omega
  have k14 : (k == 14) = false := by rw [beq_eq_false_iff_ne]; omega
  have k15 : (k == 15) = false := by rw [beq_eq_false_iff_ne]; omega
  have k16 : (k == 16) = false := by rw [beq_eq_false_iff_ne]; omega
  have k17 : (k == 17) = false := by rw [beq_eq_false_iff_ne]; omega
  have k18 : (k == 18) = false := by rw [beq_eq_false_iff_ne]; omega
  have k19 : (k == 19) = false := by rw [beq_eq_false_iff_ne]; omega
  have k20 : (k == 20) = false := by rw [beq_eq_false_iff_ne]; omega
  have k21 : (k == 21) = false := by rw [beq_eq_false_iff_ne]; omega
  have k22 : (k == 22) = false := by rw [beq_eq_false_iff_ne]; omega
  have k23 : (k == 23) = false := by rw [beq_eq_false_iff_ne]; omega
  clear hk
  go_enter Tryz.func64, Tryz.ntmps64
  go_wp2
  go_ret
  exact ⟨rfl, below1 _ _⟩

/-- What 'sound' means at each node (286: the machine's bound on the look for a method, as this program has it). -/
theorem method_angle (v : Value) (w : World) : (method 286 104 v "loop.example/g00901/impl.sound").run Tryz.prog w = .ok (153, v) w := by kernel_rfl
theorem method_label (v : Value) (w : World) : (method 286 105 v "loop.example/g00901/impl.sound").run Tryz.prog w = .ok (156, v) w := by kernel_rfl
theorem method_handle (v : Value) (w : World) : (method 286 106 v "loop.example/g00901/impl.sound").run Tryz.prog w = .ok (157, v) w := by kernel_rfl
theorem method_plain (v : Value) (w : World) : (method 286 107 v "loop.example/g00901/impl.sound").run Tryz.prog w = .ok (158, v) w := by kernel_rfl
end Go.Proofs.YtifchfecfkdjlaaGreatDoor

