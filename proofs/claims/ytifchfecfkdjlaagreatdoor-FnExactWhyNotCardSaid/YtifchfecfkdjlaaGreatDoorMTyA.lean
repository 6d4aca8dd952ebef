/-
  TySound, TyAdd, TyNode: in one text.
-/
import Derived.Test.YtifchfecfkdjlaaGreatDoorTyDist
import Derived.OwnWalk
import Derived.Laws.AppendOwn
import Derived.Laws.OwnMore
namespace Go.Proofs.YtifchfecfkdjlaaGreatDoor
open Go.ChangeShapes Go.WideShapes Go.ChangeAt Go.RowKit Go.Deep

/-- What the sound methods call. -/
structure IF (T : Ty) (A B : Option Addr) (ca cb lo : Nat) : Prop where
  cn : ∀ W, MaxC W → Calls Tryz.prog 92 #[.string T.name] W fun e w' => e = .returned (.bool (nmB T.name)) ∧ Below W.heap.size W w'
  cl : ∀ W, Strs W lo T.labels A → MaxC W → Calls Tryz.prog 57 #[.slice A T.labels.length ca] W (SaysB (Names T.labels) W)
  cu : ∀ W, Ty.RowAt W lo T.kids B → Calls Tryz.prog 154 #[.slice B T.kids.length cb, .func (.func 56) #[] #[]] W (SaysB (UnitIn T.kids T.kids.length) W)
  ch : ∀ t, T.kids[0]? = some t → MenTy 21 t
  ll : T.labels.length ≤ 1048576
  kl : T.kids.length ≤ 1048576
theorem IF.of {T : Ty} (hT : T.wt ≤ 1048576) (A B : Option Addr) (ca cb lo : Nat) : IF T A B ca cb lo := by
  obtain ⟨q1, q2, q3, q4, q5⟩ := Ty.len_le hT
  exact ⟨fun W hm => nmB_impl T.name q4 W hm, fun W h hm => distinct_any T.labels q5 q1 A ca lo W h hm, fun W h => contUnit_any T.kids q2 B cb lo W h, fun t ht => mentions_any 21 t (q3 0 t ht), q1, q2⟩

set_option maxRecDepth 100000 in
theorem pl_low {T : Ty} {A B : Option Addr} {ca cb lo : Nat} (S : IF T A B ca cb lo) (w : World) (hs : Strs w lo T.labels A) (hr : Ty.RowAt w lo T.kids B) (hm : MaxC w) (hk : T.kind < 1) :
    Calls Tryz.prog 158 #[.agg #[.int .i64 T.kind, .string T.name, .slice A T.labels.length ca, .slice B T.kids.length cb]] w (SaysB (ShapeOk T) w) := by
  have CN := Lib.hid S.cn
  have HS := Lib.hid hs
  have HR := Lib.hid hr
  have HM := Lib.hid hm
  have hll := S.ll
  have hkl := S.kl
  have k1 : ¬ 1 ≤ T.kind := by omega
  have HH : Hid (¬ ShapeOk T) := Lib.hid (fun h => by have h1 := h.2; unfold BodyOk at h1; rw [if_neg (by omega), if_neg (by omega), if_neg (by omega), if_neg (by omega), if_neg (by omega), if_neg (by omega)] at h1; omega)
  clear S hs hr hm
  first | clear hk | skip
  go_enter Tryz.func158, Tryz.ntmps158
  go_wp2
  go_ret
  exact ⟨false, (by first | rfl | exact ret_bool (by assumption)), iffF HH.out, below1 _ _⟩

set_option maxRecDepth 100000 in
theorem pl_high {T : Ty} {A B : Option Addr} {ca cb lo : Nat} (S : IF T A B ca cb lo) (w : World) (hs : Strs w lo T.labels A) (hr : Ty.RowAt w lo T.kids B) (hm : MaxC w) (hk : 23 < T.kind) :
    Calls Tryz.prog 158 #[.agg #[.int .i64 T.kind, .string T.name, .slice A T.labels.length ca, .slice B T.kids.length cb]] w (SaysB (ShapeOk T) w) := by
  have CN := Lib.hid S.cn
  have HS := Lib.hid hs
  have HR := Lib.hid hr
  have HM := Lib.hid hm
  have hll := S.ll
  have hkl := S.kl
  have k1 : 1 ≤ T.kind := by omega
  have k2 : ¬ T.kind ≤ 11 := by omega
  have HH : Hid (¬ ShapeOk T) := Lib.hid (fun h => by have h1 := h.2; unfold BodyOk at h1; rw [if_neg (by omega), if_neg (by omega), if_neg (by omega), if_neg (by omega), if_neg (by omega), if_neg (by omega)] at h1; omega)
  clear S hs hr hm
  first | clear hk | skip
  go_enter Tryz.func158, Tryz.ntmps158
  go_wp2
  go_ret
  exact ⟨false, (by first | rfl | exact ret_bool (by assumption)), iffF HH.out, below1 _ _⟩

set_option maxRecDepth 100000 in
theorem pl_name {T : Ty} {A B : Option Addr} {ca cb lo : Nat} (S : IF T A B ca cb lo) (w : World) (hs : Strs w lo T.labels A) (hr : Ty.RowAt w lo T.kids B) (hm : MaxC w) (hk : 1 ≤ T.kind ∧ T.kind ≤ 11) (hn : 0 < T.name.size) :
    Calls Tryz.prog 158 #[.agg #[.int .i64 T.kind, .string T.name, .slice A T.labels.length ca, .slice B T.kids.length cb]] w (SaysB (ShapeOk T) w) := by
  have CN := Lib.hid S.cn
  have HS := Lib.hid hs
  have HR := Lib.hid hr
  have HM := Lib.hid hm
  have hll := S.ll
  have hkl := S.kl
  have k1 : 1 ≤ T.kind := hk.1
  have k2 : T.kind ≤ 11 := hk.2
  have he := not_empty _ hn
  have HH : Hid (¬ ShapeOk T) := Lib.hid (fun h => by have h1 := h.1.2.1 (by unfold IsRes; omega); omega)
  clear S hs hr hm
  first | clear hk | skip
  first | clear hn | skip
  go_enter Tryz.func158, Tryz.ntmps158
  go_wp2
  go_ret
  exact ⟨false, (by first | rfl | exact ret_bool (by assumption)), iffF HH.out, below1 _ _⟩

set_option maxRecDepth 100000 in
theorem pl_lab {T : Ty} {A B : Option Addr} {ca cb lo : Nat} (S : IF T A B ca cb lo) (w : World) (hs : Strs w lo T.labels A) (hr : Ty.RowAt w lo T.kids B) (hm : MaxC w) (hk : 1 ≤ T.kind ∧ T.kind ≤ 11) (hn : T.name.size = 0) (hl : 0 < T.labels.length) :
    Calls Tryz.prog 158 #[.agg #[.int .i64 T.kind, .string T.name, .slice A T.labels.length ca, .slice B T.kids.length cb]] w (SaysB (ShapeOk T) w) := by
  have CN := Lib.hid S.cn
  have HS := Lib.hid hs
  have HR := Lib.hid hr
  have HM := Lib.hid hm
  have hll := S.ll
  have hkl := S.kl
  have k1 : 1 ≤ T.kind := hk.1
  have k2 : T.kind ≤ 11 := hk.2
  have e0 : ((T.labels.length : Int) == 0) = false := by rw [beq_eq_false_iff_ne]; omega
  have HH : Hid (¬ ShapeOk T) := Lib.hid (fun h => by have h1 := h.1.2.2.2 (by unfold IsLab; omega); omega)
  rw [name_nil hn]
  clear S hs hr hm
  first | clear hk | skip
  first | clear hn | skip
  first | clear hl | skip
  go_enter Tryz.func158, Tryz.ntmps158
  go_wp2
  go_ret
  exact ⟨false, (by first | rfl | exact ret_bool (by assumption)), iffF HH.out, below1 _ _⟩

set_option maxRecDepth 100000 in
theorem pl_kid {T : Ty} {A B : Option Addr} {ca cb lo : Nat} (S : IF T A B ca cb lo) (w : World) (hs : Strs w lo T.labels A) (hr : Ty.RowAt w lo T.kids B) (hm : MaxC w) (hk : 1 ≤ T.kind ∧ T.kind ≤ 11) (hn : T.name.size = 0) (hl : T.labels.length = 0) (hq : 0 < T.kids.length) :
    Calls Tryz.prog 158 #[.agg #[.int .i64 T.kind, .string T.name, .slice A T.labels.length ca, .slice B T.kids.length cb]] w (SaysB (ShapeOk T) w) := by
  have CN := Lib.hid S.cn
  have HS := Lib.hid hs
  have HR := Lib.hid hr
  have HM := Lib.hid hm
  have hll := S.ll
  have hkl := S.kl
  have k1 : 1 ≤ T.kind := hk.1
  have k2 : T.kind ≤ 11 := hk.2
  have e1 : ((T.kids.length : Int) == 0) = false := by rw [beq_eq_false_iff_ne]; omega
  have HH : Hid (¬ ShapeOk T) := Lib.hid (fun h => by have h1 := h.2; unfold BodyOk at h1; rw [if_neg (by omega), if_neg (by omega), if_neg (by omega), if_neg (by omega), if_neg (by omega), if_neg (by omega)] at h1; omega)
  rw [name_nil hn]
  rw [hl]
  clear S hs hr hm
  first | clear hk | skip
  first | clear hn | skip
  first | clear hl | skip
  first | clear hq | skip
  go_enter Tryz.func158, Tryz.ntmps158
  go_wp2
  go_ret
  exact ⟨false, (by first | rfl | exact ret_bool (by assumption)), iffF HH.out, below1 _ _⟩

set_option maxRecDepth 100000 in
theorem pl_ok {T : Ty} {A B : Option Addr} {ca cb lo : Nat} (S : IF T A B ca cb lo) (w : World) (hs : Strs w lo T.labels A) (hr : Ty.RowAt w lo T.kids B) (hm : MaxC w) (hk : 1 ≤ T.kind ∧ T.kind ≤ 11) (hn : T.name.size = 0) (hl : T.labels.length = 0) (hq : T.kids.length = 0) :
    Calls Tryz.prog 158 #[.agg #[.int .i64 T.kind, .string T.name, .slice A T.labels.length ca, .slice B T.kids.length cb]] w (SaysB (ShapeOk T) w) := by
  have CN := Lib.hid S.cn
  have HS := Lib.hid hs
  have HR := Lib.hid hr
  have HM := Lib.hid hm
  have hll := S.ll
  have hkl := S.kl
  have k1 : 1 ≤ T.kind := hk.1
  have k2 : T.kind ≤ 11 := hk.2
  have HH : Hid (ShapeOk T) := Lib.hid ⟨⟨fun h => by unfold IsRes at h; omega, fun _ => hn, fun h => by unfold IsLab at h; omega, fun _ => hl⟩, by unfold BodyOk; rw [if_neg (by omega), if_neg (by omega), if_neg (by omega), if_neg (by omega), if_neg (by omega), if_neg (by omega)]; omega⟩
  rw [name_nil hn]
  rw [hl]
  rw [hq]
  clear S hs hr hm
  first | clear hk | skip
  first | clear hn | skip
  first | clear hl | skip
  first | clear hq | skip
  go_enter Tryz.func158, Tryz.ntmps158
  go_wp2
  go_ret
  exact ⟨true, (by first | rfl | exact ret_bool (by assumption)), iffT HH.out, below1 _ _⟩

set_option maxRecDepth 100000 in
theorem ha_bad20 {T : Ty} {A B : Option Addr} {ca cb lo : Nat} (S : IF T A B ca cb lo) (w : World) (hs : Strs w lo T.labels A) (hr : Ty.RowAt w lo T.kids B) (hm : MaxC w) (hk : T.kind = 20) (hv : nmB T.name = false) :
    Calls Tryz.prog 157 #[.agg #[.int .i64 T.kind, .string T.name, .slice A T.labels.length ca, .slice B T.kids.length cb]] w (SaysB (ShapeOk T) w) := by
  have CN := Lib.hid S.cn
  have HS := Lib.hid hs
  have HR := Lib.hid hr
  have HM := Lib.hid hm
  have hll := S.ll
  have hkl := S.kl
  have HH : Hid (¬ ShapeOk T) := Lib.hid (fun h => by have h1 := h.1.1 (by rw [hk]; unfold IsRes; omega); rw [hv] at h1; cases h1)
  rw [hv] at CN
  clear S hs hr hm
  first | clear hk | skip
  first | clear hv | skip
  go_enter Tryz.func157, Tryz.ntmps157
  go_wp2_with (first | (go_at_call 92; (with_reducible refine (CN.out _ (HM.out.keep (below1 _ _))).mono ?_); rintro e w2 ⟨rfl, hb2⟩; obtain ⟨hc2, hf2⟩ := bcell hb2; have hz2 : w.heap.size < w2.heap.size := (by have h9 := hb2.size; simp at h9; omega); have HB2 := Lib.hid (bnext (below1 _ _) hb2); clear hb2))
  go_ret
  exact ⟨false, (by first | rfl | exact ret_bool (by assumption)), iffF HH.out, HB2.out⟩

set_option maxRecDepth 100000 in
theorem ha_lab20 {T : Ty} {A B : Option Addr} {ca cb lo : Nat} (S : IF T A B ca cb lo) (w : World) (hs : Strs w lo T.labels A) (hr : Ty.RowAt w lo T.kids B) (hm : MaxC w) (hk : T.kind = 20) (hv : nmB T.name = true) (hl : 0 < T.labels.length) :
    Calls Tryz.prog 157 #[.agg #[.int .i64 T.kind, .string T.name, .slice A T.labels.length ca, .slice B T.kids.length cb]] w (SaysB (ShapeOk T) w) := by
  have CN := Lib.hid S.cn
  have HS := Lib.hid hs
  have HR := Lib.hid hr
  have HM := Lib.hid hm
  have hll := S.ll
  have hkl := S.kl
  have e0 : ((T.labels.length : Int) == 0) = false := by rw [beq_eq_false_iff_ne]; omega
  have HH : Hid (¬ ShapeOk T) := Lib.hid (fun h => by have h1 := h.1.2.2.2 (by rw [hk]; unfold IsLab; omega); omega)
  rw [hv] at CN
  clear S hs hr hm
  first | clear hk | skip
  first | clear hv | skip
  first | clear hl | skip
  go_enter Tryz.func157, Tryz.ntmps157
  go_wp2_with (first | (go_at_call 92; (with_reducible refine (CN.out _ (HM.out.keep (below1 _ _))).mono ?_); rintro e w2 ⟨rfl, hb2⟩; obtain ⟨hc2, hf2⟩ := bcell hb2; have hz2 : w.heap.size < w2.heap.size := (by have h9 := hb2.size; simp at h9; omega); have HB2 := Lib.hid (bnext (below1 _ _) hb2); clear hb2))
  go_ret
  exact ⟨false, (by first | rfl | exact ret_bool (by assumption)), iffF HH.out, HB2.out⟩

set_option maxRecDepth 100000 in
theorem ha_kid20 {T : Ty} {A B : Option Addr} {ca cb lo : Nat} (S : IF T A B ca cb lo) (w : World) (hs : Strs w lo T.labels A) (hr : Ty.RowAt w lo T.kids B) (hm : MaxC w) (hk : T.kind = 20) (hv : nmB T.name = true) (hl : T.labels.length = 0) (hq : 0 < T.kids.length) :
    Calls Tryz.prog 157 #[.agg #[.int .i64 T.kind, .string T.name, .slice A T.labels.length ca, .slice B T.kids.length cb]] w (SaysB (ShapeOk T) w) := by
  have CN := Lib.hid S.cn
  have HS := Lib.hid hs
  have HR := Lib.hid hr
  have HM := Lib.hid hm
  have hll := S.ll
  have hkl := S.kl
  have e1 : ((T.kids.length : Int) == 0) = false := by rw [beq_eq_false_iff_ne]; omega
  have HH : Hid (¬ ShapeOk T) := Lib.hid (fun h => by have h1 := h.2; unfold BodyOk at h1; simp only [hk] at h1; have h2 : T.kids.length = 0 := h1.2; omega)
  rw [hv] at CN
  rw [hl]
  clear S hs hr hm
  first | clear hk | skip
  first | clear hv | skip
  first | clear hl | skip
  first | clear hq | skip
  go_enter Tryz.func157, Tryz.ntmps157
  go_wp2_with (first | (go_at_call 92; (with_reducible refine (CN.out _ (HM.out.keep (below1 _ _))).mono ?_); rintro e w2 ⟨rfl, hb2⟩; obtain ⟨hc2, hf2⟩ := bcell hb2; have hz2 : w.heap.size < w2.heap.size := (by have h9 := hb2.size; simp at h9; omega); have HB2 := Lib.hid (bnext (below1 _ _) hb2); clear hb2))
  go_ret
  exact ⟨false, (by first | rfl | exact ret_bool (by assumption)), iffF HH.out, HB2.out⟩

set_option maxRecDepth 100000 in
theorem ha_ok20 {T : Ty} {A B : Option Addr} {ca cb lo : Nat} (S : IF T A B ca cb lo) (w : World) (hs : Strs w lo T.labels A) (hr : Ty.RowAt w lo T.kids B) (hm : MaxC w) (hk : T.kind = 20) (hv : nmB T.name = true) (hl : T.labels.length = 0) (hq : T.kids.length = 0) :
    Calls Tryz.prog 157 #[.agg #[.int .i64 T.kind, .string T.name, .slice A T.labels.length ca, .slice B T.kids.length cb]] w (SaysB (ShapeOk T) w) := by
  have CN := Lib.hid S.cn
  have HS := Lib.hid hs
  have HR := Lib.hid hr
  have HM := Lib.hid hm
  have hll := S.ll
  have hkl := S.kl
  have HH : Hid (ShapeOk T) := Lib.hid ⟨⟨fun _ => hv, fun h => absurd (by rw [hk]; unfold IsRes; omega) h, fun h => by rw [hk] at h; unfold IsLab at h; omega, fun _ => hl⟩, by unfold BodyOk; simp only [hk]; exact ⟨by decide, hq⟩⟩
  rw [hv] at CN
  rw [hl]
  rw [hq]
  clear S hs hr hm
  first | clear hk | skip
  first | clear hv | skip
  first | clear hl | skip
  first | clear hq | skip
  go_enter Tryz.func157, Tryz.ntmps157
  go_wp2_with (first | (go_at_call 92; (with_reducible refine (CN.out _ (HM.out.keep (below1 _ _))).mono ?_); rintro e w2 ⟨rfl, hb2⟩; obtain ⟨hc2, hf2⟩ := bcell hb2; have hz2 : w.heap.size < w2.heap.size := (by have h9 := hb2.size; simp at h9; omega); have HB2 := Lib.hid (bnext (below1 _ _) hb2); clear hb2))
  go_ret
  exact ⟨true, (by first | rfl | exact ret_bool (by assumption)), iffT HH.out, HB2.out⟩

set_option maxRecDepth 100000 in
theorem ha_bad21 {T : Ty} {A B : Option Addr} {ca cb lo : Nat} (S : IF T A B ca cb lo) (w : World) (hs : Strs w lo T.labels A) (hr : Ty.RowAt w lo T.kids B) (hm : MaxC w) (hk : T.kind = 21) (hv : nmB T.name = false) :
    Calls Tryz.prog 157 #[.agg #[.int .i64 T.kind, .string T.name, .slice A T.labels.length ca, .slice B T.kids.length cb]] w (SaysB (ShapeOk T) w) := by
  have CN := Lib.hid S.cn
  have HS := Lib.hid hs
  have HR := Lib.hid hr
  have HM := Lib.hid hm
  have hll := S.ll
  have hkl := S.kl
  have HH : Hid (¬ ShapeOk T) := Lib.hid (fun h => by have h1 := h.1.1 (by rw [hk]; unfold IsRes; omega); rw [hv] at h1; cases h1)
  rw [hv] at CN
  clear S hs hr hm
  first | clear hk | skip
  first | clear hv | skip
  go_enter Tryz.func157, Tryz.ntmps157
  go_wp2_with (first | (go_at_call 92; (with_reducible refine (CN.out _ (HM.out.keep (below1 _ _))).mono ?_); rintro e w2 ⟨rfl, hb2⟩; obtain ⟨hc2, hf2⟩ := bcell hb2; have hz2 : w.heap.size < w2.heap.size := (by have h9 := hb2.size; simp at h9; omega); have HB2 := Lib.hid (bnext (below1 _ _) hb2); clear hb2))
  go_ret
  exact ⟨false, (by first | rfl | exact ret_bool (by assumption)), iffF HH.out, HB2.out⟩

set_option maxRecDepth 100000 in
theorem ha_lab21 {T : Ty} {A B : Option Addr} {ca cb lo : Nat} (S : IF T A B ca cb lo) (w : World) (hs : Strs w lo T.labels A) (hr : Ty.RowAt w lo T.kids B) (hm : MaxC w) (hk : T.kind = 21) (hv : nmB T.name = true) (hl : 0 < T.labels.length) :
    Calls Tryz.prog 157 #[.agg #[.int .i64 T.kind, .string T.name, .slice A T.labels.length ca, .slice B T.kids.length cb]] w (SaysB (ShapeOk T) w) := by
  have CN := Lib.hid S.cn
  have HS := Lib.hid hs
  have HR := Lib.hid hr
  have HM := Lib.hid hm
  have hll := S.ll
  have hkl := S.kl
  have e0 : ((T.labels.length : Int) == 0) = false := by rw [beq_eq_false_iff_ne]; omega
  have HH : Hid (¬ ShapeOk T) := Lib.hid (fun h => by have h1 := h.1.2.2.2 (by rw [hk]; unfold IsLab; omega); omega)
  rw [hv] at CN
  clear S hs hr hm
  first | clear hk | skip
  first | clear hv | skip
  first | clear hl | skip
  go_enter Tryz.func157, Tryz.ntmps157
  go_wp2_with (first | (go_at_call 92; (with_reducible refine (CN.out _ (HM.out.keep (below1 _ _))).mono ?_); rintro e w2 ⟨rfl, hb2⟩; obtain ⟨hc2, hf2⟩ := bcell hb2; have hz2 : w.heap.size < w2.heap.size := (by have h9 := hb2.size; simp at h9; omega); have HB2 := Lib.hid (bnext (below1 _ _) hb2); clear hb2))
  go_ret
  exact ⟨false, (by first | rfl | exact ret_bool (by assumption)), iffF HH.out, HB2.out⟩

set_option maxRecDepth 100000 in
theorem ha_kid21 {T : Ty} {A B : Option Addr} {ca cb lo : Nat} (S : IF T A B ca cb lo) (w : World) (hs : Strs w lo T.labels A) (hr : Ty.RowAt w lo T.kids B) (hm : MaxC w) (hk : T.kind = 21) (hv : nmB T.name = true) (hl : T.labels.length = 0) (hq : 0 < T.kids.length) :
    Calls Tryz.prog 157 #[.agg #[.int .i64 T.kind, .string T.name, .slice A T.labels.length ca, .slice B T.kids.length cb]] w (SaysB (ShapeOk T) w) := by
  have CN := Lib.hid S.cn
  have HS := Lib.hid hs
  have HR := Lib.hid hr
  have HM := Lib.hid hm
  have hll := S.ll
  have hkl := S.kl
  have e1 : ((T.kids.length : Int) == 0) = false := by rw [beq_eq_false_iff_ne]; omega
  have HH : Hid (¬ ShapeOk T) := Lib.hid (fun h => by have h1 := h.2; unfold BodyOk at h1; simp only [hk] at h1; have h2 : T.kids.length = 0 := h1.2; omega)
  rw [hv] at CN
  rw [hl]
  clear S hs hr hm
  first | clear hk | skip
  first | clear hv | skip
  first | clear hl | skip
  first | clear hq | skip
  go_enter Tryz.func157, Tryz.ntmps157
  go_wp2_with (first | (go_at_call 92; (with_reducible refine (CN.out _ (HM.out.keep (below1 _ _))).mono ?_); rintro e w2 ⟨rfl, hb2⟩; obtain ⟨hc2, hf2⟩ := bcell hb2; have hz2 : w.heap.size < w2.heap.size := (by have h9 := hb2.size; simp at h9; omega); have HB2 := Lib.hid (bnext (below1 _ _) hb2); clear hb2))
  go_ret
  exact ⟨false, (by first | rfl | exact ret_bool (by assumption)), iffF HH.out, HB2.out⟩

set_option maxRecDepth 100000 in
theorem ha_ok21 {T : Ty} {A B : Option Addr} {ca cb lo : Nat} (S : IF T A B ca cb lo) (w : World) (hs : Strs w lo T.labels A) (hr : Ty.RowAt w lo T.kids B) (hm : MaxC w) (hk : T.kind = 21) (hv : nmB T.name = true) (hl : T.labels.length = 0) (hq : T.kids.length = 0) :
    Calls Tryz.prog 157 #[.agg #[.int .i64 T.kind, .string T.name, .slice A T.labels.length ca, .slice B T.kids.length cb]] w (SaysB (ShapeOk T) w) := by
  have CN := Lib.hid S.cn
  have HS := Lib.hid hs
  have HR := Lib.hid hr
  have HM := Lib.hid hm
  have hll := S.ll
  have hkl := S.kl
  have HH : Hid (ShapeOk T) := Lib.hid ⟨⟨fun _ => hv, fun h => absurd (by rw [hk]; unfold IsRes; omega) h, fun h => by rw [hk] at h; unfold IsLab at h; omega, fun _ => hl⟩, by unfold BodyOk; simp only [hk]; exact ⟨by decide, hq⟩⟩
  rw [hv] at CN
  rw [hl]
  rw [hq]
  clear S hs hr hm
  first | clear hk | skip
  first | clear hv | skip
  first | clear hl | skip
  first | clear hq | skip
  go_enter Tryz.func157, Tryz.ntmps157
  go_wp2_with (first | (go_at_call 92; (with_reducible refine (CN.out _ (HM.out.keep (below1 _ _))).mono ?_); rintro e w2 ⟨rfl, hb2⟩; obtain ⟨hc2, hf2⟩ := bcell hb2; have hz2 : w.heap.size < w2.heap.size := (by have h9 := hb2.size; simp at h9; omega); have HB2 := Lib.hid (bnext (below1 _ _) hb2); clear hb2))
  go_ret
  exact ⟨true, (by first | rfl | exact ret_bool (by assumption)), iffT HH.out, HB2.out⟩

set_option maxRecDepth 100000 in
theorem an_name {T : Ty} {A B : Option Addr} {ca cb lo : Nat} (S : IF T A B ca cb lo) (w : World) (hs : Strs w lo T.labels A) (hr : Ty.RowAt w lo T.kids B) (hm : MaxC w) (hk : T.kind = 12 ∨ T.kind = 13 ∨ T.kind = 14 ∨ T.kind = 15 ∨ T.kind = 22 ∨ T.kind = 23) (hn : 0 < T.name.size) :
    Calls Tryz.prog 153 #[.agg #[.int .i64 T.kind, .string T.name, .slice A T.labels.length ca, .slice B T.kids.length cb]] w (SaysB (ShapeOk T) w) := by
  have CN := Lib.hid S.cn
  have HS := Lib.hid hs
  have HR := Lib.hid hr
  have HM := Lib.hid hm
  have hll := S.ll
  have hkl := S.kl
  have he := not_empty _ hn
  have HH : Hid (¬ ShapeOk T) := Lib.hid (fun h => by have h1 := h.1.2.1 (by unfold IsRes; omega); omega)
  clear S hs hr hm
  first | clear hk | skip
  first | clear hn | skip
  go_enter Tryz.func153, Tryz.ntmps153
  go_wp2
  go_ret
  exact ⟨false, (by first | rfl | exact ret_bool (by assumption)), iffF HH.out, below1 _ _⟩

set_option maxRecDepth 100000 in
theorem an_lab {T : Ty} {A B : Option Addr} {ca cb lo : Nat} (S : IF T A B ca cb lo) (w : World) (hs : Strs w lo T.labels A) (hr : Ty.RowAt w lo T.kids B) (hm : MaxC w) (hk : T.kind = 12 ∨ T.kind = 13 ∨ T.kind = 14 ∨ T.kind = 15 ∨ T.kind = 22 ∨ T.kind = 23) (hn : T.name.size = 0) (hl : 0 < T.labels.length) :
    Calls Tryz.prog 153 #[.agg #[.int .i64 T.kind, .string T.name, .slice A T.labels.length ca, .slice B T.kids.length cb]] w (SaysB (ShapeOk T) w) := by
  have CN := Lib.hid S.cn
  have HS := Lib.hid hs
  have HR := Lib.hid hr
  have HM := Lib.hid hm
  have hll := S.ll
  have hkl := S.kl
  have hl' : (0 : Int) < (T.labels.length : Int) := by omega
  have hlN : 0 < T.labels.length := hl
  have HH : Hid (¬ ShapeOk T) := Lib.hid (fun h => by have h1 := h.1.2.2.2 (by unfold IsLab; omega); omega)
  rw [name_nil hn]
  clear S hs hr hm
  first | clear hk | skip
  first | clear hn | skip
  first | clear hl | skip
  go_enter Tryz.func153, Tryz.ntmps153
  go_wp2
  go_ret
  exact ⟨false, (by first | rfl | exact ret_bool (by assumption)), iffF HH.out, below1 _ _⟩

set_option maxRecDepth 100000 in
theorem an_one_len12 {T : Ty} {A B : Option Addr} {ca cb lo : Nat} (S : IF T A B ca cb lo) (w : World) (hs : Strs w lo T.labels A) (hr : Ty.RowAt w lo T.kids B) (hm : MaxC w) (hk : T.kind = 12) (hn : T.name.size = 0) (hl : T.labels.length = 0) (hq : T.kids.length ≠ 1) :
    Calls Tryz.prog 153 #[.agg #[.int .i64 T.kind, .string T.name, .slice A T.labels.length ca, .slice B T.kids.length cb]] w (SaysB (ShapeOk T) w) := by
  have CN := Lib.hid S.cn
  have HS := Lib.hid hs
  have HR := Lib.hid hr
  have HM := Lib.hid hm
  have hll := S.ll
  have hkl := S.kl
  have HH : Hid (¬ ShapeOk T) := Lib.hid (fun h => by have h1 := h.2; unfold BodyOk at h1; simp only [hk] at h1; exact hq h1.1)
  have e1 : ((T.kids.length : Int) == 1) = false := by rw [beq_eq_false_iff_ne]; omega
  rw [hk]
  rw [name_nil hn]
  rw [hl]
  clear S hs hr hm
  first | clear hk | skip
  first | clear hn | skip
  first | clear hl | skip
  first | clear hq | skip
  go_enter Tryz.func153, Tryz.ntmps153
  go_wp2
  go_ret
  exact ⟨false, (by first | rfl | exact ret_bool (by assumption)), iffF HH.out, below1 _ _⟩

set_option maxRecDepth 100000 in
theorem an_one_yes12 {T : Ty} {A B : Option Addr} {ca cb lo : Nat} (S : IF T A B ca cb lo) (w : World) (hs : Strs w lo T.labels A) (hr : Ty.RowAt w lo T.kids B) (hm : MaxC w) (hk : T.kind = 12) (hn : T.name.size = 0) (hl : T.labels.length = 0) (hq : T.kids.length = 1) (hu : UnitIn T.kids T.kids.length) :
    Calls Tryz.prog 153 #[.agg #[.int .i64 T.kind, .string T.name, .slice A T.labels.length ca, .slice B T.kids.length cb]] w (SaysB (ShapeOk T) w) := by
  have CN := Lib.hid S.cn
  have HS := Lib.hid hs
  have HR := Lib.hid hr
  have HM := Lib.hid hm
  have hll := S.ll
  have hkl := S.kl
  obtain ⟨b, o, t, A', B', ca', cb', rfl, _, htk, hc⟩ := (hr.below (below1 w (.cells #[.int .i64 12, .string ⟨#[]⟩, .slice A 0 ca, .slice B T.kids.length cb] 104))).at_ (k := 0) (by omega)
  have hu1 : t.kind = 1 := by obtain ⟨i, t', hi, ht', h1⟩ := hu; obtain rfl : i = 0 := (by omega); rw [htk] at ht'; cases ht'; exact h1
  have HH : Hid (¬ ShapeOk T) := Lib.hid (fun h => by have h1 := h.2; unfold BodyOk at h1; simp only [hk] at h1; exact h1.2 hu)
  have CK := Lib.hid (fun W => isUnit_any t.kind t.name A' B' t.labels.length t.kids.length ca' cb' W)
  rw [show (t.kind == 1) = true by rw [beq_iff_eq]; exact hu1] at CK
  obtain ⟨c0, c1, c2, c3, _⟩ := hc
  have e2 : (0 : Int) < (T.kids.length : Int) := by omega
  rw [Nat.zero_mul, Nat.add_zero] at c0 c1 c2 c3
  have e1 : ((T.kids.length : Int) == 1) = true := by rw [beq_iff_eq]; omega
  clear hu1 htk
  rw [hk]
  rw [name_nil hn]
  rw [hl]
  clear S hs hr hm
  first | clear hk | skip
  first | clear hn | skip
  first | clear hl | skip
  first | clear hq | skip
  first | clear hu | skip
  go_enter Tryz.func153, Tryz.ntmps153
  go_wp2_with (first | (go_at_call 56; (with_reducible refine (CK.out _).mono ?_); rintro e w7 ⟨rfl, hb7⟩; have HB7 := Lib.hid (bnext (below1 _ _) hb7); clear hb7))
  go_ret
  exact ⟨false, (by first | rfl | exact ret_bool (by assumption)), iffF HH.out, HB7.out⟩

set_option maxRecDepth 100000 in
theorem an_one_no12 {T : Ty} {A B : Option Addr} {ca cb lo : Nat} (S : IF T A B ca cb lo) (w : World) (hs : Strs w lo T.labels A) (hr : Ty.RowAt w lo T.kids B) (hm : MaxC w) (hk : T.kind = 12) (hn : T.name.size = 0) (hl : T.labels.length = 0) (hq : T.kids.length = 1) (hu : ¬ UnitIn T.kids T.kids.length) :
    Calls Tryz.prog 153 #[.agg #[.int .i64 T.kind, .string T.name, .slice A T.labels.length ca, .slice B T.kids.length cb]] w (SaysB (ShapeOk T) w) := by
  have CN := Lib.hid S.cn
  have HS := Lib.hid hs
  have HR := Lib.hid hr
  have HM := Lib.hid hm
  have hll := S.ll
  have hkl := S.kl
  obtain ⟨b, o, t, A', B', ca', cb', rfl, _, htk, hc⟩ := (hr.below (below1 w (.cells #[.int .i64 12, .string ⟨#[]⟩, .slice A 0 ca, .slice B T.kids.length cb] 104))).at_ (k := 0) (by omega)
  have hu1 : t.kind ≠ 1 := fun h => hu ⟨0, t, by omega, htk, h⟩
  have HH : Hid (ShapeOk T) := Lib.hid ⟨⟨fun h => by rw [hk] at h; unfold IsRes at h; omega, fun _ => hn, fun h => by rw [hk] at h; unfold IsLab at h; omega, fun _ => hl⟩, by unfold BodyOk; simp only [hk]; exact ⟨hq, hu⟩⟩
  have CK := Lib.hid (fun W => isUnit_any t.kind t.name A' B' t.labels.length t.kids.length ca' cb' W)
  rw [show (t.kind == 1) = false by rw [beq_eq_false_iff_ne]; exact hu1] at CK
  obtain ⟨c0, c1, c2, c3, _⟩ := hc
  have e2 : (0 : Int) < (T.kids.length : Int) := by omega
  rw [Nat.zero_mul, Nat.add_zero] at c0 c1 c2 c3
  have e1 : ((T.kids.length : Int) == 1) = true := by rw [beq_iff_eq]; omega
  clear hu1 htk
  rw [hk]
  rw [name_nil hn]
  rw [hl]
  clear S hs hr hm
  first | clear hk | skip
  first | clear hn | skip
  first | clear hl | skip
  first | clear hq | skip
  first | clear hu | skip
  go_enter Tryz.func153, Tryz.ntmps153
  go_wp2_with (first | (go_at_call 56; (with_reducible refine (CK.out _).mono ?_); rintro e w7 ⟨rfl, hb7⟩; have HB7 := Lib.hid (bnext (below1 _ _) hb7); clear hb7))
  go_ret
  exact ⟨true, (by first | rfl | exact ret_bool (by assumption)), iffT HH.out, HB7.out⟩

set_option maxRecDepth 100000 in
theorem an_one_len13 {T : Ty} {A B : Option Addr} {ca cb lo : Nat} (S : IF T A B ca cb lo) (w : World) (hs : Strs w lo T.labels A) (hr : Ty.RowAt w lo T.kids B) (hm : MaxC w) (hk : T.kind = 13) (hn : T.name.size = 0) (hl : T.labels.length = 0) (hq : T.kids.length ≠ 1) :
    Calls Tryz.prog 153 #[.agg #[.int .i64 T.kind, .string T.name, .slice A T.labels.length ca, .slice B T.kids.length cb]] w (SaysB (ShapeOk T) w) := by
  have CN := Lib.hid S.cn
  have HS := Lib.hid hs
  have HR := Lib.hid hr
  have HM := Lib.hid hm
  have hll := S.ll
  have hkl := S.kl
  have HH : Hid (¬ ShapeOk T) := Lib.hid (fun h => by have h1 := h.2; unfold BodyOk at h1; simp only [hk] at h1; exact hq h1.1)
  have e1 : ((T.kids.length : Int) == 1) = false := by rw [beq_eq_false_iff_ne]; omega
  rw [hk]
  rw [name_nil hn]
  rw [hl]
  clear S hs hr hm
  first | clear hk | skip
  first | clear hn | skip
  first | clear hl | skip
  first | clear hq | skip
  go_enter Tryz.func153, Tryz.ntmps153
  go_wp2
  go_ret
  exact ⟨false, (by first | rfl | exact ret_bool (by assumption)), iffF HH.out, below1 _ _⟩

set_option maxRecDepth 100000 in
theorem an_one_yes13 {T : Ty} {A B : Option Addr} {ca cb lo : Nat} (S : IF T A B ca cb lo) (w : World) (hs : Strs w lo T.labels A) (hr : Ty.RowAt w lo T.kids B) (hm : MaxC w) (hk : T.kind = 13) (hn : T.name.size = 0) (hl : T.labels.length = 0) (hq : T.kids.length = 1) (hu : UnitIn T.kids T.kids.length) :
    Calls Tryz.prog 153 #[.agg #[.int .i64 T.kind, .string T.name, .slice A T.labels.length ca, .slice B T.kids.length cb]] w (SaysB (ShapeOk T) w) := by
  have CN := Lib.hid S.cn
  have HS := Lib.hid hs
  have HR := Lib.hid hr
  have HM := Lib.hid hm
  have hll := S.ll
  have hkl := S.kl
  obtain ⟨b, o, t, A', B', ca', cb', rfl, _, htk, hc⟩ := (hr.below (below1 w (.cells #[.int .i64 13, .string ⟨#[]⟩, .slice A 0 ca, .slice B T.kids.length cb] 104))).at_ (k := 0) (by omega)
  have hu1 : t.kind = 1 := by obtain ⟨i, t', hi, ht', h1⟩ := hu; obtain rfl : i = 0 := (by omega); rw [htk] at ht'; cases ht'; exact h1
  have HH : Hid (¬ ShapeOk T) := Lib.hid (fun h => by have h1 := h.2; unfold BodyOk at h1; simp only [hk] at h1; exact h1.2 hu)
  have CK := Lib.hid (fun W => isUnit_any t.kind t.name A' B' t.labels.length t.kids.length ca' cb' W)
  rw [show (t.kind == 1) = true by rw [beq_iff_eq]; exact hu1] at CK
  obtain ⟨c0, c1, c2, c3, _⟩ := hc
  have e2 : (0 : Int) < (T.kids.length : Int) := by omega
  rw [Nat.zero_mul, Nat.add_zero] at c0 c1 c2 c3
  have e1 : ((T.kids.length : Int) == 1) = true := by rw [beq_iff_eq]; omega
  clear hu1 htk
  rw [hk]
  rw [name_nil hn]
  rw [hl]
  clear S hs hr hm
  first | clear hk | skip
  first | clear hn | skip
  first | clear hl | skip
  first | clear hq | skip
  first | clear hu | skip
  go_enter Tryz.func153, Tryz.ntmps153
  go_wp2_with (first | (go_at_call 56; (with_reducible refine (CK.out _).mono ?_); rintro e w7 ⟨rfl, hb7⟩; have HB7 := Lib.hid (bnext (below1 _ _) hb7); clear hb7))
  go_ret
  exact ⟨false, (by first | rfl | exact ret_bool (by assumption)), iffF HH.out, HB7.out⟩

set_option maxRecDepth 100000 in
theorem an_one_no13 {T : Ty} {A B : Option Addr} {ca cb lo : Nat} (S : IF T A B ca cb lo) (w : World) (hs : Strs w lo T.labels A) (hr : Ty.RowAt w lo T.kids B) (hm : MaxC w) (hk : T.kind = 13) (hn : T.name.size = 0) (hl : T.labels.length = 0) (hq : T.kids.length = 1) (hu : ¬ UnitIn T.kids T.kids.length) :
    Calls Tryz.prog 153 #[.agg #[.int .i64 T.kind, .string T.name, .slice A T.labels.length ca, .slice B T.kids.length cb]] w (SaysB (ShapeOk T) w) := by
  have CN := Lib.hid S.cn
  have HS := Lib.hid hs
  have HR := Lib.hid hr
  have HM := Lib.hid hm
  have hll := S.ll
  have hkl := S.kl
  obtain ⟨b, o, t, A', B', ca', cb', rfl, _, htk, hc⟩ := (hr.below (below1 w (.cells #[.int .i64 13, .string ⟨#[]⟩, .slice A 0 ca, .slice B T.kids.length cb] 104))).at_ (k := 0) (by omega)
  have hu1 : t.kind ≠ 1 := fun h => hu ⟨0, t, by omega, htk, h⟩
  have HH : Hid (ShapeOk T) := Lib.hid ⟨⟨fun h => by rw [hk] at h; unfold IsRes at h; omega, fun _ => hn, fun h => by rw [hk] at h; unfold IsLab at h; omega, fun _ => hl⟩, by unfold BodyOk; simp only [hk]; exact ⟨hq, hu⟩⟩
  have CK := Lib.hid (fun W => isUnit_any t.kind t.name A' B' t.labels.length t.kids.length ca' cb' W)
  rw [show (t.kind == 1) = false by rw [beq_eq_false_iff_ne]; exact hu1] at CK
  obtain ⟨c0, c1, c2, c3, _⟩ := hc
  have e2 : (0 : Int) < (T.kids.length : Int) := by omega
  rw [Nat.zero_mul, Nat.add_zero] at c0 c1 c2 c3
  have e1 : ((T.kids.length : Int) == 1) = true := by rw [beq_iff_eq]; omega
  clear hu1 htk
  rw [hk]
  rw [name_nil hn]
  rw [hl]
  clear S hs hr hm
  first | clear hk | skip
  first | clear hn | skip
  first | clear hl | skip
  first | clear hq | skip
  first | clear hu | skip
  go_enter Tryz.func153, Tryz.ntmps153
  go_wp2_with (first | (go_at_call 56; (with_reducible refine (CK.out _).mono ?_); rintro e w7 ⟨rfl, hb7⟩; have HB7 := Lib.hid (bnext (below1 _ _) hb7); clear hb7))
  go_ret
  exact ⟨true, (by first | rfl | exact ret_bool (by assumption)), iffT HH.out, HB7.out⟩

set_option maxRecDepth 100000 in
theorem an_str_len22 {T : Ty} {A B : Option Addr} {ca cb lo : Nat} (S : IF T A B ca cb lo) (w : World) (hs : Strs w lo T.labels A) (hr : Ty.RowAt w lo T.kids B) (hm : MaxC w) (hk : T.kind = 22) (hn : T.name.size = 0) (hl : T.labels.length = 0) (hq : T.kids.length ≠ 1) :
    Calls Tryz.prog 153 #[.agg #[.int .i64 T.kind, .string T.name, .slice A T.labels.length ca, .slice B T.kids.length cb]] w (SaysB (ShapeOk T) w) := by
  have CN := Lib.hid S.cn
  have HS := Lib.hid hs
  have HR := Lib.hid hr
  have HM := Lib.hid hm
  have hll := S.ll
  have hkl := S.kl
  have HH : Hid (¬ ShapeOk T) := Lib.hid (fun h => by have h1 := h.2; unfold BodyOk at h1; simp only [hk] at h1; exact hq h1.1)
  have e1 : ((T.kids.length : Int) == 1) = false := by rw [beq_eq_false_iff_ne]; omega
  rw [hk]
  rw [name_nil hn]
  rw [hl]
  clear S hs hr hm
  first | clear hk | skip
  first | clear hn | skip
  first | clear hl | skip
  first | clear hq | skip
  go_enter Tryz.func153, Tryz.ntmps153
  go_wp2
  go_ret
  exact ⟨false, (by first | rfl | exact ret_bool (by assumption)), iffF HH.out, below1 _ _⟩

set_option maxRecDepth 100000 in
theorem an_str_true22 {T : Ty} {A B : Option Addr} {ca cb lo : Nat} (S : IF T A B ca cb lo) (w : World) (hs : Strs w lo T.labels A) (hr : Ty.RowAt w lo T.kids B) (hm : MaxC w) (hk : T.kind = 22) (hn : T.name.size = 0) (hl : T.labels.length = 0) (hq : T.kids.length = 1) (hv : ∀ t, T.kids[0]? = some t → t.has (inB 21 21) = true) :
    Calls Tryz.prog 153 #[.agg #[.int .i64 T.kind, .string T.name, .slice A T.labels.length ca, .slice B T.kids.length cb]] w (SaysB (ShapeOk T) w) := by
  have CN := Lib.hid S.cn
  have HS := Lib.hid hs
  have HR := Lib.hid hr
  have HM := Lib.hid hm
  have hll := S.ll
  have hkl := S.kl
  obtain ⟨b, o, t, A', B', ca', cb', rfl, _, htk, hc⟩ := (hr.below (below1 w (.cells #[.int .i64 22, .string ⟨#[]⟩, .slice A 0 ca, .slice B T.kids.length cb] 104))).at_ (k := 0) (by omega)
  have hv' := hv t htk
  have HH : Hid (¬ ShapeOk T) := Lib.hid (fun h => by have h1 := h.2; unfold BodyOk at h1; simp only [hk] at h1; rw [h1.2 t htk] at hv'; cases hv')
  have CH := S.ch t htk A' B' ca' cb' lo _ hc.tree
  rw [hv'] at CH
  have CH := Lib.hid CH
  obtain ⟨c0, c1, c2, c3, _⟩ := hc
  have e2 : (0 : Int) < (T.kids.length : Int) := by omega
  rw [Nat.zero_mul, Nat.add_zero] at c0 c1 c2 c3
  have e1 : ((T.kids.length : Int) == 1) = true := by rw [beq_iff_eq]; omega
  clear hv' htk
  rw [hk]
  rw [name_nil hn]
  rw [hl]
  clear S hs hr hm
  first | clear hk | skip
  first | clear hn | skip
  first | clear hl | skip
  first | clear hq | skip
  first | clear hv | skip
  go_enter Tryz.func153, Tryz.ntmps153
  go_wp2_with (first | (go_at_call 80; (with_reducible refine CH.out.mono ?_); rintro e w6 ⟨rfl, hb6⟩; have HB6 := Lib.hid (bnext (below1 _ _) hb6); clear hb6))
  go_ret
  exact ⟨false, (by first | rfl | exact ret_bool (by assumption)), iffF HH.out, HB6.out⟩

set_option maxRecDepth 100000 in
theorem an_str_false22 {T : Ty} {A B : Option Addr} {ca cb lo : Nat} (S : IF T A B ca cb lo) (w : World) (hs : Strs w lo T.labels A) (hr : Ty.RowAt w lo T.kids B) (hm : MaxC w) (hk : T.kind = 22) (hn : T.name.size = 0) (hl : T.labels.length = 0) (hq : T.kids.length = 1) (hv : ∀ t, T.kids[0]? = some t → t.has (inB 21 21) = false) :
    Calls Tryz.prog 153 #[.agg #[.int .i64 T.kind, .string T.name, .slice A T.labels.length ca, .slice B T.kids.length cb]] w (SaysB (ShapeOk T) w) := by
  have CN := Lib.hid S.cn
  have HS := Lib.hid hs
  have HR := Lib.hid hr
  have HM := Lib.hid hm
  have hll := S.ll
  have hkl := S.kl
  obtain ⟨b, o, t, A', B', ca', cb', rfl, _, htk, hc⟩ := (hr.below (below1 w (.cells #[.int .i64 22, .string ⟨#[]⟩, .slice A 0 ca, .slice B T.kids.length cb] 104))).at_ (k := 0) (by omega)
  have hv' := hv t htk
  have HH : Hid (ShapeOk T) := Lib.hid ⟨⟨fun h => by rw [hk] at h; unfold IsRes at h; omega, fun _ => hn, fun h => by rw [hk] at h; unfold IsLab at h; omega, fun _ => hl⟩, by unfold BodyOk; simp only [hk]; exact ⟨hq, hv⟩⟩
  have CH := S.ch t htk A' B' ca' cb' lo _ hc.tree
  rw [hv'] at CH
  have CH := Lib.hid CH
  obtain ⟨c0, c1, c2, c3, _⟩ := hc
  have e2 : (0 : Int) < (T.kids.length : Int) := by omega
  rw [Nat.zero_mul, Nat.add_zero] at c0 c1 c2 c3
  have e1 : ((T.kids.length : Int) == 1) = true := by rw [beq_iff_eq]; omega
  clear hv' htk
  rw [hk]
  rw [name_nil hn]
  rw [hl]
  clear S hs hr hm
  first | clear hk | skip
  first | clear hn | skip
  first | clear hl | skip
  first | clear hq | skip
  first | clear hv | skip
  go_enter Tryz.func153, Tryz.ntmps153
  go_wp2_with (first | (go_at_call 80; (with_reducible refine CH.out.mono ?_); rintro e w6 ⟨rfl, hb6⟩; have HB6 := Lib.hid (bnext (below1 _ _) hb6); clear hb6))
  go_ret
  exact ⟨true, (by first | rfl | exact ret_bool (by assumption)), iffT HH.out, HB6.out⟩

set_option maxRecDepth 100000 in
theorem an_str_len23 {T : Ty} {A B : Option Addr} {ca cb lo : Nat} (S : IF T A B ca cb lo) (w : World) (hs : Strs w lo T.labels A) (hr : Ty.RowAt w lo T.kids B) (hm : MaxC w) (hk : T.kind = 23) (hn : T.name.size = 0) (hl : T.labels.length = 0) (hq : T.kids.length ≠ 1) :
    Calls Tryz.prog 153 #[.agg #[.int .i64 T.kind, .string T.name, .slice A T.labels.length ca, .slice B T.kids.length cb]] w (SaysB (ShapeOk T) w) := by
  have CN := Lib.hid S.cn
  have HS := Lib.hid hs
  have HR := Lib.hid hr
  have HM := Lib.hid hm
  have hll := S.ll
  have hkl := S.kl
  have HH : Hid (¬ ShapeOk T) := Lib.hid (fun h => by have h1 := h.2; unfold BodyOk at h1; simp only [hk] at h1; exact hq h1.1)
  have e1 : ((T.kids.length : Int) == 1) = false := by rw [beq_eq_false_iff_ne]; omega
  rw [hk]
  rw [name_nil hn]
  rw [hl]
  clear S hs hr hm
  first | clear hk | skip
  first | clear hn | skip
  first | clear hl | skip
  first | clear hq | skip
  go_enter Tryz.func153, Tryz.ntmps153
  go_wp2
  go_ret
  exact ⟨false, (by first | rfl | exact ret_bool (by assumption)), iffF HH.out, below1 _ _⟩

set_option maxRecDepth 100000 in
theorem an_str_true23 {T : Ty} {A B : Option Addr} {ca cb lo : Nat} (S : IF T A B ca cb lo) (w : World) (hs : Strs w lo T.labels A) (hr : Ty.RowAt w lo T.kids B) (hm : MaxC w) (hk : T.kind = 23) (hn : T.name.size = 0) (hl : T.labels.length = 0) (hq : T.kids.length = 1) (hv : ∀ t, T.kids[0]? = some t → t.has (inB 21 21) = true) :
    Calls Tryz.prog 153 #[.agg #[.int .i64 T.kind, .string T.name, .slice A T.labels.length ca, .slice B T.kids.length cb]] w (SaysB (ShapeOk T) w) := by
  have CN := Lib.hid S.cn
  have HS := Lib.hid hs
  have HR := Lib.hid hr
  have HM := Lib.hid hm
  have hll := S.ll
  have hkl := S.kl
  obtain ⟨b, o, t, A', B', ca', cb', rfl, _, htk, hc⟩ := (hr.below (below1 w (.cells #[.int .i64 23, .string ⟨#[]⟩, .slice A 0 ca, .slice B T.kids.length cb] 104))).at_ (k := 0) (by omega)
  have hv' := hv t htk
  have HH : Hid (¬ ShapeOk T) := Lib.hid (fun h => by have h1 := h.2; unfold BodyOk at h1; simp only [hk] at h1; rw [h1.2 t htk] at hv'; cases hv')
  have CH := S.ch t htk A' B' ca' cb' lo _ hc.tree
  rw [hv'] at CH
  have CH := Lib.hid CH
  obtain ⟨c0, c1, c2, c3, _⟩ := hc
  have e2 : (0 : Int) < (T.kids.length : Int) := by omega
  rw [Nat.zero_mul, Nat.add_zero] at c0 c1 c2 c3
  have e1 : ((T.kids.length : Int) == 1) = true := by rw [beq_iff_eq]; omega
  clear hv' htk
  rw [hk]
  rw [name_nil hn]
  rw [hl]
  clear S hs hr hm
  first | clear hk | skip
  first | clear hn | skip
  first | clear hl | skip
  first | clear hq | skip
  first | clear hv | skip
  go_enter Tryz.func153, Tryz.ntmps153
  go_wp2_with (first | (go_at_call 80; (with_reducible refine CH.out.mono ?_); rintro e w6 ⟨rfl, hb6⟩; have HB6 := Lib.hid (bnext (below1 _ _) hb6); clear hb6))
  go_ret
  exact ⟨false, (by first | rfl | exact ret_bool (by assumption)), iffF HH.out, HB6.out⟩

set_option maxRecDepth 100000 in
theorem an_str_false23 {T : Ty} {A B : Option Addr} {ca cb lo : Nat} (S : IF T A B ca cb lo) (w : World) (hs : Strs w lo T.labels A) (hr : Ty.RowAt w lo T.kids B) (hm : MaxC w) (hk : T.kind = 23) (hn : T.name.size = 0) (hl : T.labels.length = 0) (hq : T.kids.length = 1) (hv : ∀ t, T.kids[0]? = some t → t.has (inB 21 21) = false) :
    Calls Tryz.prog 153 #[.agg #[.int .i64 T.kind, .string T.name, .slice A T.labels.length ca, .slice B T.kids.length cb]] w (SaysB (ShapeOk T) w) := by
  have CN := Lib.hid S.cn
  have HS := Lib.hid hs
  have HR := Lib.hid hr
  have HM := Lib.hid hm
  have hll := S.ll
  have hkl := S.kl
  obtain ⟨b, o, t, A', B', ca', cb', rfl, _, htk, hc⟩ := (hr.below (below1 w (.cells #[.int .i64 23, .string ⟨#[]⟩, .slice A 0 ca, .slice B T.kids.length cb] 104))).at_ (k := 0) (by omega)
  have hv' := hv t htk
  have HH : Hid (ShapeOk T) := Lib.hid ⟨⟨fun h => by rw [hk] at h; unfold IsRes at h; omega, fun _ => hn, fun h => by rw [hk] at h; unfold IsLab at h; omega, fun _ => hl⟩, by unfold BodyOk; simp only [hk]; exact ⟨hq, hv⟩⟩
  have CH := S.ch t htk A' B' ca' cb' lo _ hc.tree
  rw [hv'] at CH
  have CH := Lib.hid CH
  obtain ⟨c0, c1, c2, c3, _⟩ := hc
  have e2 : (0 : Int) < (T.kids.length : Int) := by omega
  rw [Nat.zero_mul, Nat.add_zero] at c0 c1 c2 c3
  have e1 : ((T.kids.length : Int) == 1) = true := by rw [beq_iff_eq]; omega
  clear hv' htk
  rw [hk]
  rw [name_nil hn]
  rw [hl]
  clear S hs hr hm
  first | clear hk | skip
  first | clear hn | skip
  first | clear hl | skip
  first | clear hq | skip
  first | clear hv | skip
  go_enter Tryz.func153, Tryz.ntmps153
  go_wp2_with (first | (go_at_call 80; (with_reducible refine CH.out.mono ?_); rintro e w6 ⟨rfl, hb6⟩; have HB6 := Lib.hid (bnext (below1 _ _) hb6); clear hb6))
  go_ret
  exact ⟨true, (by first | rfl | exact ret_bool (by assumption)), iffT HH.out, HB6.out⟩

set_option maxRecDepth 100000 in
theorem an_two_no {T : Ty} {A B : Option Addr} {ca cb lo : Nat} (S : IF T A B ca cb lo) (w : World) (hs : Strs w lo T.labels A) (hr : Ty.RowAt w lo T.kids B) (hm : MaxC w) (hk : T.kind = 14) (hn : T.name.size = 0) (hl : T.labels.length = 0) (hq : T.kids.length ≠ 2) :
    Calls Tryz.prog 153 #[.agg #[.int .i64 T.kind, .string T.name, .slice A T.labels.length ca, .slice B T.kids.length cb]] w (SaysB (ShapeOk T) w) := by
  have CN := Lib.hid S.cn
  have HS := Lib.hid hs
  have HR := Lib.hid hr
  have HM := Lib.hid hm
  have hll := S.ll
  have hkl := S.kl
  have HH : Hid (¬ ShapeOk T) := Lib.hid (fun h => by have h1 := h.2; unfold BodyOk at h1; simp only [hk] at h1; exact hq h1)
  have e1 : ((T.kids.length : Int) == 2) = false := by rw [beq_eq_false_iff_ne]; omega
  rw [hk]
  rw [name_nil hn]
  rw [hl]
  clear S hs hr hm
  first | clear hk | skip
  first | clear hn | skip
  first | clear hl | skip
  first | clear hq | skip
  go_enter Tryz.func153, Tryz.ntmps153
  go_wp2
  go_ret
  exact ⟨false, (by first | rfl | exact ret_bool (by assumption)), iffF HH.out, below1 _ _⟩

set_option maxRecDepth 100000 in
theorem an_two_yes {T : Ty} {A B : Option Addr} {ca cb lo : Nat} (S : IF T A B ca cb lo) (w : World) (hs : Strs w lo T.labels A) (hr : Ty.RowAt w lo T.kids B) (hm : MaxC w) (hk : T.kind = 14) (hn : T.name.size = 0) (hl : T.labels.length = 0) (hq : T.kids.length = 2) :
    Calls Tryz.prog 153 #[.agg #[.int .i64 T.kind, .string T.name, .slice A T.labels.length ca, .slice B T.kids.length cb]] w (SaysB (ShapeOk T) w) := by
  have CN := Lib.hid S.cn
  have HS := Lib.hid hs
  have HR := Lib.hid hr
  have HM := Lib.hid hm
  have hll := S.ll
  have hkl := S.kl
  have HH : Hid (ShapeOk T) := Lib.hid ⟨⟨fun h => by rw [hk] at h; unfold IsRes at h; omega, fun _ => hn, fun h => by rw [hk] at h; unfold IsLab at h; omega, fun _ => hl⟩, by unfold BodyOk; simp only [hk]; exact hq⟩
  have e1 : ((T.kids.length : Int) == 2) = true := by rw [beq_iff_eq]; omega
  rw [hk]
  rw [name_nil hn]
  rw [hl]
  clear S hs hr hm
  first | clear hk | skip
  first | clear hn | skip
  first | clear hl | skip
  first | clear hq | skip
  go_enter Tryz.func153, Tryz.ntmps153
  go_wp2
  go_ret
  exact ⟨true, (by first | rfl | exact ret_bool (by assumption)), iffT HH.out, below1 _ _⟩

set_option maxRecDepth 100000 in
theorem an_tup_low {T : Ty} {A B : Option Addr} {ca cb lo : Nat} (S : IF T A B ca cb lo) (w : World) (hs : Strs w lo T.labels A) (hr : Ty.RowAt w lo T.kids B) (hm : MaxC w) (hk : T.kind = 15) (hn : T.name.size = 0) (hl : T.labels.length = 0) (hq : T.kids.length < 1) :
    Calls Tryz.prog 153 #[.agg #[.int .i64 T.kind, .string T.name, .slice A T.labels.length ca, .slice B T.kids.length cb]] w (SaysB (ShapeOk T) w) := by
  have CN := Lib.hid S.cn
  have HS := Lib.hid hs
  have HR := Lib.hid hr
  have HM := Lib.hid hm
  have hll := S.ll
  have hkl := S.kl
  have HH : Hid (¬ ShapeOk T) := Lib.hid (fun h => by have h1 := h.2; unfold BodyOk at h1; simp only [hk] at h1; have h2 : 1 ≤ T.kids.length := h1.1.1; omega)
  have e1 : ¬ (1 : Int) ≤ (T.kids.length : Int) := by omega
  rw [hk]
  rw [name_nil hn]
  rw [hl]
  clear S hs hr hm
  first | clear hk | skip
  first | clear hn | skip
  first | clear hl | skip
  first | clear hq | skip
  go_enter Tryz.func153, Tryz.ntmps153
  go_wp2
  go_ret
  exact ⟨false, (by first | rfl | exact ret_bool (by assumption)), iffF HH.out, below1 _ _⟩

set_option maxRecDepth 100000 in
theorem an_tup_high {T : Ty} {A B : Option Addr} {ca cb lo : Nat} (S : IF T A B ca cb lo) (w : World) (hs : Strs w lo T.labels A) (hr : Ty.RowAt w lo T.kids B) (hm : MaxC w) (hk : T.kind = 15) (hn : T.name.size = 0) (hl : T.labels.length = 0) (hq : 6 < T.kids.length) :
    Calls Tryz.prog 153 #[.agg #[.int .i64 T.kind, .string T.name, .slice A T.labels.length ca, .slice B T.kids.length cb]] w (SaysB (ShapeOk T) w) := by
  have CN := Lib.hid S.cn
  have HS := Lib.hid hs
  have HR := Lib.hid hr
  have HM := Lib.hid hm
  have hll := S.ll
  have hkl := S.kl
  have HH : Hid (¬ ShapeOk T) := Lib.hid (fun h => by have h1 := h.2; unfold BodyOk at h1; simp only [hk] at h1; have h2 : T.kids.length ≤ 6 := h1.1.2; omega)
  have e1 : (1 : Int) ≤ (T.kids.length : Int) := by omega
  have e2 : ¬ (T.kids.length : Int) ≤ 6 := by omega
  rw [hk]
  rw [name_nil hn]
  rw [hl]
  clear S hs hr hm
  first | clear hk | skip
  first | clear hn | skip
  first | clear hl | skip
  first | clear hq | skip
  go_enter Tryz.func153, Tryz.ntmps153
  go_wp2
  go_ret
  exact ⟨false, (by first | rfl | exact ret_bool (by assumption)), iffF HH.out, below1 _ _⟩

set_option maxRecDepth 100000 in
theorem an_tup_yes {T : Ty} {A B : Option Addr} {ca cb lo : Nat} (S : IF T A B ca cb lo) (w : World) (hs : Strs w lo T.labels A) (hr : Ty.RowAt w lo T.kids B) (hm : MaxC w) (hk : T.kind = 15) (hn : T.name.size = 0) (hl : T.labels.length = 0) (hq : 1 ≤ T.kids.length) (hq2 : T.kids.length ≤ 6) (hu : UnitIn T.kids T.kids.length) :
    Calls Tryz.prog 153 #[.agg #[.int .i64 T.kind, .string T.name, .slice A T.labels.length ca, .slice B T.kids.length cb]] w (SaysB (ShapeOk T) w) := by
  have CN := Lib.hid S.cn
  have HS := Lib.hid hs
  have HR := Lib.hid hr
  have HM := Lib.hid hm
  have hll := S.ll
  have hkl := S.kl
  have HH : Hid (¬ ShapeOk T) := Lib.hid (fun h => by have h1 := h.2; unfold BodyOk at h1; simp only [hk] at h1; exact h1.2 hu)
  have e1 : (1 : Int) ≤ (T.kids.length : Int) := by omega
  have e2 : (T.kids.length : Int) ≤ 6 := by omega
  have CU : Hid (∀ W : World, Ty.RowAt W lo T.kids B → Calls Tryz.prog 154 #[.slice B T.kids.length cb, .func (.func 56) #[] #[]] W fun e w' => e = .returned (.bool true) ∧ Below W.heap.size W w') := Lib.hid (fun W h => (S.cu W h).mono fun _ _ k => k.yes hu)
  rw [hk]
  rw [name_nil hn]
  rw [hl]
  clear S hs hr hm
  first | clear hk | skip
  first | clear hn | skip
  first | clear hl | skip
  first | clear hq | skip
  first | clear hq2 | skip
  first | clear hu | skip
  go_enter Tryz.func153, Tryz.ntmps153
  go_wp2_with (first | (go_at_call 154; (with_reducible refine (CU.out _ (HR.out.below (below1 _ _))).mono ?_); rintro e w5 ⟨rfl, hb5⟩; have HB5 := Lib.hid (bnext (below1 _ _) hb5); clear hb5))
  go_ret
  exact ⟨false, (by first | rfl | exact ret_bool (by assumption)), iffF HH.out, HB5.out⟩

set_option maxRecDepth 100000 in
theorem an_tup_no {T : Ty} {A B : Option Addr} {ca cb lo : Nat} (S : IF T A B ca cb lo) (w : World) (hs : Strs w lo T.labels A) (hr : Ty.RowAt w lo T.kids B) (hm : MaxC w) (hk : T.kind = 15) (hn : T.name.size = 0) (hl : T.labels.length = 0) (hq : 1 ≤ T.kids.length) (hq2 : T.kids.length ≤ 6) (hu : ¬ UnitIn T.kids T.kids.length) :
    Calls Tryz.prog 153 #[.agg #[.int .i64 T.kind, .string T.name, .slice A T.labels.length ca, .slice B T.kids.length cb]] w (SaysB (ShapeOk T) w) := by
  have CN := Lib.hid S.cn
  have HS := Lib.hid hs
  have HR := Lib.hid hr
  have HM := Lib.hid hm
  have hll := S.ll
  have hkl := S.kl
  have HH : Hid (ShapeOk T) := Lib.hid ⟨⟨fun h => by rw [hk] at h; unfold IsRes at h; omega, fun _ => hn, fun h => by rw [hk] at h; unfold IsLab at h; omega, fun _ => hl⟩, by unfold BodyOk; simp only [hk]; exact ⟨⟨hq, hq2⟩, hu⟩⟩
  have e1 : (1 : Int) ≤ (T.kids.length : Int) := by omega
  have e2 : (T.kids.length : Int) ≤ 6 := by omega
  have CU : Hid (∀ W : World, Ty.RowAt W lo T.kids B → Calls Tryz.prog 154 #[.slice B T.kids.length cb, .func (.func 56) #[] #[]] W fun e w' => e = .returned (.bool false) ∧ Below W.heap.size W w') := Lib.hid (fun W h => (S.cu W h).mono fun _ _ k => k.no hu)
  rw [hk]
  rw [name_nil hn]
  rw [hl]
  clear S hs hr hm
  first | clear hk | skip
  first | clear hn | skip
  first | clear hl | skip
  first | clear hq | skip
  first | clear hq2 | skip
  first | clear hu | skip
  go_enter Tryz.func153, Tryz.ntmps153
  go_wp2_with (first | (go_at_call 154; (with_reducible refine (CU.out _ (HR.out.below (below1 _ _))).mono ?_); rintro e w5 ⟨rfl, hb5⟩; have HB5 := Lib.hid (bnext (below1 _ _) hb5); clear hb5))
  go_ret
  exact ⟨true, (by first | rfl | exact ret_bool (by assumption)), iffT HH.out, HB5.out⟩

set_option maxRecDepth 100000 in
theorem la_name {T : Ty} {A B : Option Addr} {ca cb lo : Nat} (S : IF T A B ca cb lo) (w : World) (hs : Strs w lo T.labels A) (hr : Ty.RowAt w lo T.kids B) (hm : MaxC w) (hk : IsLab T.kind) (hn : 0 < T.name.size) :
    Calls Tryz.prog 156 #[.agg #[.int .i64 T.kind, .string T.name, .slice A T.labels.length ca, .slice B T.kids.length cb]] w (SaysB (ShapeOk T) w) := by
  have CN := Lib.hid S.cn
  have HS := Lib.hid hs
  have HR := Lib.hid hr
  have HM := Lib.hid hm
  have hll := S.ll
  have hkl := S.kl
  have he := not_empty _ hn
  have HH : Hid (¬ ShapeOk T) := Lib.hid (fun h => by have h1 := h.1.2.1 (by unfold IsRes; unfold IsLab at hk; omega); omega)
  clear S hs hr hm
  first | clear hk | skip
  first | clear hn | skip
  go_enter Tryz.func156, Tryz.ntmps156
  go_wp2
  go_ret
  exact ⟨false, (by first | rfl | exact ret_bool (by assumption)), iffF HH.out, below1 _ _⟩

set_option maxRecDepth 100000 in
theorem la_none {T : Ty} {A B : Option Addr} {ca cb lo : Nat} (S : IF T A B ca cb lo) (w : World) (hs : Strs w lo T.labels A) (hr : Ty.RowAt w lo T.kids B) (hm : MaxC w) (hk : IsLab T.kind) (hn : T.name.size = 0) (hl : T.labels.length = 0) :
    Calls Tryz.prog 156 #[.agg #[.int .i64 T.kind, .string T.name, .slice A T.labels.length ca, .slice B T.kids.length cb]] w (SaysB (ShapeOk T) w) := by
  have CN := Lib.hid S.cn
  have HS := Lib.hid hs
  have HR := Lib.hid hr
  have HM := Lib.hid hm
  have hll := S.ll
  have hkl := S.kl
  have HH : Hid (¬ ShapeOk T) := Lib.hid (fun h => by have h1 := (h.1.2.2.1 hk).1; omega)
  rw [name_nil hn]
  rw [hl]
  clear S hs hr hm
  first | clear hk | skip
  first | clear hn | skip
  first | clear hl | skip
  go_enter Tryz.func156, Tryz.ntmps156
  go_wp2
  go_ret
  exact ⟨false, (by first | rfl | exact ret_bool (by assumption)), iffF HH.out, below1 _ _⟩

set_option maxRecDepth 100000 in
theorem la_many {T : Ty} {A B : Option Addr} {ca cb lo : Nat} (S : IF T A B ca cb lo) (w : World) (hs : Strs w lo T.labels A) (hr : Ty.RowAt w lo T.kids B) (hm : MaxC w) (hk : IsLab T.kind) (hn : T.name.size = 0) (hl : 16 < T.labels.length) :
    Calls Tryz.prog 156 #[.agg #[.int .i64 T.kind, .string T.name, .slice A T.labels.length ca, .slice B T.kids.length cb]] w (SaysB (ShapeOk T) w) := by
  have CN := Lib.hid S.cn
  have HS := Lib.hid hs
  have HR := Lib.hid hr
  have HM := Lib.hid hm
  have hll := S.ll
  have hkl := S.kl
  have e0 : ((T.labels.length : Int) == 0) = false := by rw [beq_eq_false_iff_ne]; omega
  have e3 : (16 : Int) < (T.labels.length : Int) := by omega
  have hlN : 16 < T.labels.length := hl
  have HH : Hid (¬ ShapeOk T) := Lib.hid (fun h => by have h1 := (h.1.2.2.1 hk).2.1; omega)
  rw [name_nil hn]
  clear S hs hr hm
  first | clear hk | skip
  first | clear hn | skip
  first | clear hl | skip
  go_enter Tryz.func156, Tryz.ntmps156
  go_wp2
  go_ret
  exact ⟨false, (by first | rfl | exact ret_bool (by assumption)), iffF HH.out, below1 _ _⟩

set_option maxRecDepth 100000 in
theorem la_bad {T : Ty} {A B : Option Addr} {ca cb lo : Nat} (S : IF T A B ca cb lo) (w : World) (hs : Strs w lo T.labels A) (hr : Ty.RowAt w lo T.kids B) (hm : MaxC w) (hk : IsLab T.kind) (hn : T.name.size = 0) (hl : 1 ≤ T.labels.length ∧ T.labels.length ≤ 16) (hb : ¬ Names T.labels) :
    Calls Tryz.prog 156 #[.agg #[.int .i64 T.kind, .string T.name, .slice A T.labels.length ca, .slice B T.kids.length cb]] w (SaysB (ShapeOk T) w) := by
  have CN := Lib.hid S.cn
  have HS := Lib.hid hs
  have HR := Lib.hid hr
  have HM := Lib.hid hm
  have hll := S.ll
  have hkl := S.kl
  have e0 : ((T.labels.length : Int) == 0) = false := by rw [beq_eq_false_iff_ne]; omega
  have e3 : ¬ (16 : Int) < (T.labels.length : Int) := by omega
  have hlN : T.labels.length ≤ 16 := by omega
  have hlP : 1 ≤ T.labels.length := by omega
  have HH : Hid (¬ ShapeOk T) := Lib.hid (fun h => hb (h.1.2.2.1 hk).2.2)
  have CL : Hid (∀ W : World, Strs W lo T.labels A → MaxC W → Calls Tryz.prog 57 #[.slice A T.labels.length ca] W fun e w' => e = .returned (.bool false) ∧ Below W.heap.size W w') := Lib.hid (fun W h hm => (S.cl W h hm).mono fun _ _ k => k.no hb)
  rw [name_nil hn]
  clear S hs hr hm
  first | clear hk | skip
  first | clear hn | skip
  first | clear hl | skip
  first | clear hb | skip
  go_enter Tryz.func156, Tryz.ntmps156
  go_wp2_with (first | (go_at_call 57; (with_reducible refine (CL.out _ (HS.out.below (below1 _ _)) (HM.out.keep (below1 _ _))).mono ?_); rintro e w4 ⟨rfl, hb4⟩; obtain ⟨hc4, hf4⟩ := bcell hb4; have hz4 : w.heap.size < w4.heap.size := (by have h9 := hb4.size; simp at h9; omega); have HB4 := Lib.hid (bnext (below1 _ _) hb4); clear hb4))
  go_ret
  exact ⟨false, (by first | rfl | exact ret_bool (by assumption)), iffF HH.out, HB4.out⟩

set_option maxRecDepth 100000 in
theorem la_rec_len {T : Ty} {A B : Option Addr} {ca cb lo : Nat} (S : IF T A B ca cb lo) (w : World) (hs : Strs w lo T.labels A) (hr : Ty.RowAt w lo T.kids B) (hm : MaxC w) (hk : T.kind = 16) (hn : T.name.size = 0) (hl : 1 ≤ T.labels.length ∧ T.labels.length ≤ 16) (hb : Names T.labels) (hq : T.kids.length ≠ T.labels.length) :
    Calls Tryz.prog 156 #[.agg #[.int .i64 T.kind, .string T.name, .slice A T.labels.length ca, .slice B T.kids.length cb]] w (SaysB (ShapeOk T) w) := by
  have CN := Lib.hid S.cn
  have HS := Lib.hid hs
  have HR := Lib.hid hr
  have HM := Lib.hid hm
  have hll := S.ll
  have hkl := S.kl
  have e0 : ((T.labels.length : Int) == 0) = false := by rw [beq_eq_false_iff_ne]; omega
  have e3 : ¬ (16 : Int) < (T.labels.length : Int) := by omega
  have hlN : T.labels.length ≤ 16 := by omega
  have hlP : 1 ≤ T.labels.length := by omega
  have CL : Hid (∀ W : World, Strs W lo T.labels A → MaxC W → Calls Tryz.prog 57 #[.slice A T.labels.length ca] W fun e w' => e = .returned (.bool true) ∧ Below W.heap.size W w') := Lib.hid (fun W h hm => (S.cl W h hm).mono fun _ _ k => k.yes hb)
  have HH : Hid (¬ ShapeOk T) := Lib.hid (fun h => by have h1 := h.2; unfold BodyOk at h1; simp only [hk] at h1; exact hq h1.1)
  have e1 : ((T.kids.length : Int) == (T.labels.length : Int)) = false := by rw [beq_eq_false_iff_ne]; omega
  rw [hk]
  rw [name_nil hn]
  clear S hs hr hm
  first | clear hk | skip
  first | clear hn | skip
  first | clear hl | skip
  first | clear hb | skip
  first | clear hq | skip
  go_enter Tryz.func156, Tryz.ntmps156
  go_wp2_with (first | (go_at_call 57; (with_reducible refine (CL.out _ (HS.out.below (below1 _ _)) (HM.out.keep (below1 _ _))).mono ?_); rintro e w4 ⟨rfl, hb4⟩; obtain ⟨hc4, hf4⟩ := bcell hb4; have hz4 : w.heap.size < w4.heap.size := (by have h9 := hb4.size; simp at h9; omega); have HB4 := Lib.hid (bnext (below1 _ _) hb4); clear hb4))
  go_ret
  exact ⟨false, (by first | rfl | exact ret_bool (by assumption)), iffF HH.out, HB4.out⟩

set_option maxRecDepth 100000 in
theorem la_rec_yes {T : Ty} {A B : Option Addr} {ca cb lo : Nat} (S : IF T A B ca cb lo) (w : World) (hs : Strs w lo T.labels A) (hr : Ty.RowAt w lo T.kids B) (hm : MaxC w) (hk : T.kind = 16) (hn : T.name.size = 0) (hl : 1 ≤ T.labels.length ∧ T.labels.length ≤ 16) (hb : Names T.labels) (hq : T.kids.length = T.labels.length) (hu : UnitIn T.kids T.kids.length) :
    Calls Tryz.prog 156 #[.agg #[.int .i64 T.kind, .string T.name, .slice A T.labels.length ca, .slice B T.kids.length cb]] w (SaysB (ShapeOk T) w) := by
  have CN := Lib.hid S.cn
  have HS := Lib.hid hs
  have HR := Lib.hid hr
  have HM := Lib.hid hm
  have hll := S.ll
  have hkl := S.kl
  have e0 : ((T.labels.length : Int) == 0) = false := by rw [beq_eq_false_iff_ne]; omega
  have e3 : ¬ (16 : Int) < (T.labels.length : Int) := by omega
  have hlN : T.labels.length ≤ 16 := by omega
  have hlP : 1 ≤ T.labels.length := by omega
  have CL : Hid (∀ W : World, Strs W lo T.labels A → MaxC W → Calls Tryz.prog 57 #[.slice A T.labels.length ca] W fun e w' => e = .returned (.bool true) ∧ Below W.heap.size W w') := Lib.hid (fun W h hm => (S.cl W h hm).mono fun _ _ k => k.yes hb)
  have HH : Hid (¬ ShapeOk T) := Lib.hid (fun h => by have h1 := h.2; unfold BodyOk at h1; simp only [hk] at h1; exact h1.2 hu)
  have e1 : ((T.kids.length : Int) == (T.labels.length : Int)) = true := by rw [beq_iff_eq]; omega
  have CU : Hid (∀ W : World, Ty.RowAt W lo T.kids B → Calls Tryz.prog 154 #[.slice B T.kids.length cb, .func (.func 56) #[] #[]] W fun e w' => e = .returned (.bool true) ∧ Below W.heap.size W w') := Lib.hid (fun W h => (S.cu W h).mono fun _ _ k => k.yes hu)
  rw [hk]
  rw [name_nil hn]
  clear S hs hr hm
  first | clear hk | skip
  first | clear hn | skip
  first | clear hl | skip
  first | clear hb | skip
  first | clear hq | skip
  first | clear hu | skip
  go_enter Tryz.func156, Tryz.ntmps156
  go_wp2_with (first | (go_at_call 57; (with_reducible refine (CL.out _ (HS.out.below (below1 _ _)) (HM.out.keep (below1 _ _))).mono ?_); rintro e w4 ⟨rfl, hb4⟩; obtain ⟨hc4, hf4⟩ := bcell hb4; have hz4 : w.heap.size < w4.heap.size := (by have h9 := hb4.size; simp at h9; omega); have HB4 := Lib.hid (bnext (below1 _ _) hb4); clear hb4) | (go_at_call 154; (with_reducible refine (CU.out _ (HR.out.below HB4.out)).mono ?_); rintro e w5 ⟨rfl, hb5⟩; have HB5 := Lib.hid (bnext HB4.out hb5); clear hb5))
  go_ret
  exact ⟨false, (by first | rfl | exact ret_bool (by assumption)), iffF HH.out, HB5.out⟩

set_option maxRecDepth 100000 in
theorem la_rec_no {T : Ty} {A B : Option Addr} {ca cb lo : Nat} (S : IF T A B ca cb lo) (w : World) (hs : Strs w lo T.labels A) (hr : Ty.RowAt w lo T.kids B) (hm : MaxC w) (hk : T.kind = 16) (hn : T.name.size = 0) (hl : 1 ≤ T.labels.length ∧ T.labels.length ≤ 16) (hb : Names T.labels) (hq : T.kids.length = T.labels.length) (hu : ¬ UnitIn T.kids T.kids.length) :
    Calls Tryz.prog 156 #[.agg #[.int .i64 T.kind, .string T.name, .slice A T.labels.length ca, .slice B T.kids.length cb]] w (SaysB (ShapeOk T) w) := by
  have CN := Lib.hid S.cn
  have HS := Lib.hid hs
  have HR := Lib.hid hr
  have HM := Lib.hid hm
  have hll := S.ll
  have hkl := S.kl
  have e0 : ((T.labels.length : Int) == 0) = false := by rw [beq_eq_false_iff_ne]; omega
  have e3 : ¬ (16 : Int) < (T.labels.length : Int) := by omega
  have hlN : T.labels.length ≤ 16 := by omega
  have hlP : 1 ≤ T.labels.length := by omega
  have CL : Hid (∀ W : World, Strs W lo T.labels A → MaxC W → Calls Tryz.prog 57 #[.slice A T.labels.length ca] W fun e w' => e = .returned (.bool true) ∧ Below W.heap.size W w') := Lib.hid (fun W h hm => (S.cl W h hm).mono fun _ _ k => k.yes hb)
  have HH : Hid (ShapeOk T) := Lib.hid ⟨⟨fun h => by rw [hk] at h; unfold IsRes at h; omega, fun _ => hn, fun _ => ⟨hl.1, hl.2, hb⟩, fun h => absurd (by rw [hk]; unfold IsLab; omega) h⟩, by unfold BodyOk; simp only [hk]; exact ⟨hq, hu⟩⟩
  have e1 : ((T.kids.length : Int) == (T.labels.length : Int)) = true := by rw [beq_iff_eq]; omega
  have CU : Hid (∀ W : World, Ty.RowAt W lo T.kids B → Calls Tryz.prog 154 #[.slice B T.kids.length cb, .func (.func 56) #[] #[]] W fun e w' => e = .returned (.bool false) ∧ Below W.heap.size W w') := Lib.hid (fun W h => (S.cu W h).mono fun _ _ k => k.no hu)
  rw [hk]
  rw [name_nil hn]
  clear S hs hr hm
  first | clear hk | skip
  first | clear hn | skip
  first | clear hl | skip
  first | clear hb | skip
  first | clear hq | skip
  first | clear hu | skip
  go_enter Tryz.func156, Tryz.ntmps156
  go_wp2_with (first | (go_at_call 57; (with_reducible refine (CL.out _ (HS.out.below (below1 _ _)) (HM.out.keep (below1 _ _))).mono ?_); rintro e w4 ⟨rfl, hb4⟩; obtain ⟨hc4, hf4⟩ := bcell hb4; have hz4 : w.heap.size < w4.heap.size := (by have h9 := hb4.size; simp at h9; omega); have HB4 := Lib.hid (bnext (below1 _ _) hb4); clear hb4) | (go_at_call 154; (with_reducible refine (CU.out _ (HR.out.below HB4.out)).mono ?_); rintro e w5 ⟨rfl, hb5⟩; have HB5 := Lib.hid (bnext HB4.out hb5); clear hb5))
  go_ret
  exact ⟨true, (by first | rfl | exact ret_bool (by assumption)), iffT HH.out, HB5.out⟩

set_option maxRecDepth 100000 in
theorem la_var_no {T : Ty} {A B : Option Addr} {ca cb lo : Nat} (S : IF T A B ca cb lo) (w : World) (hs : Strs w lo T.labels A) (hr : Ty.RowAt w lo T.kids B) (hm : MaxC w) (hk : T.kind = 17) (hn : T.name.size = 0) (hl : 1 ≤ T.labels.length ∧ T.labels.length ≤ 16) (hb : Names T.labels) (hq : T.kids.length ≠ T.labels.length) :
    Calls Tryz.prog 156 #[.agg #[.int .i64 T.kind, .string T.name, .slice A T.labels.length ca, .slice B T.kids.length cb]] w (SaysB (ShapeOk T) w) := by
  have CN := Lib.hid S.cn
  have HS := Lib.hid hs
  have HR := Lib.hid hr
  have HM := Lib.hid hm
  have hll := S.ll
  have hkl := S.kl
  have e0 : ((T.labels.length : Int) == 0) = false := by rw [beq_eq_false_iff_ne]; omega
  have e3 : ¬ (16 : Int) < (T.labels.length : Int) := by omega
  have hlN : T.labels.length ≤ 16 := by omega
  have hlP : 1 ≤ T.labels.length := by omega
  have CL : Hid (∀ W : World, Strs W lo T.labels A → MaxC W → Calls Tryz.prog 57 #[.slice A T.labels.length ca] W fun e w' => e = .returned (.bool true) ∧ Below W.heap.size W w') := Lib.hid (fun W h hm => (S.cl W h hm).mono fun _ _ k => k.yes hb)
  have HH : Hid (¬ ShapeOk T) := Lib.hid (fun h => by have h1 := h.2; unfold BodyOk at h1; simp only [hk] at h1; exact hq h1)
  have e1 : ((T.kids.length : Int) == (T.labels.length : Int)) = false := by rw [beq_eq_false_iff_ne]; omega
  rw [hk]
  rw [name_nil hn]
  clear S hs hr hm
  first | clear hk | skip
  first | clear hn | skip
  first | clear hl | skip
  first | clear hb | skip
  first | clear hq | skip
  go_enter Tryz.func156, Tryz.ntmps156
  go_wp2_with (first | (go_at_call 57; (with_reducible refine (CL.out _ (HS.out.below (below1 _ _)) (HM.out.keep (below1 _ _))).mono ?_); rintro e w4 ⟨rfl, hb4⟩; obtain ⟨hc4, hf4⟩ := bcell hb4; have hz4 : w.heap.size < w4.heap.size := (by have h9 := hb4.size; simp at h9; omega); have HB4 := Lib.hid (bnext (below1 _ _) hb4); clear hb4))
  go_ret
  exact ⟨false, (by first | rfl | exact ret_bool (by assumption)), iffF HH.out, HB4.out⟩

set_option maxRecDepth 100000 in
theorem la_var_yes {T : Ty} {A B : Option Addr} {ca cb lo : Nat} (S : IF T A B ca cb lo) (w : World) (hs : Strs w lo T.labels A) (hr : Ty.RowAt w lo T.kids B) (hm : MaxC w) (hk : T.kind = 17) (hn : T.name.size = 0) (hl : 1 ≤ T.labels.length ∧ T.labels.length ≤ 16) (hb : Names T.labels) (hq : T.kids.length = T.labels.length) :
    Calls Tryz.prog 156 #[.agg #[.int .i64 T.kind, .string T.name, .slice A T.labels.length ca, .slice B T.kids.length cb]] w (SaysB (ShapeOk T) w) := by
  have CN := Lib.hid S.cn
  have HS := Lib.hid hs
  have HR := Lib.hid hr
  have HM := Lib.hid hm
  have hll := S.ll
  have hkl := S.kl
  have e0 : ((T.labels.length : Int) == 0) = false := by rw [beq_eq_false_iff_ne]; omega
  have e3 : ¬ (16 : Int) < (T.labels.length : Int) := by omega
  have hlN : T.labels.length ≤ 16 := by omega
  have hlP : 1 ≤ T.labels.length := by omega
  have CL : Hid (∀ W : World, Strs W lo T.labels A → MaxC W → Calls Tryz.prog 57 #[.slice A T.labels.length ca] W fun e w' => e = .returned (.bool true) ∧ Below W.heap.size W w') := Lib.hid (fun W h hm => (S.cl W h hm).mono fun _ _ k => k.yes hb)
  have HH : Hid (ShapeOk T) := Lib.hid ⟨⟨fun h => by rw [hk] at h; unfold IsRes at h; omega, fun _ => hn, fun _ => ⟨hl.1, hl.2, hb⟩, fun h => absurd (by rw [hk]; unfold IsLab; omega) h⟩, by unfold BodyOk; simp only [hk]; exact hq⟩
  have e1 : ((T.kids.length : Int) == (T.labels.length : Int)) = true := by rw [beq_iff_eq]; omega
  rw [hk]
  rw [name_nil hn]
  clear S hs hr hm
  first | clear hk | skip
  first | clear hn | skip
  first | clear hl | skip
  first | clear hb | skip
  first | clear hq | skip
  go_enter Tryz.func156, Tryz.ntmps156
  go_wp2_with (first | (go_at_call 57; (with_reducible refine (CL.out _ (HS.out.below (below1 _ _)) (HM.out.keep (below1 _ _))).mono ?_); rintro e w4 ⟨rfl, hb4⟩; obtain ⟨hc4, hf4⟩ := bcell hb4; have hz4 : w.heap.size < w4.heap.size := (by have h9 := hb4.size; simp at h9; omega); have HB4 := Lib.hid (bnext (below1 _ _) hb4); clear hb4))
  go_ret
  exact ⟨true, (by first | rfl | exact ret_bool (by assumption)), iffT HH.out, HB4.out⟩

set_option maxRecDepth 100000 in
theorem la_flat_no18 {T : Ty} {A B : Option Addr} {ca cb lo : Nat} (S : IF T A B ca cb lo) (w : World) (hs : Strs w lo T.labels A) (hr : Ty.RowAt w lo T.kids B) (hm : MaxC w) (hk : T.kind = 18) (hn : T.name.size = 0) (hl : 1 ≤ T.labels.length ∧ T.labels.length ≤ 16) (hb : Names T.labels) (hq : 0 < T.kids.length) :
    Calls Tryz.prog 156 #[.agg #[.int .i64 T.kind, .string T.name, .slice A T.labels.length ca, .slice B T.kids.length cb]] w (SaysB (ShapeOk T) w) := by
  have CN := Lib.hid S.cn
  have HS := Lib.hid hs
  have HR := Lib.hid hr
  have HM := Lib.hid hm
  have hll := S.ll
  have hkl := S.kl
  have e0 : ((T.labels.length : Int) == 0) = false := by rw [beq_eq_false_iff_ne]; omega
  have e3 : ¬ (16 : Int) < (T.labels.length : Int) := by omega
  have hlN : T.labels.length ≤ 16 := by omega
  have hlP : 1 ≤ T.labels.length := by omega
  have CL : Hid (∀ W : World, Strs W lo T.labels A → MaxC W → Calls Tryz.prog 57 #[.slice A T.labels.length ca] W fun e w' => e = .returned (.bool true) ∧ Below W.heap.size W w') := Lib.hid (fun W h hm => (S.cl W h hm).mono fun _ _ k => k.yes hb)
  have HH : Hid (¬ ShapeOk T) := Lib.hid (fun h => by have h1 := h.2; unfold BodyOk at h1; simp only [hk] at h1; have h2 : T.kids.length = 0 := h1.2; omega)
  have e1 : ((T.kids.length : Int) == 0) = false := by rw [beq_eq_false_iff_ne]; omega
  rw [hk]
  rw [name_nil hn]
  clear S hs hr hm
  first | clear hk | skip
  first | clear hn | skip
  first | clear hl | skip
  first | clear hb | skip
  first | clear hq | skip
  go_enter Tryz.func156, Tryz.ntmps156
  go_wp2_with (first | (go_at_call 57; (with_reducible refine (CL.out _ (HS.out.below (below1 _ _)) (HM.out.keep (below1 _ _))).mono ?_); rintro e w4 ⟨rfl, hb4⟩; obtain ⟨hc4, hf4⟩ := bcell hb4; have hz4 : w.heap.size < w4.heap.size := (by have h9 := hb4.size; simp at h9; omega); have HB4 := Lib.hid (bnext (below1 _ _) hb4); clear hb4))
  go_ret
  exact ⟨false, (by first | rfl | exact ret_bool (by assumption)), iffF HH.out, HB4.out⟩

set_option maxRecDepth 100000 in
theorem la_flat_yes18 {T : Ty} {A B : Option Addr} {ca cb lo : Nat} (S : IF T A B ca cb lo) (w : World) (hs : Strs w lo T.labels A) (hr : Ty.RowAt w lo T.kids B) (hm : MaxC w) (hk : T.kind = 18) (hn : T.name.size = 0) (hl : 1 ≤ T.labels.length ∧ T.labels.length ≤ 16) (hb : Names T.labels) (hq : T.kids.length = 0) :
    Calls Tryz.prog 156 #[.agg #[.int .i64 T.kind, .string T.name, .slice A T.labels.length ca, .slice B T.kids.length cb]] w (SaysB (ShapeOk T) w) := by
  have CN := Lib.hid S.cn
  have HS := Lib.hid hs
  have HR := Lib.hid hr
  have HM := Lib.hid hm
  have hll := S.ll
  have hkl := S.kl
  have e0 : ((T.labels.length : Int) == 0) = false := by rw [beq_eq_false_iff_ne]; omega
  have e3 : ¬ (16 : Int) < (T.labels.length : Int) := by omega
  have hlN : T.labels.length ≤ 16 := by omega
  have hlP : 1 ≤ T.labels.length := by omega
  have CL : Hid (∀ W : World, Strs W lo T.labels A → MaxC W → Calls Tryz.prog 57 #[.slice A T.labels.length ca] W fun e w' => e = .returned (.bool true) ∧ Below W.heap.size W w') := Lib.hid (fun W h hm => (S.cl W h hm).mono fun _ _ k => k.yes hb)
  have HH : Hid (ShapeOk T) := Lib.hid ⟨⟨fun h => by rw [hk] at h; unfold IsRes at h; omega, fun _ => hn, fun _ => ⟨hl.1, hl.2, hb⟩, fun h => absurd (by rw [hk]; unfold IsLab; omega) h⟩, by unfold BodyOk; simp only [hk]; exact ⟨by decide, hq⟩⟩
  rw [hk]
  rw [name_nil hn]
  rw [hq]
  clear S hs hr hm
  first | clear hk | skip
  first | clear hn | skip
  first | clear hl | skip
  first | clear hb | skip
  first | clear hq | skip
  go_enter Tryz.func156, Tryz.ntmps156
  go_wp2_with (first | (go_at_call 57; (with_reducible refine (CL.out _ (HS.out.below (below1 _ _)) (HM.out.keep (below1 _ _))).mono ?_); rintro e w4 ⟨rfl, hb4⟩; obtain ⟨hc4, hf4⟩ := bcell hb4; have hz4 : w.heap.size < w4.heap.size := (by have h9 := hb4.size; simp at h9; omega); have HB4 := Lib.hid (bnext (below1 _ _) hb4); clear hb4))
  go_ret
  exact ⟨true, (by first | rfl | exact ret_bool (by assumption)), iffT HH.out, HB4.out⟩

set_option maxRecDepth 100000 in
theorem la_flat_no19 {T : Ty} {A B : Option Addr} {ca cb lo : Nat} (S : IF T A B ca cb lo) (w : World) (hs : Strs w lo T.labels A) (hr : Ty.RowAt w lo T.kids B) (hm : MaxC w) (hk : T.kind = 19) (hn : T.name.size = 0) (hl : 1 ≤ T.labels.length ∧ T.labels.length ≤ 16) (hb : Names T.labels) (hq : 0 < T.kids.length) :
    Calls Tryz.prog 156 #[.agg #[.int .i64 T.kind, .string T.name, .slice A T.labels.length ca, .slice B T.kids.length cb]] w (SaysB (ShapeOk T) w) := by
  have CN := Lib.hid S.cn
  have HS := Lib.hid hs
  have HR := Lib.hid hr
  have HM := Lib.hid hm
  have hll := S.ll
  have hkl := S.kl
  have e0 : ((T.labels.length : Int) == 0) = false := by rw [beq_eq_false_iff_ne]; omega
  have e3 : ¬ (16 : Int) < (T.labels.length : Int) := by omega
  have hlN : T.labels.length ≤ 16 := by omega
  have hlP : 1 ≤ T.labels.length := by omega
  have CL : Hid (∀ W : World, Strs W lo T.labels A → MaxC W → Calls Tryz.prog 57 #[.slice A T.labels.length ca] W fun e w' => e = .returned (.bool true) ∧ Below W.heap.size W w') := Lib.hid (fun W h hm => (S.cl W h hm).mono fun _ _ k => k.yes hb)
  have HH : Hid (¬ ShapeOk T) := Lib.hid (fun h => by have h1 := h.2; unfold BodyOk at h1; simp only [hk] at h1; have h2 : T.kids.length = 0 := h1.2; omega)
  have e1 : ((T.kids.length : Int) == 0) = false := by rw [beq_eq_false_iff_ne]; omega
  rw [hk]
  rw [name_nil hn]
  clear S hs hr hm
  first | clear hk | skip
  first | clear hn | skip
  first | clear hl | skip
  first | clear hb | skip
  first | clear hq | skip
  go_enter Tryz.func156, Tryz.ntmps156
  go_wp2_with (first | (go_at_call 57; (with_reducible refine (CL.out _ (HS.out.below (below1 _ _)) (HM.out.keep (below1 _ _))).mono ?_); rintro e w4 ⟨rfl, hb4⟩; obtain ⟨hc4, hf4⟩ := bcell hb4; have hz4 : w.heap.size < w4.heap.size := (by have h9 := hb4.size; simp at h9; omega); have HB4 := Lib.hid (bnext (below1 _ _) hb4); clear hb4))
  go_ret
  exact ⟨false, (by first | rfl | exact ret_bool (by assumption)), iffF HH.out, HB4.out⟩

set_option maxRecDepth 100000 in
theorem la_flat_yes19 {T : Ty} {A B : Option Addr} {ca cb lo : Nat} (S : IF T A B ca cb lo) (w : World) (hs : Strs w lo T.labels A) (hr : Ty.RowAt w lo T.kids B) (hm : MaxC w) (hk : T.kind = 19) (hn : T.name.size = 0) (hl : 1 ≤ T.labels.length ∧ T.labels.length ≤ 16) (hb : Names T.labels) (hq : T.kids.length = 0) :
    Calls Tryz.prog 156 #[.agg #[.int .i64 T.kind, .string T.name, .slice A T.labels.length ca, .slice B T.kids.length cb]] w (SaysB (ShapeOk T) w) := by
  have CN := Lib.hid S.cn
  have HS := Lib.hid hs
  have HR := Lib.hid hr
  have HM := Lib.hid hm
  have hll := S.ll
  have hkl := S.kl
  have e0 : ((T.labels.length : Int) == 0) = false := by rw [beq_eq_false_iff_ne]; omega
  have e3 : ¬ (16 : Int) < (T.labels.length : Int) := by omega
  have hlN : T.labels.length ≤ 16 := by omega
  have hlP : 1 ≤ T.labels.length := by omega
  have CL : Hid (∀ W : World, Strs W lo T.labels A → MaxC W → Calls Tryz.prog 57 #[.slice A T.labels.length ca] W fun e w' => e = .returned (.bool true) ∧ Below W.heap.size W w') := Lib.hid (fun W h hm => (S.cl W h hm).mono fun _ _ k => k.yes hb)
  have HH : Hid (ShapeOk T) := Lib.hid ⟨⟨fun h => by rw [hk] at h; unfold IsRes at h; omega, fun _ => hn, fun _ => ⟨hl.1, hl.2, hb⟩, fun h => absurd (by rw [hk]; unfold IsLab; omega) h⟩, by unfold BodyOk; simp only [hk]; exact ⟨by decide, hq⟩⟩
  rw [hk]
  rw [name_nil hn]
  rw [hq]
  clear S hs hr hm
  first | clear hk | skip
  first | clear hn | skip
  first | clear hl | skip
  first | clear hb | skip
  first | clear hq | skip
  go_enter Tryz.func156, Tryz.ntmps156
  go_wp2_with (first | (go_at_call 57; (with_reducible refine (CL.out _ (HS.out.below (below1 _ _)) (HM.out.keep (below1 _ _))).mono ?_); rintro e w4 ⟨rfl, hb4⟩; obtain ⟨hc4, hf4⟩ := bcell hb4; have hz4 : w.heap.size < w4.heap.size := (by have h9 := hb4.size; simp at h9; omega); have HB4 := Lib.hid (bnext (below1 _ _) hb4); clear hb4))
  go_ret
  exact ⟨true, (by first | rfl | exact ret_bool (by assumption)), iffT HH.out, HB4.out⟩

def IsAng (k : Int) : Prop := k = 12 ∨ k = 13 ∨ k = 14 ∨ k = 15 ∨ k = 22 ∨ k = 23
theorem angle_any (T : Ty) (hT : T.wt ≤ 1048576) (hk : IsAng T.kind) (A B : Option Addr) (ca cb lo : Nat) (w : World) (hat : Ty.At w lo T A B) (hm : MaxC w) :
    Calls Tryz.prog 153 #[.agg #[.int .i64 T.kind, .string T.name, .slice A T.labels.length ca, .slice B T.kids.length cb]] w (SaysB (ShapeOk T) w) := by
  have S := IF.of hT A B ca cb lo
  have hs := hat.strs
  have hr := hat.rowAt
  have hk' : T.kind = 12 ∨ T.kind = 13 ∨ T.kind = 14 ∨ T.kind = 15 ∨ T.kind = 22 ∨ T.kind = 23 := hk
  by_cases hn : T.name.size = 0
  case neg => exact an_name S w hs hr hm hk' (by omega)
  by_cases hl : T.labels.length = 0
  case neg => exact an_lab S w hs hr hm hk' hn (by omega)
  rcases hk' with hk | hk | hk | hk | hk | hk
  · by_cases hq : T.kids.length = 1
    · by_cases hu : UnitIn T.kids T.kids.length
      · exact an_one_yes12 S w hs hr hm hk hn hl hq hu
      · exact an_one_no12 S w hs hr hm hk hn hl hq hu
    · exact an_one_len12 S w hs hr hm hk hn hl hq
  · by_cases hq : T.kids.length = 1
    · by_cases hu : UnitIn T.kids T.kids.length
      · exact an_one_yes13 S w hs hr hm hk hn hl hq hu
      · exact an_one_no13 S w hs hr hm hk hn hl hq hu
    · exact an_one_len13 S w hs hr hm hk hn hl hq
  · by_cases hq : T.kids.length = 2
    · exact an_two_yes S w hs hr hm hk hn hl hq
    · exact an_two_no S w hs hr hm hk hn hl hq
  · by_cases hq : T.kids.length < 1
    · exact an_tup_low S w hs hr hm hk hn hl hq
    · by_cases hq2 : 6 < T.kids.length
      · exact an_tup_high S w hs hr hm hk hn hl hq2
      · by_cases hu : UnitIn T.kids T.kids.length
        · exact an_tup_yes S w hs hr hm hk hn hl (by omega) (by omega) hu
        · exact an_tup_no S w hs hr hm hk hn hl (by omega) (by omega) hu
  · by_cases hq : T.kids.length = 1
    · rcases Ty.kid0 hq (inB 21 21) with hv | hv
      · exact an_str_true22 S w hs hr hm hk hn hl hq hv
      · exact an_str_false22 S w hs hr hm hk hn hl hq hv
    · exact an_str_len22 S w hs hr hm hk hn hl hq
  · by_cases hq : T.kids.length = 1
    · rcases Ty.kid0 hq (inB 21 21) with hv | hv
      · exact an_str_true23 S w hs hr hm hk hn hl hq hv
      · exact an_str_false23 S w hs hr hm hk hn hl hq hv
    · exact an_str_len23 S w hs hr hm hk hn hl hq
theorem soundLab_any (T : Ty) (hT : T.wt ≤ 1048576) (hk : IsLab T.kind) (A B : Option Addr) (ca cb lo : Nat) (w : World) (hat : Ty.At w lo T A B) (hm : MaxC w) :
    Calls Tryz.prog 156 #[.agg #[.int .i64 T.kind, .string T.name, .slice A T.labels.length ca, .slice B T.kids.length cb]] w (SaysB (ShapeOk T) w) := by
  have S := IF.of hT A B ca cb lo
  have hs := hat.strs
  have hr := hat.rowAt
  by_cases hn : T.name.size = 0
  case neg => exact la_name S w hs hr hm hk (by omega)
  by_cases hl0 : T.labels.length = 0
  · exact la_none S w hs hr hm hk hn hl0
  by_cases hl1 : 16 < T.labels.length
  · exact la_many S w hs hr hm hk hn hl1
  have hl : 1 ≤ T.labels.length ∧ T.labels.length ≤ 16 := by omega
  by_cases hb : Names T.labels
  case neg => exact la_bad S w hs hr hm hk hn hl hb
  have h4 : T.kind = 16 ∨ T.kind = 17 ∨ T.kind = 18 ∨ T.kind = 19 := by unfold IsLab at hk; omega
  rcases h4 with hk | hk | hk | hk
  · by_cases hq : T.kids.length = T.labels.length
    · by_cases hu : UnitIn T.kids T.kids.length
      · exact la_rec_yes S w hs hr hm hk hn hl hb hq hu
      · exact la_rec_no S w hs hr hm hk hn hl hb hq hu
    · exact la_rec_len S w hs hr hm hk hn hl hb hq
  · by_cases hq : T.kids.length = T.labels.length
    · exact la_var_yes S w hs hr hm hk hn hl hb hq
    · exact la_var_no S w hs hr hm hk hn hl hb hq
  · by_cases hq : T.kids.length = 0
    · exact la_flat_yes18 S w hs hr hm hk hn hl hb hq
    · exact la_flat_no18 S w hs hr hm hk hn hl hb (by omega)
  · by_cases hq : T.kids.length = 0
    · exact la_flat_yes19 S w hs hr hm hk hn hl hb hq
    · exact la_flat_no19 S w hs hr hm hk hn hl hb (by omega)
theorem handle_any (T : Ty) (hT : T.wt ≤ 1048576) (hk : IsRes T.kind) (A B : Option Addr) (ca cb lo : Nat) (w : World) (hat : Ty.At w lo T A B) (hm : MaxC w) :
    Calls Tryz.prog 157 #[.agg #[.int .i64 T.kind, .string T.name, .slice A T.labels.length ca, .slice B T.kids.length cb]] w (SaysB (ShapeOk T) w) := by
  have S := IF.of hT A B ca cb lo
  have hs := hat.strs
  have hr := hat.rowAt
  have h2 : T.kind = 20 ∨ T.kind = 21 := hk
  cases hv : nmB T.name with
  | false =>
    rcases h2 with hk | hk
    · exact ha_bad20 S w hs hr hm hk hv
    · exact ha_bad21 S w hs hr hm hk hv
  | true =>
    by_cases hl : T.labels.length = 0
    · by_cases hq : T.kids.length = 0
      · rcases h2 with hk | hk
        · exact ha_ok20 S w hs hr hm hk hv hl hq
        · exact ha_ok21 S w hs hr hm hk hv hl hq
      · rcases h2 with hk | hk
        · exact ha_kid20 S w hs hr hm hk hv hl (by omega)
        · exact ha_kid21 S w hs hr hm hk hv hl (by omega)
    · rcases h2 with hk | hk
      · exact ha_lab20 S w hs hr hm hk hv (by omega)
      · exact ha_lab21 S w hs hr hm hk hv (by omega)
theorem plain_any (T : Ty) (hT : T.wt ≤ 1048576) (h1 : ¬ IsAng T.kind) (h2 : ¬ IsLab T.kind) (h3 : ¬ IsRes T.kind) (A B : Option Addr) (ca cb lo : Nat) (w : World) (hat : Ty.At w lo T A B) (hm : MaxC w) :
    Calls Tryz.prog 158 #[.agg #[.int .i64 T.kind, .string T.name, .slice A T.labels.length ca, .slice B T.kids.length cb]] w (SaysB (ShapeOk T) w) := by
  have S := IF.of hT A B ca cb lo
  have hs := hat.strs
  have hr := hat.rowAt
  by_cases hlow : T.kind < 1
  · exact pl_low S w hs hr hm hlow
  by_cases hhi : 23 < T.kind
  · exact pl_high S w hs hr hm hhi
  have hk : 1 ≤ T.kind ∧ T.kind ≤ 11 := by unfold IsAng at h1; unfold IsLab at h2; unfold IsRes at h3; omega
  by_cases hn : T.name.size = 0
  case neg => exact pl_name S w hs hr hm hk (by omega)
  by_cases hl : T.labels.length = 0
  case neg => exact pl_lab S w hs hr hm hk hn (by omega)
  by_cases hq : T.kids.length = 0
  · exact pl_ok S w hs hr hm hk hn hl hq
  · exact pl_kid S w hs hr hm hk hn hl (by omega)
end Go.Proofs.YtifchfecfkdjlaaGreatDoor

namespace Go.Proofs.YtifchfecfkdjlaaGreatDoor
open Go.ChangeShapes Go.WideShapes Go.ChangeAt Go.RowKit Go.Deep

/-- A tree as it lies in a slice: with the addresses of its labels and kids. -/
structure TV where
  t : Ty
  A : Option Addr
  B : Option Addr
  ca : Nat
  cb : Nat
def TV.cells (x : TV) : List Value := [.int .i64 x.t.kind, .string x.t.name, .slice x.A x.t.labels.length x.ca, .slice x.B x.t.kids.length x.cb]
def PartsAt (w0 : World) (lo : Nat) (ts : List Ty) (tvs : List TV) : Prop := tvs.map TV.t = ts ∧ ∀ x ∈ tvs, Ty.At w0 lo x.t x.A x.B
theorem PartsAt.append {w0 : World} {lo : Nat} {ts us : List Ty} {xs ys : List TV} (h : PartsAt w0 lo ts xs) (k : PartsAt w0 lo us ys) : PartsAt w0 lo (ts ++ us) (xs ++ ys) :=
  ⟨by rw [List.map_append, h.1, k.1], fun x hx => by
    rcases List.mem_append.1 hx with h1 | h1
    · exact h.2 x h1
    · exact k.2 x h1⟩

/-- The tree's parts have room beside so many. -/
def FitsM (T : Ty) (d m : Nat) : Prop := d + T.depth ≤ 5 ∧ m + T.size ≤ 24
theorem FitsM.kid {T t : Ty} {d m k : Nat} (h : FitsM T d m) (ht : T.kids[k]? = some t) : FitsM t (d + 1) (m + 1 + Ty.sizes (T.kids.take k)) := by
  have h1 := Ty.depths_get ht
  have h2 := Ty.sizes_take ht
  have h3 := Ty.sizes_take_le T.kids (k + 1)
  have h4 := T.depth_eq
  have h5 := T.size_eq
  unfold FitsM at *
  omega

def AddYes (w0 : World) (lo : Nat) (T : Ty) (m : Nat) (xs : List Value) (e : Ending) (w' : World) : Prop := ∃ (R : Option Addr) (cap : Nat) (tvs : List TV), e = .returned (.tuple #[.slice R (m + T.size) cap, .bool true]) ∧ w'.ownsRow w0.heap.size 30 4 (.slice R (m + T.size) cap) (m + T.size) (xs ++ tvs.flatMap TV.cells) ∧ PartsAt w0 lo T.parts tvs ∧ Below w0.heap.size w0 w'
def AddNo (w0 : World) (e : Ending) (w' : World) : Prop := e = .returned (.tuple #[.slice none 0 0, .bool false]) ∧ Below w0.heap.size w0 w'
def AddPost (w0 : World) (lo : Nat) (T : Ty) (d m : Nat) (xs : List Value) (e : Ending) (w' : World) : Prop := (FitsM T d m → AddYes w0 lo T m xs e w') ∧ (¬ FitsM T d m → AddNo w0 e w')
def AddTy (w0 : World) (lo : Nat) (T : Ty) : Prop := ∀ d m : Nat, 1 ≤ d → d ≤ 5 → m ≤ 24 → ∀ (A B : Option Addr) (ca cb : Nat), Ty.At w0 lo T A B → ∀ (R : Option Addr) (cap : Nat) (xs : List Value) (w : World), w.ownsRow w0.heap.size 30 4 (.slice R m cap) m xs → Below w0.heap.size w0 w →
  Calls Tryz.prog 63 #[.slice R m cap, .agg #[.int .i64 T.kind, .string T.name, .slice A T.labels.length ca, .slice B T.kids.length cb], .int .i64 d] w (AddPost w0 lo T d m xs)

theorem own_form {w : World} {base : Nat} {e : TypeId} {size n : Nat} {v : Value} {xs : List Value} (h : w.ownsRow base e size v n xs) : ∃ (R : Option Addr) (cap : Nat), v = .slice R n cap := by
  rcases h.2 with ⟨rfl, rfl⟩ | ⟨g, cap, _, rfl, _⟩
  · exact ⟨none, 0, rfl⟩
  · exact ⟨_, cap, rfl⟩
theorem own_block_ge {w : World} {base : Nat} {e : TypeId} {size n : Nat} {v : Value} {xs : List Value} (h : w.ownsRow base e size v n xs) : ∀ j, v.ownBlock = some j → base ≤ j := fun j hj => (h.lt j hj).1

theorem addNo_deep (w0 : World) (lo : Nat) (T : Ty) (d m : Nat) (hd : 4 < d) (_ : d ≤ 5) (_ : m ≤ 24) (A B : Option Addr) (ca cb : Nat) (R : Option Addr) (cap : Nat) (xs : List Value) (w : World) (hb : Below w0.heap.size w0 w) :
    Calls Tryz.prog 63 #[.slice R m cap, .agg #[.int .i64 T.kind, .string T.name, .slice A T.labels.length ca, .slice B T.kids.length cb], .int .i64 d] w (AddPost w0 lo T d m xs) := by
  have hd' : (4 : Int) < (d : Int) := by omega
  have HN : Hid (¬ FitsM T d m) := Lib.hid (fun h => by have h1 := h.1; have := T.depth_pos; omega)
  have HB := Lib.hid hb
  clear hb
  go_enter Tryz.func63, Tryz.ntmps63
  go_wp2
  go_ret2
  exact ⟨fun h => absurd h HN.out, fun _ => ⟨rfl, bnext HB.out (below1 _ _)⟩⟩
theorem addNo_many (w0 : World) (lo : Nat) (T : Ty) (d : Nat) (hd : d ≤ 4) (A B : Option Addr) (ca cb : Nat) (R : Option Addr) (cap : Nat) (xs : List Value) (w : World) (hb : Below w0.heap.size w0 w) :
    Calls Tryz.prog 63 #[.slice R 24 cap, .agg #[.int .i64 T.kind, .string T.name, .slice A T.labels.length ca, .slice B T.kids.length cb], .int .i64 d] w (AddPost w0 lo T d 24 xs) := by
  have hd' : ¬ (4 : Int) < (d : Int) := by omega
  have HN : Hid (¬ FitsM T d 24) := Lib.hid (fun h => by have h1 := h.2; have := T.size_pos; omega)
  have HB := Lib.hid hb
  clear hb
  go_enter Tryz.func63, Tryz.ntmps63
  go_wp2
  go_ret2
  exact ⟨fun h => absurd h HN.out, fun _ => ⟨rfl, bnext HB.out (below1 _ _)⟩⟩

theorem infoType' : (Tryz.prog.info? 30).map (fun i => (i.zero, i.size, i.bytes)) = some (some (.agg #[.int .i64 0, .string ⟨#[]⟩, .slice none 0 0, .slice none 0 0]), 4, 72) := by kernel_rfl

set_option maxHeartbeats 2000000 in
set_option maxRecDepth 100000 in
theorem addParts_any (w0 : World) (lo : Nat) (T : Ty) (hT : T.wt ≤ 1048576) : AddTy w0 lo T := by
  induction T using Ty.kidInd with
  | h T ih =>
    intro d m hd1 hd5 hm A B ca cb hat R cap xs w hown hbel0
    by_cases hd : 4 < d
    · exact addNo_deep w0 lo T d m hd hd5 hm A B ca cb R cap xs w hbel0
    by_cases hm24 : m = 24
    · subst hm24
      exact addNo_many w0 lo T d (by omega) A B ca cb R cap xs w hbel0
    obtain ⟨q1, q2, q3, _, _⟩ := Ty.len_le hT
    have IH : Hid (∀ (i : Nat) (t : Ty), T.kids[i]? = some t → AddTy w0 lo t) := Lib.hid (fun i t ht => ih i t ht (q3 i t ht))
    have HR := Lib.hid hat.rowAt
    have HAT := Lib.hid hat
    have HO := Lib.hid hown
    have HB0 := Lib.hid hbel0
    have hd' : ¬ (4 : Int) < (d : Int) := by omega
    have hm' : ((m : Int) == 24) = false := by rw [beq_eq_false_iff_ne]; omega
    have hbz := hbel0.size
    clear ih hat q3 hT hown hbel0
    obtain ⟨i0, hi, hz0, hz1, hz2⟩ := info_parts infoType'
    go_enter Tryz.func63, Tryz.ntmps63
    go_wp2_with (at_builtin; refine wpList_append_own _ rfl _ _ 28 rfl w0.heap.size 30 i0 _ 4 72 Tryz.underlying28 hi hz0 hz1 hz2 rfl (by decide) (.slice R m cap) m xs rfl ((HO.out.alloc _).alloc _) ⟨w.heap.size + 1, 0, none⟩ 1 1 [.int .i64 T.kind, .string T.name, .slice A T.labels.length ca, .slice B T.kids.length cb] rfl rfl ?c1 ?c2 ?c3 ?c4 ?c5 ?_)
    case c2 => simp [Value.oneCell']
    case c3 => unfold maxLen; omega
    case c4 => omega
    case c5 => omega
    intro v1 w1 hown1 hgrow1 _
    obtain ⟨R1, cap1, rfl⟩ := own_form hown1
    have hbox := World.cell?_of_block (a := ⟨w.heap.size, 3, none⟩) (hgrow1.block w.heap.size (by simp; omega) (fun e => by have := (HO.out.lt _ e.symm).2; omega))
    have hbox1 : w1.cell? ⟨w.heap.size, 3, none⟩ = some (.slice B T.kids.length cb) := hbox.trans (by go_simp)
    have HB1 := Lib.hid (((HB0.out.alloc hbz _).alloc (by simp; omega) _).grown hgrow1 (by simp; omega) (own_block_ge HO.out))
    have HO1 := Lib.hid hown1
    clear hown1 hgrow1 hbox hi hz0 hz1 hz2
    go_wp2_with fail
    go_loopw [0, 25] (fun p i wr => ∃ k : Nat, k ≤ T.kids.length ∧ i = .int .i64 k ∧ (∃ (R2 : Option Addr) (c2 M : Nat), p = .slice R2 M c2 ∧ M ≤ 24 ∧ Hid (M = m + 1 + Ty.sizes (T.kids.take k) ∧ ((k = 0) ∨ d + 1 + Ty.depths (T.kids.take k) ≤ 5) ∧ ∃ tvs, wr.ownsRow w0.heap.size 30 4 (.slice R2 M c2) M (xs ++ tvs.flatMap TV.cells) ∧ PartsAt w0 lo (T :: Ty.partss (T.kids.take k)) tvs)) ∧ Hid (Below w0.heap.size w0 wr)) (fun _ i _ => T.kids.length - (intOf i).toNat)
    case atStart =>
      refine ⟨0, Nat.zero_le _, rfl, ⟨R1, cap1, m + 1, rfl, by omega, by simp [Ty.sizes], Or.inl rfl, [⟨T, A, B, ca, cb⟩], ?_, ?_⟩, HB1.out⟩
      · simpa [TV.cells] using HO1.out
      · exact ⟨by simp [Ty.partss], by intro x hx; simp at hx; subst hx; exact HAT.out⟩
    case round =>
      obtain ⟨k, hk, rfl, ⟨R2, c2, M, rfl, hM, hinv⟩, HBR⟩ := hrel
      clear hbox1
      by_cases hlt : k < T.kids.length
      · obtain ⟨b, o, t, A', B', ca', cb', rfl, hlo, htk, hc0⟩ := HR.out.at_ hlt
        have hc := hc0.keep (KeptFrom.below HBR.out lo) hlo
        have C : Hid (∀ W : World, Below w0.heap.size w0 W → ∀ ys, W.ownsRow w0.heap.size 30 4 (.slice R2 M c2) M ys → Calls Tryz.prog 63 #[.slice R2 M c2, .agg #[.int .i64 t.kind, .string t.name, .slice A' t.labels.length ca', .slice B' t.kids.length cb'], .int .i64 ((d : Int) + 1)] W (AddPost w0 lo t (d + 1) M ys)) := Lib.hid (fun W hW ys hy => IH.out k t htk (d + 1) M (by omega) (by omega) hM A' B' ca' cb' hc0.tree R2 c2 ys W hy hW)
        have HD := Lib.hid (Ty.depths_take htk)
        have HS := Lib.hid (Ty.sizes_take htk)
        have HP := Lib.hid (Ty.partss_take htk)
        have HT := Lib.hid htk
        obtain ⟨c0, c1, c2', c3, _⟩ := hc
        have lb : b < wr.heap.size := World.block_lt_of_cell? wr _ c0
        have hwz := HBR.out.size
        obtain ⟨tvs, hown2, hpat⟩ := hinv.out.2.2
        have HO2 := Lib.hid hown2
        have HPA := Lib.hid hpat
        clear htk hc0 hlo hown2 hpat
        by_cases hf : FitsM t (d + 1) M
        · have HF := Lib.hid hf
          have C' : Hid (∀ W : World, Below w0.heap.size w0 W → ∀ ys, W.ownsRow w0.heap.size 30 4 (.slice R2 M c2) M ys → Calls Tryz.prog 63 #[.slice R2 M c2, .agg #[.int .i64 t.kind, .string t.name, .slice A' t.labels.length ca', .slice B' t.kids.length cb'], .int .i64 ((d : Int) + 1)] W (AddYes w0 lo t M ys)) := Lib.hid (fun W hW ys hy => (C.out W hW ys hy).mono fun _ _ h => h.1 hf)
          have hM2 : M + t.size ≤ 24 := hf.2
          clear C hf
          go_wp2_with fail
          go_at_call 63
          refine (C'.out _ (HBR.out.alloc hwz _) _ (HO2.out.alloc _)).mono ?_
          rintro e w2 ⟨R3, c3', tvs', rfl, hown3, hpat3, hb3⟩
          have HO3 := Lib.hid hown3
          have HP3 := Lib.hid hpat3
          have HB3 := Lib.hid hb3
          clear hown3 hpat3 hb3
          go_wp2_with fail
          go_roundw
          case rel =>
            refine ⟨k + 1, by omega, by go_num, ⟨R3, c3', M + t.size, rfl, hM2, ?_, ?_, tvs ++ tvs', ?_, ?_⟩, HB3.out⟩
            · have := hinv.out.1
              have := HS.out
              omega
            · right
              have h1 := hinv.out.2.1
              have h2 := HD.out
              have h3 := HF.out.1
              rcases h1 with h1 | h1
              · subst h1
                rw [List.take_zero] at h2
                simp only [Ty.depths] at h2
                omega
              · omega
            · have := HO3.out
              rw [List.flatMap_append, ← List.append_assoc]
              exact this
            · have h4 := HPA.out.append HP3.out
              rw [HP.out]
              exact h4
          case measure => simp [intOf]; omega
        · have HF := Lib.hid hf
          have C' : Hid (∀ W : World, Below w0.heap.size w0 W → ∀ ys, W.ownsRow w0.heap.size 30 4 (.slice R2 M c2) M ys → Calls Tryz.prog 63 #[.slice R2 M c2, .agg #[.int .i64 t.kind, .string t.name, .slice A' t.labels.length ca', .slice B' t.kids.length cb'], .int .i64 ((d : Int) + 1)] W (AddNo w0)) := Lib.hid (fun W hW ys hy => (C.out W hW ys hy).mono fun _ _ h => h.2 hf)
          clear C hf
          go_wp2_with fail
          go_at_call 63
          refine (C'.out _ (HBR.out.alloc hwz _) _ (HO2.out.alloc _)).mono ?_
          rintro e w2 ⟨rfl, hb3⟩
          have HB3 := Lib.hid hb3
          clear hb3
          go_wp2_with fail
          go_ret2
          exact ⟨fun h => absurd (by have h1 := h.kid HT.out; rw [← hinv.out.1] at h1; exact h1) HF.out, fun _ => ⟨rfl, HB3.out⟩⟩
      · have hk' : k = T.kids.length := by omega
        obtain ⟨tvs, hown2, hpat⟩ := hinv.out.2.2
        have HO2 := Lib.hid hown2
        have HPA := Lib.hid hpat
        clear hown2 hpat
        go_wp2_with fail
        go_ret2
        have h1 := hinv.out.1
        have h2 := hinv.out.2.1
        have h3 := T.size_eq
        have h4 := T.depth_eq
        have h5 := HPA.out
        rw [hk', List.take_length] at h1 h2 h5
        have hMe : M = m + T.size := by omega
        have hfit : FitsM T d m := by
          unfold FitsM
          rcases h2 with h2 | h2
          · have h6 : T.kids = [] := List.eq_nil_of_length_eq_zero h2
            rw [h6] at h4
            simp [Ty.depths] at h4
            omega
          · omega
        refine ⟨fun _ => ⟨R2, c2, tvs, ?_, ?_, ?_, HBR.out⟩, fun h => absurd hfit h⟩
        · rw [← hMe]
          rfl
        · rw [← hMe]
          exact HO2.out
        · rw [Ty.parts_eq]
          exact h5
end Go.Proofs.YtifchfecfkdjlaaGreatDoor

namespace Go.Proofs.YtifchfecfkdjlaaGreatDoor
open Go.ChangeShapes Go.WideShapes Go.ChangeAt Go.RowKit Go.Deep

theorem nodeOf_12 (n : ByteArray) (A B : Option Addr) (l m ca cb : Nat) (k : Int) (hk : k = 12 ∨ k = 13 ∨ k = 14 ∨ k = 15 ∨ k = 22 ∨ k = 23) (w : World) :
    Calls Tryz.prog 64 #[.agg #[.int .i64 k, .string n, .slice A l ca, .slice B m cb]] w fun e w' => e = .returned (.iface 104 (.agg #[.int .i64 k, .string n, .slice A l ca, .slice B m cb])) ∧ Below w.heap.size w w' := by
  rcases hk with rfl | rfl | rfl | rfl | rfl | rfl
  all_goals
    go_enter Tryz.func64, Tryz.ntmps64
    go_wp2
    go_ret
    exact ⟨rfl, below1 _ _⟩
theorem nodeOf_16 (n : ByteArray) (A B : Option Addr) (l m ca cb : Nat) (k : Int) (hk : k = 16 ∨ k = 17 ∨ k = 18 ∨ k = 19) (w : World) :
    Calls Tryz.prog 64 #[.agg #[.int .i64 k, .string n, .slice A l ca, .slice B m cb]] w fun e w' => e = .returned (.iface 105 (.agg #[.int .i64 k, .string n, .slice A l ca, .slice B m cb])) ∧ Below w.heap.size w w' := by
  rcases hk with rfl | rfl | rfl | rfl
  all_goals
    go_enter Tryz.func64, Tryz.ntmps64
    go_wp2
    go_ret
    exact ⟨rfl, below1 _ _⟩
theorem nodeOf_20 (n : ByteArray) (A B : Option Addr) (l m ca cb : Nat) (k : Int) (hk : k = 20 ∨ k = 21) (w : World) :
    Calls Tryz.prog 64 #[.agg #[.int .i64 k, .string n, .slice A l ca, .slice B m cb]] w fun e w' => e = .returned (.iface 106 (.agg #[.int .i64 k, .string n, .slice A l ca, .slice B m cb])) ∧ Below w.heap.size w w' := by
  rcases hk with rfl | rfl
  all_goals
    go_enter Tryz.func64, Tryz.ntmps64
    go_wp2
    go_ret
    exact ⟨rfl, below1 _ _⟩
theorem nodeOf_else (n : ByteArray) (A B : Option Addr) (l m ca cb : Nat) (k : Int) (hk : k < 12 ∨ 23 < k) (w : World) :
    Calls Tryz.prog 64 #[.agg #[.int .i64 k, .string n, .slice A l ca, .slice B m cb]] w fun e w' => e = .returned (.iface 107 (.agg #[.int .i64 k, .string n, .slice A l ca, .slice B m cb])) ∧ Below w.heap.size w w' := by
  have k12 : (k == 12) = false := by rw [beq_eq_false_iff_ne]; omega
  have k13 : (k == 13) = false := by rw [beq_eq_false_iff_ne]; omega
  have k14 : (k == 14) = false := by rw [beq_eq_false_iff_ne]; omega
  have k15 : (k == 15) = false := by rw [beq_eq_false_iff_ne]; omega
  have k16 : (k == 16) = false := by rw [beq_eq_false_iff_ne]; omega
  have k17 : (k == 17) = false := by rw [beq_eq_false_iff_ne]; omega
  have k18 : (k == 18) = false := by rw [beq_eq_false_iff_ne]; omega
  have k19 : (k == 19) = false := by rw [beq_eq_false_iff_ne]; omega
  have k20 : (k == 20) = false := by rw [beq_eq_false_iff_ne]; omega
  have k21 : (k == 21) = false := by rw [beq_eq_false_iff_ne]; omega
  have k22 : (k == 22) = false := by rw [beq_eq_false_iff_ne]; omega
  have k23 : (k == 23) = false := by rw [beq_eq_false_iff_ne]; omega
  clear hk
  go_enter Tryz.func64, Tryz.ntmps64
  go_wp2
  go_ret
  exact ⟨rfl, below1 _ _⟩

/-- What 'sound' means at each node (286: the machine's bound on the look for a method, as this program has it). -/
theorem method_angle (v : Value) (w : World) : (method 286 104 v "loop.example/g00901/impl.sound").run Tryz.prog w = .ok (153, v) w := by kernel_rfl
theorem method_label (v : Value) (w : World) : (method 286 105 v "loop.example/g00901/impl.sound").run Tryz.prog w = .ok (156, v) w := by kernel_rfl
theorem method_handle (v : Value) (w : World) : (method 286 106 v "loop.example/g00901/impl.sound").run Tryz.prog w = .ok (157, v) w := by kernel_rfl
theorem method_plain (v : Value) (w : World) : (method 286 107 v "loop.example/g00901/impl.sound").run Tryz.prog w = .ok (158, v) w := by kernel_rfl
end Go.Proofs.YtifchfecfkdjlaaGreatDoor

