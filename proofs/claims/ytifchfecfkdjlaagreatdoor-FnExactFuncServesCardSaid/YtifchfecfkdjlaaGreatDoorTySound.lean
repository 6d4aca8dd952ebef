/-
  The walks of the program's four sound methods.
-/
import Derived.Test.YtifchfecfkdjlaaGreatDoorME
namespace Go.Proofs.YtifchfecfkdjlaaGreatDoor
open Go.ChangeShapes Go.WideShapes Go.ChangeAt Go.RowKit Go.Deep

/-- What the sound methods call. -/
structure IF (T : Ty) (A B : Option Addr) (ca cb lo : Nat) : Prop where
  cn : ∀ W, MaxC W → Calls Tryz.prog 92 #[.string T.name] W fun e w' => e = .returned (.bool (nmB T.name)) ∧ Below W.heap.size W w'
  cl : ∀ W, Strs W lo T.labels A → MaxC W → Calls Tryz.prog 57 #[.slice A T.labels.length ca] W (SaysB (Names T.labels) W)
  cu : ∀ W, Ty.RowAt W lo T.kids B → Calls Tryz.prog 154 #[.slice B T.kids.length cb, .func (.func 56) #[] #[]] W (SaysB (UnitIn T.kids T.kids.length) W)
  ch : ∀ t, T.kids[0]? = some t → MenTy 21 t
  ll : T.labels.length ≤ 1048576
  kl : T.kids.length ≤ 1048576
theorem IF.of {T : Ty} (hT : T.wt ≤ 1048576) (A B : Option Addr) (ca cb lo : Nat) : IF T A B ca cb lo := by
  obtain ⟨q1, q2, q3, q4, q5⟩ := Ty.len_le hT
  exact ⟨fun W hm => nmB_impl T.name q4 W hm, fun W h hm => distinct_any T.labels q5 q1 A ca lo W h hm, fun W h => contUnit_any T.kids q2 B cb lo W h, fun t ht => mentions_any 21 t (q3 0 t ht), q1, q2⟩

set_option maxRecDepth 100000 in
theorem pl_low {T : Ty} {A B : Option Addr} {ca cb lo : Nat} (S : IF T A B ca cb lo) (w : World) (hs : Strs w lo T.labels A) (hr : Ty.RowAt w lo T.kids B) (hm : MaxC w) (hk : T.kind < 1) :
    Calls Tryz.prog 158 #[.agg #[.int .i64 T.kind, .string T.name, .slice A T.labels.length ca, .slice B T.kids.length cb]] w (SaysB (ShapeOk T) w) := by
  have CN := Lib.hid S.cn
  have HS := Lib.hid hs
  have HR := Lib.hid hr
  have HM := Lib.hid hm
  have hll := S.ll
  have hkl := S.kl
  have k1 : ¬ 1 ≤ T.kind := by omega
  have HH : Hid (¬ ShapeOk T) := Lib.hid (fun h => by have h1 := h.2; unfold BodyOk at h1; rw [if_neg (by omega), if_neg (by omega), if_neg (by omega), if_neg (by omega), if_neg (by omega), if_neg (by omega)] at h1; omega)
  clear S hs hr hm
  first | clear hk | skip
  go_enter Tryz.func158, Tryz.ntmps158
  go_wp2
  go_ret
  exact ⟨false, (by first | rfl | exact ret_bool (by assumption)), iffF HH.out, below1 _ _⟩

set_option maxRecDepth 100000 in
theorem pl_high {T : Ty} {A B : Option Addr} {ca cb lo : Nat} (S : IF T A B ca cb lo) (w : World) (hs : Strs w lo T.labels A) (hr : Ty.RowAt w lo T.kids B) (hm : MaxC w) (hk : 23 < T.kind) :
    Calls Tryz.prog 158 #[.agg #[.int .i64 T.kind, .string T.name, .slice A T.labels.length ca, .slice B T.kids.length cb]] w (SaysB (ShapeOk T) w) := by
  have CN := Lib.hid S.cn
  have HS := Lib.hid hs
  have HR := Lib.hid hr
  have HM := Lib.hid hm
  have hll := S.ll
  have hkl := S.kl
  have k1 : 1 ≤ T.kind := by omega
  have k2 : ¬ T.kind ≤ 11 := by omega
  have HH : Hid (¬ ShapeOk T) := Lib.hid (fun h => by have h1 := h.2; unfold BodyOk at h1; rw [if_neg (by omega), if_neg (by omega), if_neg (by omega), if_neg (by omega), if_neg (by omega), if_neg (by omega)] at h1; omega)
  clear S hs hr hm
  first | clear hk | skip
  go_enter Tryz.func158, Tryz.ntmps158
  go_wp2
  go_ret
  exact ⟨false, (by first | rfl | exact ret_bool (by assumption)), iffF HH.out, below1 _ _⟩

set_option maxRecDepth 100000 in
theorem pl_name {T : Ty} {A B : Option Addr} {ca cb lo : Nat} (S : IF T A B ca cb lo) (w : World) (hs : Strs w lo T.labels A) (hr : Ty.RowAt w lo T.kids B) (hm : MaxC w) (hk : 1 ≤ T.kind ∧ T.kind ≤ 11) (hn : 0 < T.name.size) :
    Calls Tryz.prog 158 #[.agg #[.int .i64 T.kind, .string T.name, .slice A T.labels.length ca, .slice B T.kids.length cb]] w (SaysB (ShapeOk T) w) := by
  have CN := Lib.hid S.cn
  have HS := Lib.hid hs
  have HR := Lib.hid hr
  have HM := Lib.hid hm
  have hll := S.ll
  have hkl := S.kl
  have k1 : 1 ≤ T.kind := hk.1
  have k2 : T.kind ≤ 11 := hk.2
  have he := not_empty _ hn
  have HH : Hid (¬ ShapeOk T) := Lib.hid (fun h => by have h1 := h.1.2.1 (by unfold IsRes; omega); omega)
  clear S hs hr hm
  first | clear hk | skip
  first | clear hn | skip
  go_enter Tryz.func158, Tryz.ntmps158
  go_wp2
  go_ret
  exact ⟨false, (by first | rfl | exact ret_bool (by assumption)), iffF HH.out, below1 _ _⟩

set_option maxRecDepth 100000 in
theorem pl_lab {T : Ty} {A B : Option Addr} {ca cb lo : Nat} (S : IF T A B ca cb lo) (w : World) (hs : Strs w lo T.labels A) (hr : Ty.RowAt w lo T.kids B) (hm : MaxC w) (hk : 1 ≤ T.kind ∧ T.kind ≤ 11) (hn : T.name.size = 0) (hl : 0 < T.labels.length) :
    Calls Tryz.prog 158 #[.agg #[.int .i64 T.kind, .string T.name, .slice A T.labels.length ca, .slice B T.kids.length cb]] w (SaysB (ShapeOk T) w) := by
  have CN := Lib.hid S.cn
  have HS := Lib.hid hs
  have HR := Lib.hid hr
  have HM := Lib.hid hm
  have hll := S.ll
  have hkl := S.kl
  have k1 : 1 ≤ T.kind := hk.1
  have k2 : T.kind ≤ 11 := hk.2
  have e0 : ((T.labels.length : Int) == 0) = false := by rw [beq_eq_false_iff_ne]; omega
  have HH : Hid (¬ ShapeOk T) := Lib.hid (fun h => by have h1 := h.1.2.2.2 (by unfold IsLab; omega); omega)
  rw [name_nil hn]
  clear S hs hr hm
  first | clear hk | skip
  first | clear hn | skip
  first | clear hl | skip
  go_enter Tryz.func158, Tryz.ntmps158
  go_wp2
  go_ret
  exact ⟨false, (by first | rfl | exact ret_bool (by assumption)), iffF HH.out, below1 _ _⟩

set_option maxRecDepth 100000 in
theorem pl_kid {T : Ty} {A B : Option Addr} {ca cb lo : Nat} (S : IF T A B ca cb lo) (w : World) (hs : Strs w lo T.labels A) (hr : Ty.RowAt w lo T.kids B) (hm : MaxC w) (hk : 1 ≤ T.kind ∧ T.kind ≤ 11) (hn : T.name.size = 0) (hl : T.labels.length = 0) (hq : 0 < T.kids.length) :
    Calls Tryz.prog 158 #[.agg #[.int .i64 T.kind, .string T.name, .slice A T.labels.length ca, .slice B T.kids.length cb]] w (SaysB (ShapeOk T) w) := by
  have CN := Lib.hid S.cn
  have HS := Lib.hid hs
  have HR := Lib.hid hr
  have HM := Lib.hid hm
  have hll := S.ll
  have hkl := S.kl
  have k1 : 1 ≤ T.kind := hk.1
  have k2 : T.kind ≤ 11 := hk.2
  have e1 : ((T.kids.length : Int) == 0) = false := by rw [beq_eq_false_iff_ne]; omega
  have HH : Hid (¬ ShapeOk T) := Lib.hid (fun h => by have h1 := h.2; unfold BodyOk at h1; rw [if_neg (by omega), if_neg (by omega), if_neg (by omega), if_neg (by omega), if_neg (by omega), if_neg (by omega)] at h1; omega)
  rw [name_nil hn]
  rw [hl]
  clear S hs hr hm
  first | clear hk | skip
  first | clear hn | skip
  first | clear hl | skip
  first | clear hq | skip
  go_enter Tryz.func158, Tryz.ntmps158
  go_wp2
  go_ret
  exact ⟨false, (by first | rfl | exact ret_bool (by assumption)), iffF HH.out, below1 _ _⟩

set_option maxRecDepth 100000 in
theorem pl_ok {T : Ty} {A B : Option Addr} {ca cb lo : Nat} (S : IF T A B ca cb lo) (w : World) (hs : Strs w lo T.labels A) (hr : Ty.RowAt w lo T.kids B) (hm : MaxC w) (hk : 1 ≤ T.kind ∧ T.kind ≤ 11) (hn : T.name.size = 0) (hl : T.labels.length = 0) (hq : T.kids.length = 0) :
    Calls Tryz.prog 158 #[.agg #[.int .i64 T.kind, .string T.name, .slice A T.labels.length ca, .slice B T.kids.length cb]] w (SaysB (ShapeOk T) w) := by
  have CN := Lib.hid S.cn
  have HS := Lib.hid hs
  have HR := Lib.hid hr
  have HM := Lib.hid hm
  have hll := S.ll
  have hkl := S.kl
  have k1 : 1 ≤ T.kind := hk.1
  have k2 : T.kind ≤ 11 := hk.2
  have HH : Hid (ShapeOk T) := Lib.hid ⟨⟨fun h => by unfold IsRes at h; omega, fun _ => hn, fun h => by unfold IsLab at h; omega, fun _ => hl⟩, by unfold BodyOk; rw [if_neg (by omega), if_neg (by omega), if_neg (by omega), if_neg (by omega), if_neg (by omega), if_neg (by omega)]; omega⟩
  rw [name_nil hn]
  rw [hl]
  rw [hq]
  clear S hs hr hm
  first | clear hk | skip
  first | clear hn | skip
  first | clear hl | skip
  first | clear hq | skip
  go_enter Tryz.func158, Tryz.ntmps158
  go_wp2
  go_ret
  exact ⟨true, (by first | rfl | exact ret_bool (by assumption)), iffT HH.out, below1 _ _⟩

set_option maxRecDepth 100000 in
theorem ha_bad20 {T : Ty} {A B : Option Addr} {ca cb lo : Nat} (S : IF T A B ca cb lo) (w : World) (hs : Strs w lo T.labels A) (hr : Ty.RowAt w lo T.kids B) (hm : MaxC w) (hk : T.kind = 20) (hv : nmB T.name = false) :
    Calls Tryz.prog 157 #[.agg #[.int .i64 T.kind, .string T.name, .slice A T.labels.length ca, .slice B T.kids.length cb]] w (SaysB (ShapeOk T) w) := by
  have CN := Lib.hid S.cn
  have HS := Lib.hid hs
  have HR := Lib.hid hr
  have HM := Lib.hid hm
  have hll := S.ll
  have hkl := S.kl
  have HH : Hid (¬ ShapeOk T) := Lib.hid (fun h => by have h1 := h.1.1 (by rw [hk]; unfold IsRes; omega); rw [hv] at h1; cases h1)
  rw [hv] at CN
  clear S hs hr hm
  first | clear hk | skip
  first | clear hv | skip
  go_enter Tryz.func157, Tryz.ntmps157
  go_wp2_with (first | (go_at_call 92; (with_reducible refine (CN.out _ (HM.out.keep (below1 _ _))).mono ?_); rintro e w2 ⟨rfl, hb2⟩; obtain ⟨hc2, hf2⟩ := bcell hb2; have hz2 : w.heap.size < w2.heap.size := (by have h9 := hb2.size; simp at h9; omega); have HB2 := Lib.hid (bnext (below1 _ _) hb2); clear hb2))
  go_ret
  exact ⟨false, (by first | rfl | exact ret_bool (by assumption)), iffF HH.out, HB2.out⟩

set_option maxRecDepth 100000 in
theorem ha_lab20 {T : Ty} {A B : Option Addr} {ca cb lo : Nat} (S : IF T A B ca cb lo) (w : World) (hs : Strs w lo T.labels A) (hr : Ty.RowAt w lo T.kids B) (hm : MaxC w) (hk : T.kind = 20) (hv : nmB T.name = true) (hl : 0 < T.labels.length) :
    Calls Tryz.prog 157 #[.agg #[.int .i64 T.kind, .string T.name, .slice A T.labels.length ca, .slice B T.kids.length cb]] w (SaysB (ShapeOk T) w) := by
  have CN := Lib.hid S.cn
  have HS := Lib.hid hs
  have HR := Lib.hid hr
  have HM := Lib.hid hm
  have hll := S.ll
  have hkl := S.kl
  have e0 : ((T.labels.length : Int) == 0) = false := by rw [beq_eq_false_iff_ne]; omega
  have HH : Hid (¬ ShapeOk T) := Lib.hid (fun h => by have h1 := h.1.2.2.2 (by rw [hk]; unfold IsLab; omega); omega)
  rw [hv] at CN
  clear S hs hr hm
  first | clear hk | skip
  first | clear hv | skip
  first | clear hl | skip
  go_enter Tryz.func157, Tryz.ntmps157
  go_wp2_with (first | (go_at_call 92; (with_reducible refine (CN.out _ (HM.out.keep (below1 _ _))).mono ?_); rintro e w2 ⟨rfl, hb2⟩; obtain ⟨hc2, hf2⟩ := bcell hb2; have hz2 : w.heap.size < w2.heap.size := (by have h9 := hb2.size; simp at h9; omega); have HB2 := Lib.hid (bnext (below1 _ _) hb2); clear hb2))
  go_ret
  exact ⟨false, (by first | rfl | exact ret_bool (by assumption)), iffF HH.out, HB2.out⟩

set_option maxRecDepth 100000 in
theorem ha_kid20 {T : Ty} {A B : Option Addr} {ca cb lo : Nat} (S : IF T A B ca cb lo) (w : World) (hs : Strs w lo T.labels A) (hr : Ty.RowAt w lo T.kids B) (hm : MaxC w) (hk : T.kind = 20) (hv : nmB T.name = true) (hl : T.labels.length = 0) (hq : 0 < T.kids.length) :
    Calls Tryz.prog 157 #[.agg #[.int .i64 T.kind, .string T.name, .slice A T.labels.length ca, .slice B T.kids.length cb]] w (SaysB (ShapeOk T) w) := by
  have CN := Lib.hid S.cn
  have HS := Lib.hid hs
  have HR := Lib.hid hr
  have HM := Lib.hid hm
  have hll := S.ll
  have hkl := S.kl
  have e1 : ((T.kids.length : Int) == 0) = false := by rw [beq_eq_false_iff_ne]; omega
  have HH : Hid (¬ ShapeOk T) := Lib.hid (fun h => by have h1 := h.2; unfold BodyOk at h1; simp only [hk] at h1; have h2 : T.kids.length = 0 := h1.2; omega)
  rw [hv] at CN
  rw [hl]
  clear S hs hr hm
  first | clear hk | skip
  first | clear hv | skip
  first | clear hl | skip
  first | clear hq | skip
  go_enter Tryz.func157, Tryz.ntmps157
  go_wp2_with (first | (go_at_call 92; (with_reducible refine (CN.out _ (HM.out.keep (below1 _ _))).mono ?_); rintro e w2 ⟨rfl, hb2⟩; obtain ⟨hc2, hf2⟩ := bcell hb2; have hz2 : w.heap.size < w2.heap.size := (by have h9 := hb2.size; simp at h9; omega); have HB2 := Lib.hid (bnext (below1 _ _) hb2); clear hb2))
  go_ret
  exact ⟨false, (by first | rfl | exact ret_bool (by assumption)), iffF HH.out, HB2.out⟩

set_option maxRecDepth 100000 in
theorem ha_ok20 {T : Ty} {A B : Option Addr} {ca cb lo : Nat} (S : IF T A B ca cb lo) (w : World) (hs : Strs w lo T.labels A) (hr : Ty.RowAt w lo T.kids B) (hm : MaxC w) (hk : T.kind = 20) (hv : nmB T.name = true) (hl : T.labels.length = 0) (hq : T.kids.length = 0) :
    Calls Tryz.prog 157 #[.agg #[.int .i64 T.kind, .string T.name, .slice A T.labels.length ca, .slice B T.kids.length cb]] w (SaysB (ShapeOk T) w) := by
  have CN := Lib.hid S.cn
  have HS := Lib.hid hs
  have HR := Lib.hid hr
  have HM := Lib.hid hm
  have hll := S.ll
  have hkl := S.kl
  have HH : Hid (ShapeOk T) := Lib.hid ⟨⟨fun _ => hv, fun h => absurd (by rw [hk]; unfold IsRes; omega) h, fun h => by rw [hk] at h; unfold IsLab at h; omega, fun _ => hl⟩, by unfold BodyOk; simp only [hk]; exact ⟨by decide, hq⟩⟩
  rw [hv] at CN
  rw [hl]
  rw [hq]
  clear S hs hr hm
  first | clear hk | skip
  first | clear hv | skip
  first | clear hl | skip
  first | clear hq | skip
  go_enter Tryz.func157, Tryz.ntmps157
  go_wp2_with (first | (go_at_call 92; (with_reducible refine (CN.out _ (HM.out.keep (below1 _ _))).mono ?_); rintro e w2 ⟨rfl, hb2⟩; obtain ⟨hc2, hf2⟩ := bcell hb2; have hz2 : w.heap.size < w2.heap.size := (by have h9 := hb2.size; simp at h9; omega); have HB2 := Lib.hid (bnext (below1 _ _) hb2); clear hb2))
  go_ret
  exact ⟨true, (by first | rfl | exact ret_bool (by assumption)), iffT HH.out, HB2.out⟩

set_option maxRecDepth 100000 in
theorem ha_bad21 {T : Ty} {A B : Option Addr} {ca cb lo : Nat} (S : IF T A B ca cb lo) (w : World) (hs : Strs w lo T.labels A) (hr : Ty.RowAt w lo T.kids B) (hm : MaxC w) (hk : T.kind = 21) (hv : nmB T.name = false) :
    Calls Tryz.prog 157 #[.agg #[.int .i64 T.kind, .string T.name, .slice A T.labels.length ca, .slice B T.kids.length cb]] w (SaysB (ShapeOk T) w) := by
  have CN := Lib.hid S.cn
  have HS := Lib.hid hs
  have HR := Lib.hid hr
  have HM := Lib.hid hm
  have hll := S.ll
  have hkl := S.kl
  have HH : Hid (¬ ShapeOk T) := Lib.hid (fun h => by have h1 := h.1.1 (by rw [hk]; unfold IsRes; omega); rw [hv] at h1; cases h1)
  rw [hv] at CN
  clear S hs hr hm
  first | clear hk | skip
  first | clear hv | skip
  go_enter Tryz.func157, Tryz.ntmps157
  go_wp2_with (first | (go_at_call 92; (with_reducible refine (CN.out _ (HM.out.keep (below1 _ _))).mono ?_); rintro e w2 ⟨rfl, hb2⟩; obtain ⟨hc2, hf2⟩ := bcell hb2; have hz2 : w.heap.size < w2.heap.size := (by have h9 := hb2.size; simp at h9; omega); have HB2 := Lib.hid (bnext (below1 _ _) hb2); clear hb2))
  go_ret
  exact ⟨false, (by first | rfl | exact ret_bool (by assumption)), iffF HH.out, HB2.out⟩

set_option maxRecDepth 100000 in
theorem ha_lab21 {T : Ty} {A B : Option Addr} {ca cb lo : Nat} (S : IF T A B ca cb lo) (w : World) (hs : Strs w lo T.labels A) (hr : Ty.RowAt w lo T.kids B) (hm : MaxC w) (hk : T.kind = 21) (hv : nmB T.name = true) (hl : 0 < T.labels.length) :
    Calls Tryz.prog 157 #[.agg #[.int .i64 T.kind, .string T.name, .slice A T.labels.length ca, .slice B T.kids.length cb]] w (SaysB (ShapeOk T) w) := by
  have CN := Lib.hid S.cn
  have HS := Lib.hid hs
  have HR := Lib.hid hr
  have HM := Lib.hid hm
  have hll := S.ll
  have hkl := S.kl
  have e0 : ((T.labels.length : Int) == 0) = false := by rw [beq_eq_false_iff_ne]; omega
  have HH : Hid (¬ ShapeOk T) := Lib.hid (fun h => by have h1 := h.1.2.2.2 (by rw [hk]; unfold IsLab; omega); omega)
  rw [hv] at CN
  clear S hs hr hm
  first | clear hk | skip
  first | clear hv | skip
  first | clear hl | skip
  go_enter Tryz.func157, Tryz.ntmps157
  go_wp2_with (first | (go_at_call 92; (with_reducible refine (CN.out _ (HM.out.keep (below1 _ _))).mono ?_); rintro e w2 ⟨rfl, hb2⟩; obtain ⟨hc2, hf2⟩ := bcell hb2; have hz2 : w.heap.size < w2.heap.size := (by have h9 := hb2.size; simp at h9; omega); have HB2 := Lib.hid (bnext (below1 _ _) hb2); clear hb2))
  go_ret
  exact ⟨false, (by first | rfl | exact ret_bool (by assumption)), iffF HH.out, HB2.out⟩

set_option maxRecDepth 100000 in
theorem ha_kid21 {T : Ty} {A B : Option Addr} {ca cb lo : Nat} (S : IF T A B ca cb lo) (w : World) (hs : Strs w lo T.labels A) (hr : Ty.RowAt w lo T.kids B) (hm : MaxC w) (hk : T.kind = 21) (hv : nmB T.name = true) (hl : T.labels.length = 0) (hq : 0 < T.kids.length) :
    Calls Tryz.prog 157 #[.agg #[.int .i64 T.kind, .string T.name, .slice A T.labels.length ca, .slice B T.kids.length cb]] w (SaysB (ShapeOk T) w) := by
  have CN := Lib.hid S.cn
  have HS := Lib.hid hs
  have HR := Lib.hid hr
  have HM := Lib.hid hm
  have hll := S.ll
  have hkl := S.kl
  have e1 : ((T.kids.length : Int) == 0) = false := by rw [beq_eq_false_iff_ne]; omega
  have HH : Hid (¬ ShapeOk T) := Lib.hid (fun h => by have h1 := h.2; unfold BodyOk at h1; simp only [hk] at h1; have h2 : T.kids.length = 0 := h1.2; omega)
  rw [hv] at CN
  rw [hl]
  clear S hs hr hm
  first | clear hk | skip
  first | clear hv | skip
  first | clear hl | skip
  first | clear hq | skip
  go_enter Tryz.func157, Tryz.ntmps157
  go_wp2_with (first | (go_at_call 92; (with_reducible refine (CN.out _ (HM.out.keep (below1 _ _))).mono ?_); rintro e w2 ⟨rfl, hb2⟩; obtain ⟨hc2, hf2⟩ := bcell hb2; have hz2 : w.heap.size < w2.heap.size := (by have h9 := hb2.size; simp at h9; omega); have HB2 := Lib.hid (bnext (below1 _ _) hb2); clear hb2))
  go_ret
  exact ⟨false, (by first | rfl | exact ret_bool (by assumption)), iffF HH.out, HB2.out⟩

set_option maxRecDepth 100000 in
theorem ha_ok21 {T : Ty} {A B : Option Addr} {ca cb lo : Nat} (S : IF T A B ca cb lo) (w : World) (hs : Strs w lo T.labels A) (hr : Ty.RowAt w lo T.kids B) (hm : MaxC w) (hk : T.kind = 21) (hv : nmB T.name = true) (hl : T.labels.length = 0) (hq : T.kids.length = 0) :
    Calls Tryz.prog 157 #[.agg #[.int .i64 T.kind, .string T.name, .slice A T.labels.length ca, .slice B T.kids.length cb]] w (SaysB (ShapeOk T) w) := by
  have CN := Lib.hid S.cn
  have HS := Lib.hid hs
  have HR := Lib.hid hr
  have HM := Lib.hid hm
  have hll := S.ll
  have hkl := S.kl
  have HH : Hid (ShapeOk T) := Lib.hid ⟨⟨fun _ => hv, fun h => absurd (by rw [hk]; unfold IsRes; omega) h, fun h => by rw [hk] at h; unfold IsLab at h; omega, fun _ => hl⟩, by unfold BodyOk; simp only [hk]; exact ⟨by decide, hq⟩⟩
  rw [hv] at CN
  rw [hl]
  rw [hq]
  clear S hs hr hm
  first | clear hk | skip
  first | clear hv | skip
  first | clear hl | skip
  first | clear hq | skip
  go_enter Tryz.func157, Tryz.ntmps157
  go_wp2_with (first | (go_at_call 92; (with_reducible refine (CN.out _ (HM.out.keep (below1 _ _))).mono ?_); rintro e w2 ⟨rfl, hb2⟩; obtain ⟨hc2, hf2⟩ := bcell hb2; have hz2 : w.heap.size < w2.heap.size := (by have h9 := hb2.size; simp at h9; omega); have HB2 := Lib.hid (bnext (below1 _ _) hb2); clear hb2))
  go_ret
  exact ⟨true, (by first | rfl | exact ret_bool (by assumption)), iffT HH.out, HB2.out⟩

set_option maxRecDepth 100000 in
theorem an_name {T : Ty} {A B : Option Addr} {ca cb lo : Nat} (S : IF T A B ca cb lo) (w : World) (hs : Strs w lo T.labels A) (hr : Ty.RowAt w lo T.kids B) (hm : MaxC w) (hk : T.kind = 12 ∨ T.kind = 13 ∨ T.kind = 14 ∨ T.kind = 15 ∨ T.kind = 22 ∨ T.kind = 23) (hn : 0 < T.name.size) :
    Calls Tryz.prog 153 #[.agg #[.int .i64 T.kind, .string T.name, .slice A T.labels.length ca, .slice B T.kids.length cb]] w (SaysB (ShapeOk T) w) := by
  have CN := Lib.hid S.cn
  have HS := Lib.hid hs
  have HR := Lib.hid hr
  have HM := Lib.hid hm
  have hll := S.ll
  have hkl := S.kl
  have he := not_empty _ hn
  have HH : Hid (¬ ShapeOk T) := Lib.hid (fun h => by have h1 := h.1.2.1 (by unfold IsRes; omega); omega)
  clear S hs hr hm
  first | clear hk | skip
  first | clear hn | skip
  go_enter Tryz.func153, Tryz.ntmps153
  go_wp2
  go_ret
  exact ⟨false, (by first | rfl | exact ret_bool (by assumption)), iffF HH.out, below1 _ _⟩

set_option maxRecDepth 100000 in
theorem an_lab {T : Ty} {A B : Option Addr} {ca cb lo : Nat} (S : IF T A B ca cb lo) (w : World) (hs : Strs w lo T.labels A) (hr : Ty.RowAt w lo T.kids B) (hm : MaxC w) (hk : T.kind = 12 ∨ T.kind = 13 ∨ T.kind = 14 ∨ T.kind = 15 ∨ T.kind = 22 ∨ T.kind = 23) (hn : T.name.size = 0) (hl : 0 < T.labels.length) :
    Calls Tryz.prog 153 #[.agg #[.int .i64 T.kind, .string T.name, .slice A T.labels.length ca, .slice B T.kids.length cb]] w (SaysB (ShapeOk T) w) := by
  have CN := Lib.hid S.cn
  have HS := Lib.hid hs
  have HR := Lib.hid hr
  have HM := Lib.hid hm
  have hll := S.ll
  have hkl := S.kl
  have hl' : (0 : Int) < (T.labels.length : Int) := by omega
  have hlN : 0 < T.labels.length := hl
  have HH : Hid (¬ ShapeOk T) := Lib.hid (fun h => by have h1 := h.1.2.2.2 (by unfold IsLab; omega); omega)
  rw [name_nil hn]
  clear S hs hr hm
  first | clear hk | skip
  first | clear hn | skip
  first | clear hl | skip
  go_enter Tryz.func153, Tryz.ntmps153
  go_wp2
  go_ret
  exact ⟨false, (by first | rfl | exact ret_bool (by assumption)), iffF HH.out, below1 _ _⟩

set_option maxRecDepth 100000 in
theorem an_one_len12 {T : Ty} {A B : Option Addr} {ca cb lo : Nat} (S : IF T A B ca cb lo) (w : World) (hs : Strs w lo T.labels A) (hr : Ty.RowAt w lo T.kids B) (hm : MaxC w) (hk : T.kind = 12) (hn : T.name.size = 0) (hl : T.labels.length = 0) (hq : T.kids.length ≠ 1) :
    Calls Tryz.prog 153 #[.agg #[.int .i64 T.kind, .string T.name, .slice A T.labels.length ca, .slice B T.kids.length cb]] w (SaysB (ShapeOk T) w) := by
  have CN := Lib.hid S.cn
  have HS := Lib.hid hs
  have HR := Lib.hid hr
  have HM := Lib.hid hm
  have hll := S.ll
  have hkl := S.kl
  have HH : Hid (¬ ShapeOk T) := Lib.hid (fun h => by have h1 := h.2; unfold BodyOk at h1; simp only [hk] at h1; exact hq h1.1)
  have e1 : ((T.kids.length : Int) == 1) = false := by rw [beq_eq_false_iff_ne]; omega
  rw [hk]
  rw [name_nil hn]
  rw [hl]
  clear S hs hr hm
  first | clear hk | skip
  first | clear hn | skip
  first | clear hl | skip
  first | clear hq | skip
  go_enter Tryz.func153, Tryz.ntmps153
  go_wp2
  go_ret
  exact ⟨false, (by first | rfl | exact ret_bool (by assumption)), iffF HH.out, below1 _ _⟩

set_option maxRecDepth 100000 in
theorem an_one_yes12 {T : Ty} {A B : Option Addr} {ca cb lo : Nat} (S : IF T A B ca cb lo) (w : World) (hs : Strs w lo T.labels A) (hr : Ty.RowAt w lo T.kids B) (hm : MaxC w) (hk : T.kind = 12) (hn : T.name.size = 0) (hl : T.labels.length = 0) (hq : T.kids.length = 1) (hu : UnitIn T.kids T.kids.length) :
    Calls Tryz.prog 153 #[.agg #[.int .i64 T.kind, .string T.name, .slice A T.labels.length ca, .slice B T.kids.length cb]] w (SaysB (ShapeOk T) w) := by
  have CN := Lib.hid S.cn
  have HS := Lib.hid hs
  have HR := Lib.hid hr
  have HM := Lib.hid hm
  have hll := S.ll
  have hkl := S.kl
  obtain ⟨b, o, t, A', B', ca', cb', rfl, _, htk, hc⟩ := (hr.below (below1 w (.cells #[.int .i64 12, .string ⟨#[]⟩, .slice A 0 ca, .slice B T.kids.length cb] 104))).at_ (k := 0) (by omega)
  have hu1 : t.kind = 1 := by obtain ⟨i, t', hi, ht', h1⟩ := hu; obtain rfl : i = 0 := (by omega); rw [htk] at ht'; cases ht'; exact h1
  have HH : Hid (¬ ShapeOk T) := Lib.hid (fun h => by have h1 := h.2; unfold BodyOk at h1; simp only [hk] at h1; exact h1.2 hu)
  have CK := Lib.hid (fun W => isUnit_any t.kind t.name A' B' t.labels.length t.kids.length ca' cb' W)
  rw [show (t.kind == 1) = true by rw [beq_iff_eq]; exact hu1] at CK
  obtain ⟨c0, c1, c2, c3, _⟩ := hc
  have e2 : (0 : Int) < (T.kids.length : Int) := by omega
  rw [Nat.zero_mul, Nat.add_zero] at c0 c1 c2 c3
  have e1 : ((T.kids.length : Int) == 1) = true := by rw [beq_iff_eq]; omega
  clear hu1 htk
  rw [hk]
  rw [name_nil hn]
  rw [hl]
  clear S hs hr hm
  first | clear hk | skip
  first | clear hn | skip
  first | clear hl | skip
  first | clear hq | skip
  first | clear hu | skip
  go_enter Tryz.func153, Tryz.ntmps153
  go_wp2_with (first | (go_at_call 56; (with_reducible refine (CK.out _).mono ?_); rintro e w7 ⟨rfl, hb7⟩; have HB7 := Lib.hid (bnext (below1 _ _) hb7); clear hb7))
  go_ret
  exact ⟨false, (by first | rfl | exact ret_bool (by assumption)), iffF HH.out, HB7.out⟩

set_option maxRecDepth 100000 in
theorem an_one_no12 {T : Ty} {A B : Option Addr} {ca cb lo : Nat} (S : IF T A B ca cb lo) (w : World) (hs : Strs w lo T.labels A) (hr : Ty.RowAt w lo T.kids B) (hm : MaxC w) (hk : T.kind = 12) (hn : T.name.size = 0) (hl : T.labels.length = 0) (hq : T.kids.length = 1) (hu : ¬ UnitIn T.kids T.kids.length) :
    Calls Tryz.prog 153 #[.agg #[.int .i64 T.kind, .string T.name, .slice A T.labels.length ca, .slice B T.kids.length cb]] w (SaysB (ShapeOk T) w) := by
  have CN := Lib.hid S.cn
  have HS := Lib.hid hs
  have HR := Lib.hid hr
  have HM := Lib.hid hm
  have hll := S.ll
  have hkl := S.kl
  obtain ⟨b, o, t, A', B', ca', cb', rfl, _, htk, hc⟩ := (hr.below (below1 w (.cells #[.int .i64 12, .string ⟨#[]⟩, .slice A 0 ca, .slice B T.kids.length cb] 104))).at_ (k := 0) (by omega)
  have hu1 : t.kind ≠ 1 := fun h => hu ⟨0, t, by omega, htk, h⟩
  have HH : Hid (ShapeOk T) := Lib.hid ⟨⟨fun h => by rw [hk] at h; unfold IsRes at h; omega, fun _ => hn, fun h => by rw [hk] at h; unfold IsLab at h; omega, fun _ => hl⟩, by unfold BodyOk; simp only [hk]; exact ⟨hq, hu⟩⟩
  have CK := Lib.hid (fun W => isUnit_any t.kind t.name A' B' t.labels.length t.kids.length ca' cb' W)
  rw [show (t.kind == 1) = false by rw [beq_eq_false_iff_ne]; exact hu1] at CK
  obtain ⟨c0, c1, c2, c3, _⟩ := hc
  have e2 : (0 : Int) < (T.kids.length : Int) := by omega
  rw [Nat.zero_mul, Nat.add_zero] at c0 c1 c2 c3
  have e1 : ((T.kids.length : Int) == 1) = true := by rw [beq_iff_eq]; omega
  clear hu1 htk
  rw [hk]
  rw [name_nil hn]
  rw [hl]
  clear S hs hr hm
  first | clear hk | skip
  first | clear hn | skip
  first | clear hl | skip
  first | clear hq | skip
  first | clear hu | skip
  go_enter Tryz.func153, Tryz.ntmps153
  go_wp2_with (first | (go_at_call 56; (with_reducible refine (CK.out _).mono ?_); rintro e w7 ⟨rfl, hb7⟩; have HB7 := Lib.hid (bnext (below1 _ _) hb7); clear hb7))
  go_ret
  exact ⟨true, (by first | rfl | exact ret_bool (by assumption)), iffT HH.out, HB7.out⟩

set_option maxRecDepth 100000 in
theorem an_one_len13 {T : Ty} {A B : Option Addr} {ca cb lo : Nat} (S : IF T A B ca cb lo) (w : World) (hs : Strs w lo T.labels A) (hr : Ty.RowAt w lo T.kids B) (hm : MaxC w) (hk : T.kind = 13) (hn : T.name.size = 0) (hl : T.labels.length = 0) (hq : T.kids.length ≠ 1) :
    Calls Tryz.prog 153 #[.agg #[.int .i64 T.kind, .string T.name, .slice A T.labels.length ca, .slice B T.kids.length cb]] w (SaysB (ShapeOk T) w) := by
  have CN := Lib.hid S.cn
  have HS := Lib.hid hs
  have HR := Lib.hid hr
  have HM := Lib.hid hm
  have hll := S.ll
  have hkl := S.kl
  have HH : Hid (¬ ShapeOk T) := Lib.hid (fun h => by have h1 := h.2; unfold BodyOk at h1; simp only [hk] at h1; exact hq h1.1)
  have e1 : ((T.kids.length : Int) == 1) = false := by rw [beq_eq_false_iff_ne]; omega
  rw [hk]
  rw [name_nil hn]
  rw [hl]
  clear S hs hr hm
  first | clear hk | skip
  first | clear hn | skip
  first | clear hl | skip
  first | clear hq | skip
  go_enter Tryz.func153, Tryz.ntmps153
  go_wp2
  go_ret
  exact ⟨false, (by first | rfl | exact ret_bool (by assumption)), iffF HH.out, below1 _ _⟩

set_option maxRecDepth 100000 in
theorem an_one_yes13 {T : Ty} {A B : Option Addr} {ca cb lo : Nat} (S : IF T A B ca cb lo) (w : World) (hs : Strs w lo T.labels A) (hr : Ty.RowAt w lo T.kids B) (hm : MaxC w) (hk : T.kind = 13) (hn : T.name.size = 0) (hl : T.labels.length = 0) (hq : T.kids.length = 1) (hu : UnitIn T.kids T.kids.length) :
    Calls Tryz.prog 153 #[.agg #[.int .i64 T.kind, .string T.name, .slice A T.labels.length ca, .slice B T.kids.length cb]] w (SaysB (ShapeOk T) w) := by
  have CN := Lib.hid S.cn
  have HS := Lib.hid hs
  have HR := Lib.hid hr
  have HM := Lib.hid hm
  have hll := S.ll
  have hkl := S.kl
  obtain ⟨b, o, t, A', B', ca', cb', rfl, _, htk, hc⟩ := (hr.below (below1 w (.cells #[.int .i64 13, .string ⟨#[]⟩, .slice A 0 ca, .slice B T.kids.length cb] 104))).at_ (k := 0) (by omega)
  have hu1 : t.kind = 1 := by obtain ⟨i, t', hi, ht', h1⟩ := hu; obtain rfl : i = 0 := (by omega); rw [htk] at ht'; cases ht'; exact h1
  have HH : Hid (¬ ShapeOk T) := Lib.hid (fun h => by have h1 := h.2; unfold BodyOk at h1; simp only [hk] at h1; exact h1.2 hu)
  have CK := Lib.hid (fun W => isUnit_any t.kind t.name A' B' t.labels.length t.kids.length ca' cb' W)
  rw [show (t.kind == 1) = true by rw [beq_iff_eq]; exact hu1] at CK
  obtain ⟨c0, c1, c2, c3, _⟩ := hc
  have e2 : (0 : Int) < (T.kids.length : Int) := by omega
  rw [Nat.zero_mul, Nat.add_zero] at c0 c1 c2 c3
  have e1 : ((T.kids.length : Int) == 1) = true := by rw [beq_iff_eq]; omega
  clear hu1 htk
  rw [hk]
  rw [name_nil hn]
  rw [hl]
  clear S hs hr hm
  first | clear hk | skip
  first | clear hn | skip
  first | clear hl | skip
  first | clear hq | skip
  first | clear hu | skip
  go_enter Tryz.func153, Tryz.ntmps153
  go_wp2_with (first | (go_at_call 56; (with_reducible refine (CK.out _).mono ?_); rintro e w7 ⟨rfl, hb7⟩; have HB7 := Lib.hid (bnext (below1 _ _) hb7); clear hb7))
  go_ret
  exact ⟨false, (by first | rfl | exact ret_bool (by assumption)), iffF HH.out, HB7.out⟩

set_option maxRecDepth 100000 in
theorem an_one_no13 {T : Ty} {A B : Option Addr} {ca cb lo : Nat} (S : IF T A B ca cb lo) (w : World) (hs : Strs w lo T.labels A) (hr : Ty.RowAt w lo T.kids B) (hm : MaxC w) (hk : T.kind = 13) (hn : T.name.size = 0) (hl : T.labels.length = 0) (hq : T.kids.length = 1) (hu : ¬ UnitIn T.kids T.kids.length) :
    Calls Tryz.prog 153 #[.agg #[.int .i64 T.kind, .string T.name, .slice A T.labels.length ca, .slice B T.kids.length cb]] w (SaysB (ShapeOk T) w) := by
  have CN := Lib.hid S.cn
  have HS := Lib.hid hs
  have HR := Lib.hid hr
  have HM := Lib.hid hm
  have hll := S.ll
  have hkl := S.kl
  obtain ⟨b, o, t, A', B', ca', cb', rfl, _, htk, hc⟩ := (hr.below (below1 w (.cells #[.int .i64 13, .string ⟨#[]⟩, .slice A 0 ca, .slice B T.kids.length cb] 104))).at_ (k := 0) (by omega)
  have hu1 : t.kind ≠ 1 := fun h => hu ⟨0, t, by omega, htk, h⟩
  have HH : Hid (ShapeOk T) := Lib.hid ⟨⟨fun h => by rw [hk] at h; unfold IsRes at h; omega, fun _ => hn, fun h => by rw [hk] at h; unfold IsLab at h; omega, fun _ => hl⟩, by unfold BodyOk; simp only [hk]; exact ⟨hq, hu⟩⟩
  have CK := Lib.hid (fun W => isUnit_any t.kind t.name A' B' t.labels.length t.kids.length ca' cb' W)
  rw [show (t.kind == 1) = false by rw [beq_eq_false_iff_ne]; exact hu1] at CK
  obtain ⟨c0, c1, c2, c3, _⟩ := hc
  have e2 : (0 : Int) < (T.kids.length : Int) := by omega
  rw [Nat.zero_mul, Nat.add_zero] at c0 c1 c2 c3
  have e1 : ((T.kids.length : Int) == 1) = true := by rw [beq_iff_eq]; omega
  clear hu1 htk
  rw [hk]
  rw [name_nil hn]
  rw [hl]
  clear S hs hr hm
  first | clear hk | skip
  first | clear hn | skip
  first | clear hl | skip
  first | clear hq | skip
  first | clear hu | skip
  go_enter Tryz.func153, Tryz.ntmps153
  go_wp2_with (first | (go_at_call 56; (with_reducible refine (CK.out _).mono ?_); rintro e w7 ⟨rfl, hb7⟩; have HB7 := Lib.hid (bnext (below1 _ _) hb7); clear hb7))
  go_ret
  exact ⟨true, (by first | rfl | exact ret_bool (by assumption)), iffT HH.out, HB7.out⟩

set_option maxRecDepth 100000 in
theorem an_str_len22 {T : Ty} {A B : Option Addr} {ca cb lo : Nat} (S : IF T A B ca cb lo) (w : World) (hs : Strs w lo T.labels A) (hr : Ty.RowAt w lo T.kids B) (hm : MaxC w) (hk : T.kind = 22) (hn : T.name.size = 0) (hl : T.labels.length = 0) (hq : T.kids.length ≠ 1) :
    Calls Tryz.prog 153 #[.agg #[.int .i64 T.kind, .string T.name, .slice A T.labels.length ca, .slice B T.kids.length cb]] w (SaysB (ShapeOk T) w) := by
  have CN := Lib.hid S.cn
  have HS := Lib.hid hs
  have HR := Lib.hid hr
  have HM := Lib.hid hm
  have hll := S.ll
  have hkl := S.kl
  have HH : Hid (¬ ShapeOk T) := Lib.hid (fun h => by have h1 := h.2; unfold BodyOk at h1; simp only [hk] at h1; exact hq h1.1)
  have e1 : ((T.kids.length : Int) == 1) = false := by rw [beq_eq_false_iff_ne]; omega
  rw [hk]
  rw [name_nil hn]
  rw [hl]
  clear S hs hr hm
  first | clear hk | skip
  first | clear hn | skip
  first | clear hl | skip
  first | clear hq | skip
  go_enter Tryz.func153, Tryz.ntmps153
  go_wp2
  go_ret
  exact ⟨false, (by first | rfl | exact ret_bool (by assumption)), iffF HH.out, below1 _ _⟩

set_option maxRecDepth 100000 in
theorem an_str_true22 {T : Ty} {A B : Option Addr} {ca cb lo : Nat} (S : IF T A B ca cb lo) (w : World) (hs : Strs w lo T.labels A) (hr : Ty.RowAt w lo T.kids B) (hm : MaxC w) (hk : T.kind = 22) (hn : T.name.size = 0) (hl : T.labels.length = 0) (hq : T.kids.length = 1) (hv : ∀ t, T.kids[0]? = some t → t.has (inB 21 21) = true) :
    Calls Tryz.prog 153 #[.agg #[.int .i64 T.kind, .string T.name, .slice A T.labels.length ca, .slice B T.kids.length cb]] w (SaysB (ShapeOk T) w) := by
  have CN := Lib.hid S.cn
  have HS := Lib.hid hs
  have HR := Lib.hid hr
  have HM := Lib.hid hm
  have hll := S.ll
  have hkl := S.kl
  obtain ⟨b, o, t, A', B', ca', cb', rfl, _, htk, hc⟩ := (hr.below (below1 w (.cells #[.int .i64 22, .string ⟨#[]⟩, .slice A 0 ca, .slice B T.kids.length cb] 104))).at_ (k := 0) (by omega)
  have hv' := hv t htk
  have HH : Hid (¬ ShapeOk T) := Lib.hid (fun h => by have h1 := h.2; unfold BodyOk at h1; simp only [hk] at h1; rw [h1.2 t htk] at hv'; cases hv')
  have CH := S.ch t htk A' B' ca' cb' lo _ hc.tree
  rw [hv'] at CH
  have CH := Lib.hid CH
  obtain ⟨c0, c1, c2, c3, _⟩ := hc
  have e2 : (0 : Int) < (T.kids.length : Int) := by omega
  rw [Nat.zero_mul, Nat.add_zero] at c0 c1 c2 c3
  have e1 : ((T.kids.length : Int) == 1) = true := by rw [beq_iff_eq]; omega
  clear hv' htk
  rw [hk]
  rw [name_nil hn]
  rw [hl]
  clear S hs hr hm
  first | clear hk | skip
  first | clear hn | skip
  first | clear hl | skip
  first | clear hq | skip
  first | clear hv | skip
  go_enter Tryz.func153, Tryz.ntmps153
  go_wp2_with (first | (go_at_call 80; (with_reducible refine CH.out.mono ?_); rintro e w6 ⟨rfl, hb6⟩; have HB6 := Lib.hid (bnext (below1 _ _) hb6); clear hb6))
  go_ret
  exact ⟨false, (by first | rfl | exact ret_bool (by assumption)), iffF HH.out, HB6.out⟩

set_option maxRecDepth 100000 in
theorem an_str_false22 {T : Ty} {A B : Option Addr} {ca cb lo : Nat} (S : IF T A B ca cb lo) (w : World) (hs : Strs w lo T.labels A) (hr : Ty.RowAt w lo T.kids B) (hm : MaxC w) (hk : T.kind = 22) (hn : T.name.size = 0) (hl : T.labels.length = 0) (hq : T.kids.length = 1) (hv : ∀ t, T.kids[0]? = some t → t.has (inB 21 21) = false) :
    Calls Tryz.prog 153 #[.agg #[.int .i64 T.kind, .string T.name, .slice A T.labels.length ca, .slice B T.kids.length cb]] w (SaysB (ShapeOk T) w) := by
  have CN := Lib.hid S.cn
  have HS := Lib.hid hs
  have HR := Lib.hid hr
  have HM := Lib.hid hm
  have hll := S.ll
  have hkl := S.kl
  obtain ⟨b, o, t, A', B', ca', cb', rfl, _, htk, hc⟩ := (hr.below (below1 w (.cells #[.int .i64 22, .string ⟨#[]⟩, .slice A 0 ca, .slice B T.kids.length cb] 104))).at_ (k := 0) (by omega)
  have hv' := hv t htk
  have HH : Hid (ShapeOk T) := Lib.hid ⟨⟨fun h => by rw [hk] at h; unfold IsRes at h; omega, fun _ => hn, fun h => by rw [hk] at h; unfold IsLab at h; omega, fun _ => hl⟩, by unfold BodyOk; simp only [hk]; exact ⟨hq, hv⟩⟩
  have CH := S.ch t htk A' B' ca' cb' lo _ hc.tree
  rw [hv'] at CH
  have CH := Lib.hid CH
  obtain ⟨c0, c1, c2, c3, _⟩ := hc
  have e2 : (0 : Int) < (T.kids.length : Int) := by omega
  rw [Nat.zero_mul, Nat.add_zero] at c0 c1 c2 c3
  have e1 : ((T.kids.length : Int) == 1) = true := by rw [beq_iff_eq]; omega
  clear hv' htk
  rw [hk]
  rw [name_nil hn]
  rw [hl]
  clear S hs hr hm
  first | clear hk | skip
  first | clear hn | skip
  first | clear hl | skip
  first | clear hq | skip
  first | clear hv | skip
  go_enter Tryz.func153, Tryz.ntmps153
  go_wp2_with (first | (go_at_call 80; (with_reducible refine CH.out.mono ?_); rintro e w6 ⟨rfl, hb6⟩; have HB6 := Lib.hid (bnext (below1 _ _) hb6); clear hb6))
  go_ret
  exact ⟨true, (by first | rfl | exact ret_bool (by assumption)), iffT HH.out, HB6.out⟩

set_option maxRecDepth 100000 in
theorem an_str_len23 {T : Ty} {A B : Option Addr} {ca cb lo : Nat} (S : IF T A B ca cb lo) (w : World) (hs : Strs w lo T.labels A) (hr : Ty.RowAt w lo T.kids B) (hm : MaxC w) (hk : T.kind = 23) (hn : T.name.size = 0) (hl : T.labels.length = 0) (hq : T.kids.length ≠ 1) :
    Calls Tryz.prog 153 #[.agg #[.int .i64 T.kind, .string T.name, .slice A T.labels.length ca, .slice B T.kids.length cb]] w (SaysB (ShapeOk T) w) := by
  have CN := Lib.hid S.cn
  have HS := Lib.hid hs
  have HR := Lib.hid hr
  have HM := Lib.hid hm
  have hll := S.ll
  have hkl := S.kl
  have HH : Hid (¬ ShapeOk T) := Lib.hid (fun h => by have h1 := h.2; unfold BodyOk at h1; simp only [hk] at h1; exact hq h1.1)
  have e1 : ((T.kids.length : Int) == 1) = false := by rw [beq_eq_false_iff_ne]; omega
  rw [hk]
  rw [name_nil hn]
  rw [hl]
  clear S hs hr hm
  first | clear hk | skip
  first | clear hn | skip
  first | clear hl | skip
  first | clear hq | skip
  go_enter Tryz.func153, Tryz.ntmps153
  go_wp2
  go_ret
  exact ⟨false, (by first | rfl | exact ret_bool (by assumption)), iffF HH.out, below1 _ _⟩

set_option maxRecDepth 100000 in
theorem an_str_true23 {T : Ty} {A B : Option Addr} {ca cb lo : Nat} (S : IF T A B ca cb lo) (w : World) (hs : Strs w lo T.labels A) (hr : Ty.RowAt w lo T.kids B) (hm : MaxC w) (hk : T.kind = 23) (hn : T.name.size = 0) (hl : T.labels.length = 0) (hq : T.kids.length = 1) (hv : ∀ t, T.kids[0]? = some t → t.has (inB 21 21) = true) :
    Calls Tryz.prog 153 #[.agg #[.int .i64 T.kind, .string T.name, .slice A T.labels.length ca, .slice B T.kids.length cb]] w (SaysB (ShapeOk T) w) := by
  have CN := Lib.hid S.cn
  have HS := Lib.hid hs
  have HR := Lib.hid hr
  have HM := Lib.hid hm
  have hll := S.ll
  have hkl := S.kl
  obtain ⟨b, o, t, A', B', ca', cb', rfl, _, htk, hc⟩ := (hr.below (below1 w (.cells #[.int .i64 23, .string ⟨#[]⟩, .slice A 0 ca, .slice B T.kids.length cb] 104))).at_ (k := 0) (by omega)
  have hv' := hv t htk
  have HH : Hid (¬ ShapeOk T) := Lib.hid (fun h => by have h1 := h.2; unfold BodyOk at h1; simp only [hk] at h1; rw [h1.2 t htk] at hv'; cases hv')
  have CH := S.ch t htk A' B' ca' cb' lo _ hc.tree
  rw [hv'] at CH
  have CH := Lib.hid CH
  obtain ⟨c0, c1, c2, c3, _⟩ := hc
  have e2 : (0 : Int) < (T.kids.length : Int) := by omega
  rw [Nat.zero_mul, Nat.add_zero] at c0 c1 c2 c3
  have e1 : ((T.kids.length : Int) == 1) = true := by rw [beq_iff_eq]; omega
  clear hv' htk
  rw [hk]
  rw [name_nil hn]
  rw [hl]
  clear S hs hr hm
  first | clear hk | skip
  first | clear hn | skip
  first | clear hl | skip
  first | clear hq | skip
  first | clear hv | skip
  go_enter Tryz.func153, Tryz.ntmps153
  go_wp2_with (first | (go_at_call 80; (with_reducible refine CH.out.mono ?_); rintro e w6 ⟨rfl, hb6⟩; have HB6 := Lib.hid (bnext (below1 _ _) hb6); clear hb6))
  go_ret
  exact ⟨false, (by first | rfl | exact ret_bool (by assumption)), iffF HH.out, HB6.out⟩

set_option maxRecDepth 100000 in
theorem an_str_false23 {T : Ty} {A B : Option Addr} {ca cb lo : Nat} (S : IF T A B ca cb lo) (w : World) (hs : Strs w lo T.labels A) (hr : Ty.RowAt w lo T.kids B) (hm : MaxC w) (hk : T.kind = 23) (hn : T.name.size = 0) (hl : T.labels.length = 0) (hq : T.kids.length = 1) (hv : ∀ t, T.kids[0]? = some t → t.has (inB 21 21) = false) :
    Calls Tryz.prog 153 #[.agg #[.int .i64 T.kind, .string T.name, .slice A T.labels.length ca, .slice B T.kids.length cb]] w (SaysB (ShapeOk T) w) := by
  have CN := Lib.hid S.cn
  have HS := Lib.hid hs
  have HR := Lib.hid hr
  have HM := Lib.hid hm
  have hll := S.ll
  have hkl := S.kl
  obtain ⟨b, o, t, A', B', ca', cb', rfl, _, htk, hc⟩ := (hr.below (below1 w (.cells #[.int .i64 23, .string ⟨#[]⟩, .slice A 0 ca, .slice B T.kids.length cb] 104))).at_ (k := 0) (by omega)
  have hv' := hv t htk
  have HH : Hid (ShapeOk T) := Lib.hid ⟨⟨fun h => by rw [hk] at h; unfold IsRes at h; omega, fun _ => hn, fun h => by rw [hk] at h; unfold IsLab at h; omega, fun _ => hl⟩, by unfold BodyOk; simp only [hk]; exact ⟨hq, hv⟩⟩
  have CH := S.ch t htk A' B' ca' cb' lo _ hc.tree
  rw [hv'] at CH
  have CH := Lib.hid CH
  obtain ⟨c0, c1, c2, c3, _⟩ := hc
  have e2 : (0 : Int) < (T.kids.length : Int) := by omega
  rw [Nat.zero_mul, Nat.add_zero] at c0 c1 c2 c3
  have e1 : ((T.kids.length : Int) == 1) = true := by rw [beq_iff_eq]; omega
  clear hv' htk
  rw [hk]
  rw [name_nil hn]
  rw [hl]
  clear S hs hr hm
  first | clear hk | skip
  first | clear hn | skip
  first | clear hl | skip
  first | clear hq | skip
  first | clear hv | skip
  go_enter Tryz.func153, Tryz.ntmps153
  go_wp2_with (first | (go_at_call 80; (with_reducible refine CH.out.mono ?_); rintro e w6 ⟨rfl, hb6⟩; have HB6 := Lib.hid (bnext (below1 _ _) hb6); clear hb6))
  go_ret
  exact ⟨true, (by first | rfl | exact ret_bool (by assumption)), iffT HH.out, HB6.out⟩

set_option maxRecDepth 100000 in
theorem an_two_no {T : Ty} {A B : Option Addr} {ca cb lo : Nat} (S : IF T A B ca cb lo) (w : World) (hs : Strs w lo T.labels A) (hr : Ty.RowAt w lo T.kids B) (hm : MaxC w) (hk : T.kind = 14) (hn : T.name.size = 0) (hl : T.labels.length = 0) (hq : T.kids.length ≠ 2) :
    Calls Tryz.prog 153 #[.agg #[.int .i64 T.kind, .string T.name, .slice A T.labels.length ca, .slice B T.kids.length cb]] w (SaysB (ShapeOk T) w) := by
  have CN := Lib.hid S.cn
  have HS := Lib.hid hs
  have HR := Lib.hid hr
  have HM := Lib.hid hm
  have hll := S.ll
  have hkl := S.kl
  have HH : Hid (¬ ShapeOk T) := Lib.hid (fun h => by have h1 := h.2; unfold BodyOk at h1; simp only [hk] at h1; exact hq h1)
  have e1 : ((T.kids.length : Int) == 2) = false := by rw [beq_eq_false_iff_ne]; omega
  rw [hk]
  rw [name_nil hn]
  rw [hl]
  clear S hs hr hm
  first | clear hk | skip
  first | clear hn | skip
  first | clear hl | skip
  first | clear hq | skip
  go_enter Tryz.func153, Tryz.ntmps153
  go_wp2
  go_ret
  exact ⟨false, (by first | rfl | exact ret_bool (by assumption)), iffF HH.out, below1 _ _⟩

set_option maxRecDepth 100000 in
theorem an_two_yes {T : Ty} {A B : Option Addr} {ca cb lo : Nat} (S : IF T A B ca cb lo) (w : World) (hs : Strs w lo T.labels A) (hr : Ty.RowAt w lo T.kids B) (hm : MaxC w) (hk : T.kind = 14) (hn : T.name.size = 0) (hl : T.labels.length = 0) (hq : T.kids.length = 2) :
    Calls Tryz.prog 153 #[.agg #[.int .i64 T.kind, .string T.name, .slice A T.labels.length ca, .slice B T.kids.length cb]] w (SaysB (ShapeOk T) w) := by
  have CN := Lib.hid S.cn
  have HS := Lib.hid hs
  have HR := Lib.hid hr
  have HM := Lib.hid hm
  have hll := S.ll
  have hkl := S.kl
  have HH : Hid (ShapeOk T) := Lib.hid ⟨⟨fun h => by rw [hk] at h; unfold IsRes at h; omega, fun _ => hn, fun h => by rw [hk] at h; unfold IsLab at h; omega, fun _ => hl⟩, by unfold BodyOk; simp only [hk]; exact hq⟩
  have e1 : ((T.kids.length : Int) == 2) = true := by rw [beq_iff_eq]; omega
  rw [hk]
  rw [name_nil hn]
  rw [hl]
  clear S hs hr hm
  first | clear hk | skip
  first | clear hn | skip
  first | clear hl | skip
  first | clear hq | skip
  go_enter Tryz.func153, Tryz.ntmps153
  go_wp2
  go_ret
  exact ⟨true, (by first | rfl | exact ret_bool (by assumption)), iffT HH.out, below1 _ _⟩

set_option maxRecDepth 100000 in
theorem an_tup_low {T : Ty} {A B : Option Addr} {ca cb lo : Nat} (S : IF T A B ca cb lo) (w : World) (hs : Strs w lo T.labels A) (hr : Ty.RowAt w lo T.kids B) (hm : MaxC w) (hk : T.kind = 15) (hn : T.name.size = 0) (hl : T.labels.length = 0) (hq : T.kids.length < 1) :
    Calls Tryz.prog 153 #[.agg #[.int .i64 T.kind, .string T.name, .slice A T.labels.length ca, .slice B T.kids.length cb]] w (SaysB (ShapeOk T) w) := by
  have CN := Lib.hid S.cn
  have HS := Lib.hid hs
  have HR := Lib.hid hr
  have HM := Lib.hid hm
  have hll := S.ll
  have hkl := S.kl
  have HH : Hid (¬ ShapeOk T) := Lib.hid (fun h => by have h1 := h.2; unfold BodyOk at h1; simp only [hk] at h1; have h2 : 1 ≤ T.kids.length := h1.1.1; omega)
  have e1 : ¬ (1 : Int) ≤ (T.kids.length : Int) := by omega
  rw [hk]
  rw [name_nil hn]
  rw [hl]
  clear S hs hr hm
  first | clear hk | skip
  first | clear hn | skip
  first | clear hl | skip
  first | clear hq | skip
  go_enter Tryz.func153, Tryz.ntmps153
  go_wp2
  go_ret
  exact ⟨false, (by first | rfl | exact ret_bool (by assumption)), iffF HH.out, below1 _ _⟩

set_option maxRecDepth 100000 in
theorem an_tup_high {T : Ty} {A B : Option Addr} {ca cb lo : Nat} (S : IF T A B ca cb lo) (w : World) (hs : Strs w lo T.labels A) (hr : Ty.RowAt w lo T.kids B) (hm : MaxC w) (hk : T.kind = 15) (hn : T.name.size = 0) (hl : T.labels.length = 0) (hq : 6 < T.kids.length) :
    Calls Tryz.prog 153 #[.agg #[.int .i64 T.kind, .string T.name, .slice A T.labels.length ca, .slice B T.kids.length cb]] w (SaysB (ShapeOk T) w) := by
  have CN := Lib.hid S.cn
  have HS := Lib.hid hs
  have HR := Lib.hid hr
  have HM := Lib.hid hm
  have hll := S.ll
  have hkl := S.kl
  have HH : Hid (¬ ShapeOk T) := Lib.hid (fun h => by have h1 := h.2; unfold BodyOk at h1; simp only [hk] at h1; have h2 : T.kids.length ≤ 6 := h1.1.2; omega)
  have e1 : (1 : Int) ≤ (T.kids.length : Int) := by omega
  have e2 : ¬ (T.kids.length : Int) ≤ 6 := by omega
  rw [hk]
  rw [name_nil hn]
  rw [hl]
  clear S hs hr hm
  first | clear hk | skip
  first | clear hn | skip
  first | clear hl | skip
  first | clear hq | skip
  go_enter Tryz.func153, Tryz.ntmps153
  go_wp2
  go_ret
  exact ⟨false, (by first | rfl | exact ret_bool (by assumption)), iffF HH.out, below1 _ _⟩

set_option maxRecDepth 100000 in
theorem an_tup_yes {T : Ty} {A B : Option Addr} {ca cb lo : Nat} (S : IF T A B ca cb lo) (w : World) (hs : Strs w lo T.labels A) (hr : Ty.RowAt w lo T.kids B) (hm : MaxC w) (hk : T.kind = 15) (hn : T.name.size = 0) (hl : T.labels.length = 0) (hq : 1 ≤ T.kids.length) (hq2 : T.kids.length ≤ 6) (hu : UnitIn T.kids T.kids.length) :
    Calls Tryz.prog 153 #[.agg #[.int .i64 T.kind, .string T.name, .slice A T.labels.length ca, .slice B T.kids.length cb]] w (SaysB (ShapeOk T) w) := by
  have CN := Lib.hid S.cn
  have HS := Lib.hid hs
  have HR := Lib.hid hr
  have HM := Lib.hid hm
  have hll := S.ll
  have hkl := S.kl
  have HH : Hid (¬ ShapeOk T) := Lib.hid (fun h => by have h1 := h.2; unfold BodyOk at h1; simp only [hk] at h1; exact h1.2 hu)
  have e1 : (1 : Int) ≤ (T.kids.length : Int) := by omega
  have e2 : (T.kids.length : Int) ≤ 6 := by omega
  have CU : Hid (∀ W : World, Ty.RowAt W lo T.kids B → Calls Tryz.prog 154 #[.slice B T.kids.length cb, .func (.func 56) #[] #[]] W fun e w' => e = .returned (.bool true) ∧ Below W.heap.size W w') := Lib.hid (fun W h => (S.cu W h).mono fun _ _ k => k.yes hu)
  rw [hk]
  rw [name_nil hn]
  rw [hl]
  clear S hs hr hm
  first | clear hk | skip
  first | clear hn | skip
  first | clear hl | skip
  first | clear hq | skip
  first | clear hq2 | skip
  first | clear hu | skip
  go_enter Tryz.func153, Tryz.ntmps153
  go_wp2_with (first | (go_at_call 154; (with_reducible refine (CU.out _ (HR.out.below (below1 _ _))).mono ?_); rintro e w5 ⟨rfl, hb5⟩; have HB5 := Lib.hid (bnext (below1 _ _) hb5); clear hb5))
  go_ret
  exact ⟨false, (by first | rfl | exact ret_bool (by assumption)), iffF HH.out, HB5.out⟩

set_option maxRecDepth 100000 in
theorem an_tup_no {T : Ty} {A B : Option Addr} {ca cb lo : Nat} (S : IF T A B ca cb lo) (w : World) (hs : Strs w lo T.labels A) (hr : Ty.RowAt w lo T.kids B) (hm : MaxC w) (hk : T.kind = 15) (hn : T.name.size = 0) (hl : T.labels.length = 0) (hq : 1 ≤ T.kids.length) (hq2 : T.kids.length ≤ 6) (hu : ¬ UnitIn T.kids T.kids.length) :
    Calls Tryz.prog 153 #[.agg #[.int .i64 T.kind, .string T.name, .slice A T.labels.length ca, .slice B T.kids.length cb]] w (SaysB (ShapeOk T) w) := by
  have CN := Lib.hid S.cn
  have HS := Lib.hid hs
  have HR := Lib.hid hr
  have HM := Lib.hid hm
  have hll := S.ll
  have hkl := S.kl
  have HH : Hid (ShapeOk T) := Lib.hid ⟨⟨fun h => by rw [hk] at h; unfold IsRes at h; omega, fun _ => hn, fun h => by rw [hk] at h; unfold IsLab at h; omega, fun _ => hl⟩, by unfold BodyOk; simp only [hk]; exact ⟨⟨hq, hq2⟩, hu⟩⟩
  have e1 : (1 : Int) ≤ (T.kids.length : Int) := by omega
  have e2 : (T.kids.length : Int) ≤ 6 := by omega
  have CU : Hid (∀ W : World, Ty.RowAt W lo T.kids B → Calls Tryz.prog 154 #[.slice B T.kids.length cb, .func (.func 56) #[] #[]] W fun e w' => e = .returned (.bool false) ∧ Below W.heap.size W w') := Lib.hid (fun W h => (S.cu W h).mono fun _ _ k => k.no hu)
  rw [hk]
  rw [name_nil hn]
  rw [hl]
  clear S hs hr hm
  first | clear hk | skip
  first | clear hn | skip
  first | clear hl | skip
  first | clear hq | skip
  first | clear hq2 | skip
  first | clear hu | skip
  go_enter Tryz.func153, Tryz.ntmps153
  go_wp2_with (first | (go_at_call 154; (with_reducible refine (CU.out _ (HR.out.below (below1 _ _))).mono ?_); rintro e w5 ⟨rfl, hb5⟩; have HB5 := Lib.hid (bnext (below1 _ _) hb5); clear hb5))
  go_ret
  exact ⟨true, (by first | rfl | exact ret_bool (by assumption)), iffT HH.out, HB5.out⟩

set_option maxRecDepth 100000 in
theorem la_name {T : Ty} {A B : Option Addr} {ca cb lo : Nat} (S : IF T A B ca cb lo) (w : World) (hs : Strs w lo T.labels A) (hr : Ty.RowAt w lo T.kids B) (hm : MaxC w) (hk : IsLab T.kind) (hn : 0 < T.name.size) :
    Calls Tryz.prog 156 #[.agg #[.int .i64 T.kind, .string T.name, .slice A T.labels.length ca, .slice B T.kids.length cb]] w (SaysB (ShapeOk T) w) := by
  have CN := Lib.hid S.cn
  have HS := Lib.hid hs
  have HR := Lib.hid hr
  have HM := Lib.hid hm
  have hll := S.ll
  have hkl := S.kl
  have he := not_empty _ hn
  have HH : Hid (¬ ShapeOk T) := Lib.hid (fun h => by have h1 := h.1.2.1 (by unfold IsRes; unfold IsLab at hk; omega); omega)
  clear S hs hr hm
  first | clear hk | skip
  first | clear hn | skip
  go_enter Tryz.func156, Tryz.ntmps156
  go_wp2
  go_ret
  exact ⟨false, (by first | rfl | exact ret_bool (by assumption)), iffF HH.out, below1 _ _⟩

set_option maxRecDepth 100000 in
theorem la_none {T : Ty} {A B : Option Addr} {ca cb lo : Nat} (S : IF T A B ca cb lo) (w : World) (hs : Strs w lo T.labels A) (hr : Ty.RowAt w lo T.kids B) (hm : MaxC w) (hk : IsLab T.kind) (hn : T.name.size = 0) (hl : T.labels.length = 0) :
    Calls Tryz.prog 156 #[.agg #[.int .i64 T.kind, .string T.name, .slice A T.labels.length ca, .slice B T.kids.length cb]] w (SaysB (ShapeOk T) w) := by
  have CN := Lib.hid S.cn
  have HS := Lib.hid hs
  have HR := Lib.hid hr
  have HM := Lib.hid hm
  have hll := S.ll
  have hkl := S.kl
  have HH : Hid (¬ ShapeOk T) := Lib.hid (fun h => by have h1 := (h.1.2.2.1 hk).1; omega)
  rw [name_nil hn]
  rw [hl]
  clear S hs hr hm
  first | clear hk | skip
  first | clear hn | skip
  first | clear hl | skip
  go_enter Tryz.func156, Tryz.ntmps156
  go_wp2
  go_ret
  exact ⟨false, (by first | rfl | exact ret_bool (by assumption)), iffF HH.out, below1 _ _⟩

set_option maxRecDepth 100000 in
theorem la_many {T : Ty} {A B : Option Addr} {ca cb lo : Nat} (S : IF T A B ca cb lo) (w : World) (hs : Strs w lo T.labels A) (hr : Ty.RowAt w lo T.kids B) (hm : MaxC w) (hk : IsLab T.kind) (hn : T.name.size = 0) (hl : 16 < T.labels.length) :
    Calls Tryz.prog 156 #[.agg #[.int .i64 T.kind, .string T.name, .slice A T.labels.length ca, .slice B T.kids.length cb]] w (SaysB (ShapeOk T) w) := by
  have CN := Lib.hid S.cn
  have HS := Lib.hid hs
  have HR := Lib.hid hr
  have HM := Lib.hid hm
  have hll := S.ll
  have hkl := S.kl
  have e0 : ((T.labels.length : Int) == 0) = false := by rw [beq_eq_false_iff_ne]; omega
  have e3 : (16 : Int) < (T.labels.length : Int) := by omega
  have hlN : 16 < T.labels.length := hl
  have HH : Hid (¬ ShapeOk T) := Lib.hid (fun h => by have h1 := (h.1.2.2.1 hk).2.1; omega)
  rw [name_nil hn]
  clear S hs hr hm
  first | clear hk | skip
  first | clear hn | skip
  first | clear hl | skip
  go_enter Tryz.func156, Tryz.ntmps156
  go_wp2
  go_ret
  exact ⟨false, (by first | rfl | exact ret_bool (by assumption)), iffF HH.out, below1 _ _⟩

set_option maxRecDepth 100000 in
theorem la_bad {T : Ty} {A B : Option Addr} {ca cb lo : Nat} (S : IF T A B ca cb lo) (w : World) (hs : Strs w lo T.labels A) (hr : Ty.RowAt w lo T.kids B) (hm : MaxC w) (hk : IsLab T.kind) (hn : T.name.size = 0) (hl : 1 ≤ T.labels.length ∧ T.labels.length ≤ 16) (hb : ¬ Names T.labels) :
    Calls Tryz.prog 156 #[.agg #[.int .i64 T.kind, .string T.name, .slice A T.labels.length ca, .slice B T.kids.length cb]] w (SaysB (ShapeOk T) w) := by
  have CN := Lib.hid S.cn
  have HS := Lib.hid hs
  have HR := Lib.hid hr
  have HM := Lib.hid hm
  have hll := S.ll
  have hkl := S.kl
  have e0 : ((T.labels.length : Int) == 0) = false := by rw [beq_eq_false_iff_ne]; omega
  have e3 : ¬ (16 : Int) < (T.labels.length : Int) := by omega
  have hlN : T.labels.length ≤ 16 := by omega
  have hlP : 1 ≤ T.labels.length := by omega
  have HH : Hid (¬ ShapeOk T) := Lib.hid (fun h => hb (h.1.2.2.1 hk).2.2)
  have CL : Hid (∀ W : World, Strs W lo T.labels A → MaxC W → Calls Tryz.prog 57 #[.slice A T.labels.length ca] W fun e w' => e = .returned (.bool false) ∧ Below W.heap.size W w') := Lib.hid (fun W h hm => (S.cl W h hm).mono fun _ _ k => k.no hb)
  rw [name_nil hn]
  clear S hs hr hm
  first | clear hk | skip
  first | clear hn | skip
  first | clear hl | skip
  first | clear hb | skip
  go_enter Tryz.func156, Tryz.ntmps156
  go_wp2_with (first | (go_at_call 57; (with_reducible refine (CL.out _ (HS.out.below (below1 _ _)) (HM.out.keep (below1 _ _))).mono ?_); rintro e w4 ⟨rfl, hb4⟩; obtain ⟨hc4, hf4⟩ := bcell hb4; have hz4 : w.heap.size < w4.heap.size := (by have h9 := hb4.size; simp at h9; omega); have HB4 := Lib.hid (bnext (below1 _ _) hb4); clear hb4))
  go_ret
  exact ⟨false, (by first | rfl | exact ret_bool (by assumption)), iffF HH.out, HB4.out⟩

set_option maxRecDepth 100000 in
theorem la_rec_len {T : Ty} {A B : Option Addr} {ca cb lo : Nat} (S : IF T A B ca cb lo) (w : World) (hs : Strs w lo T.labels A) (hr : Ty.RowAt w lo T.kids B) (hm : MaxC w) (hk : T.kind = 16) (hn : T.name.size = 0) (hl : 1 ≤ T.labels.length ∧ T.labels.length ≤ 16) (hb : Names T.labels) (hq : T.kids.length ≠ T.labels.length) :
    Calls Tryz.prog 156 #[.agg #[.int .i64 T.kind, .string T.name, .slice A T.labels.length ca, .slice B T.kids.length cb]] w (SaysB (ShapeOk T) w) := by
  have CN := Lib.hid S.cn
  have HS := Lib.hid hs
  have HR := Lib.hid hr
  have HM := Lib.hid hm
  have hll := S.ll
  have hkl := S.kl
  have e0 : ((T.labels.length : Int) == 0) = false := by rw [beq_eq_false_iff_ne]; omega
  have e3 : ¬ (16 : Int) < (T.labels.length : Int) := by omega
  have hlN : T.labels.length ≤ 16 := by omega
  have hlP : 1 ≤ T.labels.length := by omega
  have CL : Hid (∀ W : World, Strs W lo T.labels A → MaxC W → Calls Tryz.prog 57 #[.slice A T.labels.length ca] W fun e w' => e = .returned (.bool true) ∧ Below W.heap.size W w') := Lib.hid (fun W h hm => (S.cl W h hm).mono fun _ _ k => k.yes hb)
  have HH : Hid (¬ ShapeOk T) := Lib.hid (fun h => by have h1 := h.2; unfold BodyOk at h1; simp only [hk] at h1; exact hq h1.1)
  have e1 : ((T.kids.length : Int) == (T.labels.length : Int)) = false := by rw [beq_eq_false_iff_ne]; omega
  rw [hk]
  rw [name_nil hn]
  clear S hs hr hm
  first | clear hk | skip
  first | clear hn | skip
  first | clear hl | skip
  first | clear hb | skip
  first | clear hq | skip
  go_enter Tryz.func156, Tryz.ntmps156
  go_wp2_with (first | (go_at_call 57; (with_reducible refine (CL.out _ (HS.out.below (below1 _ _)) (HM.out.keep (below1 _ _))).mono ?_); rintro e w4 ⟨rfl, hb4⟩; obtain ⟨hc4, hf4⟩ := bcell hb4; have hz4 : w.heap.size < w4.heap.size := (by have h9 := hb4.size; simp at h9; omega); have HB4 := Lib.hid (bnext (below1 _ _) hb4); clear hb4))
  go_ret
  exact ⟨false, (by first | rfl | exact ret_bool (by assumption)), iffF HH.out, HB4.out⟩

set_option maxRecDepth 100000 in
theorem la_rec_yes {T : Ty} {A B : Option Addr} {ca cb lo : Nat} (S : IF T A B ca cb lo) (w : World) (hs : Strs w lo T.labels A) (hr : Ty.RowAt w lo T.kids B) (hm : MaxC w) (hk : T.kind = 16) (hn : T.name.size = 0) (hl : 1 ≤ T.labels.length ∧ T.labels.length ≤ 16) (hb : Names T.labels) (hq : T.kids.length = T.labels.length) (hu : UnitIn T.kids T.kids.length) :
    Calls Tryz.prog 156 #[.agg #[.int .i64 T.kind, .string T.name, .slice A T.labels.length ca, .slice B T.kids.length cb]] w (SaysB (ShapeOk T) w) := by
  have CN := Lib.hid S.cn
  have HS := Lib.hid hs
  have HR := Lib.hid hr
  have HM := Lib.hid hm
  have hll := S.ll
  have hkl := S.kl
  have e0 : ((T.labels.length : Int) == 0) = false := by rw [beq_eq_false_iff_ne]; omega
  have e3 : ¬ (16 : Int) < (T.labels.length : Int) := by omega
  have hlN : T.labels.length ≤ 16 := by omega
  have hlP : 1 ≤ T.labels.length := by omega
  have CL : Hid (∀ W : World, Strs W lo T.labels A → MaxC W → Calls Tryz.prog 57 #[.slice A T.labels.length ca] W fun e w' => e = .returned (.bool true) ∧ Below W.heap.size W w') := Lib.hid (fun W h hm => (S.cl W h hm).mono fun _ _ k => k.yes hb)
  have HH : Hid (¬ ShapeOk T) := Lib.hid (fun h => by have h1 := h.2; unfold BodyOk at h1; simp only [hk] at h1; exact h1.2 hu)
  have e1 : ((T.kids.length : Int) == (T.labels.length : Int)) = true := by rw [beq_iff_eq]; omega
  have CU : Hid (∀ W : World, Ty.RowAt W lo T.kids B → Calls Tryz.prog 154 #[.slice B T.kids.length cb, .func (.func 56) #[] #[]] W fun e w' => e = .returned (.bool true) ∧ Below W.heap.size W w') := Lib.hid (fun W h => (S.cu W h).mono fun _ _ k => k.yes hu)
  rw [hk]
  rw [name_nil hn]
  clear S hs hr hm
  first | clear hk | skip
  first | clear hn | skip
  first | clear hl | skip
  first | clear hb | skip
  first | clear hq | skip
  first | clear hu | skip
  go_enter Tryz.func156, Tryz.ntmps156
  go_wp2_with (first | (go_at_call 57; (with_reducible refine (CL.out _ (HS.out.below (below1 _ _)) (HM.out.keep (below1 _ _))).mono ?_); rintro e w4 ⟨rfl, hb4⟩; obtain ⟨hc4, hf4⟩ := bcell hb4; have hz4 : w.heap.size < w4.heap.size := (by have h9 := hb4.size; simp at h9; omega); have HB4 := Lib.hid (bnext (below1 _ _) hb4); clear hb4) | (go_at_call 154; (with_reducible refine (CU.out _ (HR.out.below HB4.out)).mono ?_); rintro e w5 ⟨rfl, hb5⟩; have HB5 := Lib.hid (bnext HB4.out hb5); clear hb5))
  go_ret
  exact ⟨false, (by first | rfl | exact ret_bool (by assumption)), iffF HH.out, HB5.out⟩

set_option maxRecDepth 100000 in
theorem la_rec_no {T : Ty} {A B : Option Addr} {ca cb lo : Nat} (S : IF T A B ca cb lo) (w : World) (hs : Strs w lo T.labels A) (hr : Ty.RowAt w lo T.kids B) (hm : MaxC w) (hk : T.kind = 16) (hn : T.name.size = 0) (hl : 1 ≤ T.labels.length ∧ T.labels.length ≤ 16) (hb : Names T.labels) (hq : T.kids.length = T.labels.length) (hu : ¬ UnitIn T.kids T.kids.length) :
    Calls Tryz.prog 156 #[.agg #[.int .i64 T.kind, .string T.name, .slice A T.labels.length ca, .slice B T.kids.length cb]] w (SaysB (ShapeOk T) w) := by
  have CN := Lib.hid S.cn
  have HS := Lib.hid hs
  have HR := Lib.hid hr
  have HM := Lib.hid hm
  have hll := S.ll
  have hkl := S.kl
  have e0 : ((T.labels.length : Int) == 0) = false := by rw [beq_eq_false_iff_ne]; omega
  have e3 : ¬ (16 : Int) < (T.labels.length : Int) := by omega
  have hlN : T.labels.length ≤ 16 := by omega
  have hlP : 1 ≤ T.labels.length := by omega
  have CL : Hid (∀ W : World, Strs W lo T.labels A → MaxC W → Calls Tryz.prog 57 #[.slice A T.labels.length ca] W fun e w' => e = .returned (.bool true) ∧ Below W.heap.size W w') := Lib.hid (fun W h hm => (S.cl W h hm).mono fun _ _ k => k.yes hb)
  have HH : Hid (ShapeOk T) := Lib.hid ⟨⟨fun h => by rw [hk] at h; unfold IsRes at h; omega, fun _ => hn, fun _ => ⟨hl.1, hl.2, hb⟩, fun h => absurd (by rw [hk]; unfold IsLab; omega) h⟩, by unfold BodyOk; simp only [hk]; exact ⟨hq, hu⟩⟩
  have e1 : ((T.kids.length : Int) == (T.labels.length : Int)) = true := by rw [beq_iff_eq]; omega
  have CU : Hid (∀ W : World, Ty.RowAt W lo T.kids B → Calls Tryz.prog 154 #[.slice B T.kids.length cb, .func (.func 56) #[] #[]] W fun e w' => e = .returned (.bool false) ∧ Below W.heap.size W w') := Lib.hid (fun W h => (S.cu W h).mono fun _ _ k => k.no hu)
  rw [hk]
  rw [name_nil hn]
  clear S hs hr hm
  first | clear hk | skip
  first | clear hn | skip
  first | clear hl | skip
  first | clear hb | skip
  first | clear hq | skip
  first | clear hu | skip
  go_enter Tryz.func156, Tryz.ntmps156
  go_wp2_with (first | (go_at_call 57; (with_reducible refine (CL.out _ (HS.out.below (below1 _ _)) (HM.out.keep (below1 _ _))).mono ?_); rintro e w4 ⟨rfl, hb4⟩; obtain ⟨hc4, hf4⟩ := bcell hb4; have hz4 : w.heap.size < w4.heap.size := (by have h9 := hb4.size; simp at h9; omega); have HB4 := Lib.hid (bnext (below1 _ _) hb4); clear hb4) | (go_at_call 154; (with_reducible refine (CU.out _ (HR.out.below HB4.out)).mono ?_); rintro e w5 ⟨rfl, hb5⟩; have HB5 := Lib.hid (bnext HB4.out hb5); clear hb5))
  go_ret
  exact ⟨true, (by first | rfl | exact ret_bool (by assumption)), iffT HH.out, HB5.out⟩

set_option maxRecDepth 100000 in
theorem la_var_no {T : Ty} {A B : Option Addr} {ca cb lo : Nat} (S : IF T A B ca cb lo) (w : World) (hs : Strs w lo T.labels A) (hr : Ty.RowAt w lo T.kids B) (hm : MaxC w) (hk : T.kind = 17) (hn : T.name.size = 0) (hl : 1 ≤ T.labels.length ∧ T.labels.length ≤ 16) (hb : Names T.labels) (hq : T.kids.length ≠ T.labels.length) :
    Calls Tryz.prog 156 #[.agg #[.int .i64 T.kind, .string T.name, .slice A T.labels.length ca, .slice B T.kids.length cb]] w (SaysB (ShapeOk T) w) := by
  have CN := Lib.hid S.cn
  have HS := Lib.hid hs
  have HR := Lib.hid hr
  have HM := Lib.hid hm
  have hll := S.ll
  have hkl := S.kl
  have e0 : ((T.labels.length : Int) == 0) = false := by rw [beq_eq_false_iff_ne]; omega
  have e3 : ¬ (16 : Int) < (T.labels.length : Int) := by omega
  have hlN : T.labels.length ≤ 16 := by omega
  have hlP : 1 ≤ T.labels.length := by omega
  have CL : Hid (∀ W : World, Strs W lo T.labels A → MaxC W → Calls Tryz.prog 57 #[.slice A T.labels.length ca] W fun e w' => e = .returned (.bool true) ∧ Below W.heap.size W w') := Lib.hid (fun W h hm => (S.cl W h hm).mono fun _ _ k => k.yes hb)
  have HH : Hid (¬ ShapeOk T) := Lib.hid (fun h => by have h1 := h.2; unfold BodyOk at h1; simp only [hk] at h1; exact hq h1)
  have e1 : ((T.kids.length : Int) == (T.labels.length : Int)) = false := by rw [beq_eq_false_iff_ne]; omega
  rw [hk]
  rw [name_nil hn]
  clear S hs hr hm
  first | clear hk | skip
  first | clear hn | skip
  first | clear hl | skip
  first | clear hb | skip
  first | clear hq | skip
  go_enter Tryz.func156, Tryz.ntmps156
  go_wp2_with (first | (go_at_call 57; (with_reducible refine (CL.out _ (HS.out.below (below1 _ _)) (HM.out.keep (below1 _ _))).mono ?_); rintro e w4 ⟨rfl, hb4⟩; obtain ⟨hc4, hf4⟩ := bcell hb4; have hz4 : w.heap.size < w4.heap.size := (by have h9 := hb4.size; simp at h9; omega); have HB4 := Lib.hid (bnext (below1 _ _) hb4); clear hb4))
  go_ret
  exact ⟨false, (by first | rfl | exact ret_bool (by assumption)), iffF HH.out, HB4.out⟩

set_option maxRecDepth 100000 in
theorem la_var_yes {T : Ty} {A B : Option Addr} {ca cb lo : Nat} (S : IF T A B ca cb lo) (w : World) (hs : Strs w lo T.labels A) (hr : Ty.RowAt w lo T.kids B) (hm : MaxC w) (hk : T.kind = 17) (hn : T.name.size = 0) (hl : 1 ≤ T.labels.length ∧ T.labels.length ≤ 16) (hb : Names T.labels) (hq : T.kids.length = T.labels.length) :
    Calls Tryz.prog 156 #[.agg #[.int .i64 T.kind, .string T.name, .slice A T.labels.length ca, .slice B T.kids.length cb]] w (SaysB (ShapeOk T) w) := by
  have CN := Lib.hid S.cn
  have HS := Lib.hid hs
  have HR := Lib.hid hr
  have HM := Lib.hid hm
  have hll := S.ll
  have hkl := S.kl
  have e0 : ((T.labels.length : Int) == 0) = false := by rw [beq_eq_false_iff_ne]; omega
  have e3 : ¬ (16 : Int) < (T.labels.length : Int) := by omega
  have hlN : T.labels.length ≤ 16 := by omega
  have hlP : 1 ≤ T.labels.length := by omega
  have CL : Hid (∀ W : World, Strs W lo T.labels A → MaxC W → Calls Tryz.prog 57 #[.slice A T.labels.length ca] W fun e w' => e = .returned (.bool true) ∧ Below W.heap.size W w') := Lib.hid (fun W h hm => (S.cl W h hm).mono fun _ _ k => k.yes hb)
  have HH : Hid (ShapeOk T) := Lib.hid ⟨⟨fun h => by rw [hk] at h; unfold IsRes at h; omega, fun _ => hn, fun _ => ⟨hl.1, hl.2, hb⟩, fun h => absurd (by rw [hk]; unfold IsLab; omega) h⟩, by unfold BodyOk; simp only [hk]; exact hq⟩
  have e1 : ((T.kids.length : Int) == (T.labels.length : Int)) = true := by rw [beq_iff_eq]; omega
  rw [hk]
  rw [name_nil hn]
  clear S hs hr hm
  first | clear hk | skip
  first | clear hn | skip
  first | clear hl | skip
  first | clear hb | skip
  first | clear hq | skip
  go_enter Tryz.func156, Tryz.ntmps156
  go_wp2_with (first | (go_at_call 57; (with_reducible refine (CL.out _ (HS.out.below (below1 _ _)) (HM.out.keep (below1 _ _))).mono ?_); rintro e w4 ⟨rfl, hb4⟩; obtain ⟨hc4, hf4⟩ := bcell hb4; have hz4 : w.heap.size < w4.heap.size := (by have h9 := hb4.size; simp at h9; omega); have HB4 := Lib.hid (bnext (below1 _ _) hb4); clear hb4))
  go_ret
  exact ⟨true, (by first | rfl | exact ret_bool (by assumption)), iffT HH.out, HB4.out⟩

set_option maxRecDepth 100000 in
theorem la_flat_no18 {T : Ty} {A B : Option Addr} {ca cb lo : Nat} (S : IF T A B ca cb lo) (w : World) (hs : Strs w lo T.labels A) (hr : Ty.RowAt w lo T.kids B) (hm : MaxC w) (hk : T.kind = 18) (hn : T.name.size = 0) (hl : 1 ≤ T.labels.length ∧ T.labels.length ≤ 16) (hb : Names T.labels) (hq : 0 < T.kids.length) :
    Calls Tryz.prog 156 #[.agg #[.int .i64 T.kind, .string T.name, .slice A T.labels.length ca, .slice B T.kids.length cb]] w (SaysB (ShapeOk T) w) := by
  have CN := Lib.hid S.cn
  have HS := Lib.hid hs
  have HR := Lib.hid hr
  have HM := Lib.hid hm
  have hll := S.ll
  have hkl := S.kl
  have e0 : ((T.labels.length : Int) == 0) = false := by rw [beq_eq_false_iff_ne]; omega
  have e3 : ¬ (16 : Int) < (T.labels.length : Int) := by omega
  have hlN : T.labels.length ≤ 16 := by omega
  have hlP : 1 ≤ T.labels.length := by omega
  have CL : Hid (∀ W : World, Strs W lo T.labels A → MaxC W → Calls Tryz.prog 57 #[.slice A T.labels.length ca] W fun e w' => e = .returned (.bool true) ∧ Below W.heap.size W w') := Lib.hid (fun W h hm => (S.cl W h hm).mono fun _ _ k => k.yes hb)
  have HH : Hid (¬ ShapeOk T) := Lib.hid (fun h => by have h1 := h.2; unfold BodyOk at h1; simp only [hk] at h1; have h2 : T.kids.length = 0 := h1.2; omega)
  have e1 : ((T.kids.length : Int) == 0) = false := by rw [beq_eq_false_iff_ne]; omega
  rw [hk]
  rw [name_nil hn]
  clear S hs hr hm
  first | clear hk | skip
  first | clear hn | skip
  first | clear hl | skip
  first | clear hb | skip
  first | clear hq | skip
  go_enter Tryz.func156, Tryz.ntmps156
  go_wp2_with (first | (go_at_call 57; (with_reducible refine (CL.out _ (HS.out.below (below1 _ _)) (HM.out.keep (below1 _ _))).mono ?_); rintro e w4 ⟨rfl, hb4⟩; obtain ⟨hc4, hf4⟩ := bcell hb4; have hz4 : w.heap.size < w4.heap.size := (by have h9 := hb4.size; simp at h9; omega); have HB4 := Lib.hid (bnext (below1 _ _) hb4); clear hb4))
  go_ret
  exact ⟨false, (by first | rfl | exact ret_bool (by assumption)), iffF HH.out, HB4.out⟩

set_option maxRecDepth 100000 in
theorem la_flat_yes18 {T : Ty} {A B : Option Addr} {ca cb lo : Nat} (S : IF T A B ca cb lo) (w : World) (hs : Strs w lo T.labels A) (hr : Ty.RowAt w lo T.kids B) (hm : MaxC w) (hk : T.kind = 18) (hn : T.name.size = 0) (hl : 1 ≤ T.labels.length ∧ T.labels.length ≤ 16) (hb : Names T.labels) (hq : T.kids.length = 0) :
    Calls Tryz.prog 156 #[.agg #[.int .i64 T.kind, .string T.name, .slice A T.labels.length ca, .slice B T.kids.length cb]] w (SaysB (ShapeOk T) w) := by
  have CN := Lib.hid S.cn
  have HS := Lib.hid hs
  have HR := Lib.hid hr
  have HM := Lib.hid hm
  have hll := S.ll
  have hkl := S.kl
  have e0 : ((T.labels.length : Int) == 0) = false := by rw [beq_eq_false_iff_ne]; omega
  have e3 : ¬ (16 : Int) < (T.labels.length : Int) := by omega
  have hlN : T.labels.length ≤ 16 := by omega
  have hlP : 1 ≤ T.labels.length := by omega
  have CL : Hid (∀ W : World, Strs W lo T.labels A → MaxC W → Calls Tryz.prog 57 #[.slice A T.labels.length ca] W fun e w' => e = .returned (.bool true) ∧ Below W.heap.size W w') := Lib.hid (fun W h hm => (S.cl W h hm).mono fun _ _ k => k.yes hb)
  have HH : Hid (ShapeOk T) := Lib.hid ⟨⟨fun h => by rw [hk] at h; unfold IsRes at h; omega, fun _ => hn, fun _ => ⟨hl.1, hl.2, hb⟩, fun h => absurd (by rw [hk]; unfold IsLab; omega) h⟩, by unfold BodyOk; simp only [hk]; exact ⟨by decide, hq⟩⟩
  rw [hk]
  rw [name_nil hn]
  rw [hq]
  clear S hs hr hm
  first | clear hk | skip
  first | clear hn | skip
  first | clear hl | skip
  first | clear hb | skip
  first | clear hq | skip
  go_enter Tryz.func156, Tryz.ntmps156
  go_wp2_with (first | (go_at_call 57; (with_reducible refine (CL.out _ (HS.out.below (below1 _ _)) (HM.out.keep (below1 _ _))).mono ?_); rintro e w4 ⟨rfl, hb4⟩; obtain ⟨hc4, hf4⟩ := bcell hb4; have hz4 : w.heap.size < w4.heap.size := (by have h9 := hb4.size; simp at h9; omega); have HB4 := Lib.hid (bnext (below1 _ _) hb4); clear hb4))
  go_ret
  exact ⟨true, (by first | rfl | exact ret_bool (by assumption)), iffT HH.out, HB4.out⟩

set_option maxRecDepth 100000 in
theorem la_flat_no19 {T : Ty} {A B : Option Addr} {ca cb lo : Nat} (S : IF T A B ca cb lo) (w : World) (hs : Strs w lo T.labels A) (hr : Ty.RowAt w lo T.kids B) (hm : MaxC w) (hk : T.kind = 19) (hn : T.name.size = 0) (hl : 1 ≤ T.labels.length ∧ T.labels.length ≤ 16) (hb : Names T.labels) (hq : 0 < T.kids.length) :
    Calls Tryz.prog 156 #[.agg #[.int .i64 T.kind, .string T.name, .slice A T.labels.length ca, .slice B T.kids.length cb]] w (SaysB (ShapeOk T) w) := by
  have CN := Lib.hid S.cn
  have HS := Lib.hid hs
  have HR := Lib.hid hr
  have HM := Lib.hid hm
  have hll := S.ll
  have hkl := S.kl
  have e0 : ((T.labels.length : Int) == 0) = false := by rw [beq_eq_false_iff_ne]; omega
  have e3 : ¬ (16 : Int) < (T.labels.length : Int) := by omega
  have hlN : T.labels.length ≤ 16 := by omega
  have hlP : 1 ≤ T.labels.length := by omega
  have CL : Hid (∀ W : World, Strs W lo T.labels A → MaxC W → Calls Tryz.prog 57 #[.slice A T.labels.length ca] W fun e w' => e = .returned (.bool true) ∧ Below W.heap.size W w') := Lib.hid (fun W h hm => (S.cl W h hm).mono fun _ _ k => k.yes hb)
  have HH : Hid (¬ ShapeOk T) := Lib.hid (fun h => by have h1 := h.2; unfold BodyOk at h1; simp only [hk] at h1; have h2 : T.kids.length = 0 := h1.2; omega)
  have e1 : ((T.kids.length : Int) == 0) = false := by rw [beq_eq_false_iff_ne]; omega
  rw [hk]
  rw [name_nil hn]
  clear S hs hr hm
  first | clear hk | skip
  first | clear hn | skip
  first | clear hl | skip
  first | clear hb | skip
  first | clear hq | skip
  go_enter Tryz.func156, Tryz.ntmps156
  go_wp2_with (first | (go_at_call 57; (with_reducible refine (CL.out _ (HS.out.below (below1 _ _)) (HM.out.keep (below1 _ _))).mono ?_); rintro e w4 ⟨rfl, hb4⟩; obtain ⟨hc4, hf4⟩ := bcell hb4; have hz4 : w.heap.size < w4.heap.size := (by have h9 := hb4.size; simp at h9; omega); have HB4 := Lib.hid (bnext (below1 _ _) hb4); clear hb4))
  go_ret
  exact ⟨false, (by first | rfl | exact ret_bool (by assumption)), iffF HH.out, HB4.out⟩

set_option maxRecDepth 100000 in
theorem la_flat_yes19 {T : Ty} {A B : Option Addr} {ca cb lo : Nat} (S : IF T A B ca cb lo) (w : World) (hs : Strs w lo T.labels A) (hr : Ty.RowAt w lo T.kids B) (hm : MaxC w) (hk : T.kind = 19) (hn : T.name.size = 0) (hl : 1 ≤ T.labels.length ∧ T.labels.length ≤ 16) (hb : Names T.labels) (hq : T.kids.length = 0) :
    Calls Tryz.prog 156 #[.agg #[.int .i64 T.kind, .string T.name, .slice A T.labels.length ca, .slice B T.kids.length cb]] w (SaysB (ShapeOk T) w) := by
  have CN := Lib.hid S.cn
  have HS := Lib.hid hs
  have HR := Lib.hid hr
  have HM := Lib.hid hm
  have hll := S.ll
  have hkl := S.kl
  have e0 : ((T.labels.length : Int) == 0) = false := by rw [beq_eq_false_iff_ne]; omega
  have e3 : ¬ (16 : Int) < (T.labels.length : Int) := by omega
  have hlN : T.labels.length ≤ 16 := by omega
  have hlP : 1 ≤ T.labels.length := by omega
  have CL : Hid (∀ W : World, Strs W lo T.labels A → MaxC W → Calls Tryz.prog 57 #[.slice A T.labels.length ca] W fun e w' => e = .returned (.bool true) ∧ Below W.heap.size W w') := Lib.hid (fun W h hm => (S.cl W h hm).mono fun _ _ k => k.yes hb)
  have HH : Hid (ShapeOk T) := Lib.hid ⟨⟨fun h => by rw [hk] at h; unfold IsRes at h; omega, fun _ => hn, fun _ => ⟨hl.1, hl.2, hb⟩, fun h => absurd (by rw [hk]; unfold IsLab; omega) h⟩, by unfold BodyOk; simp only [hk]; exact ⟨by decide, hq⟩⟩
  rw [hk]
  rw [name_nil hn]
  rw [hq]
  clear S hs hr hm
  first | clear hk | skip
  first | clear hn | skip
  first | clear hl | skip
  first | clear hb | skip
  first | clear hq | skip
  go_enter Tryz.func156, Tryz.ntmps156
  go_wp2_with (first | (go_at_call 57; (with_reducible refine (CL.out _ (HS.out.below (below1 _ _)) (HM.out.keep (below1 _ _))).mono ?_); rintro e w4 ⟨rfl, hb4⟩; obtain ⟨hc4, hf4⟩ := bcell hb4; have hz4 : w.heap.size < w4.heap.size := (by have h9 := hb4.size; simp at h9; omega); have HB4 := Lib.hid (bnext (below1 _ _) hb4); clear hb4))
  go_ret
  exact ⟨true, (by first | rfl | exact ret_bool (by assumption)), iffT HH.out, HB4.out⟩

def IsAng (k : Int) : Prop := k = 12 ∨ k = 13 ∨ k = 14 ∨ k = 15 ∨ k = 22 ∨ k = 23
theorem angle_any (T : Ty) (hT : T.wt ≤ 1048576) (hk : IsAng T.kind) (A B : Option Addr) (ca cb lo : Nat) (w : World) (hat : Ty.At w lo T A B) (hm : MaxC w) :
    Calls Tryz.prog 153 #[.agg #[.int .i64 T.kind, .string T.name, .slice A T.labels.length ca, .slice B T.kids.length cb]] w (SaysB (ShapeOk T) w) := by
  have S := IF.of hT A B ca cb lo
  have hs := hat.strs
  have hr := hat.rowAt
  have hk' : T.kind = 12 ∨ T.kind = 13 ∨ T.kind = 14 ∨ T.kind = 15 ∨ T.kind = 22 ∨ T.kind = 23 := hk
  by_cases hn : T.name.size = 0
  case neg => exact an_name S w hs hr hm hk' (by omega)
  by_cases hl : T.labels.length = 0
  case neg => exact an_lab S w hs hr hm hk' hn (by omega)
  rcases hk' with hk | hk | hk | hk | hk | hk
  · by_cases hq : T.kids.length = 1
    · by_cases hu : UnitIn T.kids T.kids.length
      · exact an_one_yes12 S w hs hr hm hk hn hl hq hu
      · exact an_one_no12 S w hs hr hm hk hn hl hq hu
    · exact an_one_len12 S w hs hr hm hk hn hl hq
  · by_cases hq : T.kids.length = 1
    · by_cases hu : UnitIn T.kids T.kids.length
      · exact an_one_yes13 S w hs hr hm hk hn hl hq hu
      · exact an_one_no13 S w hs hr hm hk hn hl hq hu
    · exact an_one_len13 S w hs hr hm hk hn hl hq
  · by_cases hq : T.kids.length = 2
    · exact an_two_yes S w hs hr hm hk hn hl hq
    · exact an_two_no S w hs hr hm hk hn hl hq
  · by_cases hq : T.kids.length < 1
    · exact an_tup_low S w hs hr hm hk hn hl hq
    · by_cases hq2 : 6 < T.kids.length
      · exact an_tup_high S w hs hr hm hk hn hl hq2
      · by_cases hu : UnitIn T.kids T.kids.length
        · exact an_tup_yes S w hs hr hm hk hn hl (by omega) (by omega) hu
        · exact an_tup_no S w hs hr hm hk hn hl (by omega) (by omega) hu
  · by_cases hq : T.kids.length = 1
    · rcases Ty.kid0 hq (inB 21 21) with hv | hv
      · exact an_str_true22 S w hs hr hm hk hn hl hq hv
      · exact an_str_false22 S w hs hr hm hk hn hl hq hv
    · exact an_str_len22 S w hs hr hm hk hn hl hq
  · by_cases hq : T.kids.length = 1
    · rcases Ty.kid0 hq (inB 21 21) with hv | hv
      · exact an_str_true23 S w hs hr hm hk hn hl hq hv
      · exact an_str_false23 S w hs hr hm hk hn hl hq hv
    · exact an_str_len23 S w hs hr hm hk hn hl hq
theorem soundLab_any (T : Ty) (hT : T.wt ≤ 1048576) (hk : IsLab T.kind) (A B : Option Addr) (ca cb lo : Nat) (w : World) (hat : Ty.At w lo T A B) (hm : MaxC w) :
    Calls Tryz.prog 156 #[.agg #[.int .i64 T.kind, .string T.name, .slice A T.labels.length ca, .slice B T.kids.length cb]] w (SaysB (ShapeOk T) w) := by
  have S := IF.of hT A B ca cb lo
  have hs := hat.strs
  have hr := hat.rowAt
  by_cases hn : T.name.size = 0
  case neg => exact la_name S w hs hr hm hk (by omega)
  by_cases hl0 : T.labels.length = 0
  · exact la_none S w hs hr hm hk hn hl0
  by_cases hl1 : 16 < T.labels.length
  · exact la_many S w hs hr hm hk hn hl1
  have hl : 1 ≤ T.labels.length ∧ T.labels.length ≤ 16 := by omega
  by_cases hb : Names T.labels
  case neg => exact la_bad S w hs hr hm hk hn hl hb
  have h4 : T.kind = 16 ∨ T.kind = 17 ∨ T.kind = 18 ∨ T.kind = 19 := by unfold IsLab at hk; omega
  rcases h4 with hk | hk | hk | hk
  · by_cases hq : T.kids.length = T.labels.length
    · by_cases hu : UnitIn T.kids T.kids.length
      · exact la_rec_yes S w hs hr hm hk hn hl hb hq hu
      · exact la_rec_no S w hs hr hm hk hn hl hb hq hu
    · exact la_rec_len S w hs hr hm hk hn hl hb hq
  · by_cases hq : T.kids.length = T.labels.length
    · exact la_var_yes S w hs hr hm hk hn hl hb hq
    · exact la_var_no S w hs hr hm hk hn hl hb hq
  · by_cases hq : T.kids.length = 0
    · exact la_flat_yes18 S w hs hr hm hk hn hl hb hq
    · exact la_flat_no18 S w hs hr hm hk hn hl hb (by omega)
  · by_cases hq : T.kids.length = 0
    · exact la_flat_yes19 S w hs hr hm hk hn hl hb hq
    · exact la_flat_no19 S w hs hr hm hk hn hl hb (by omega)
theorem handle_any (T : Ty) (hT : T.wt ≤ 1048576) (hk : IsRes T.kind) (A B : Option Addr) (ca cb lo : Nat) (w : World) (hat : Ty.At w lo T A B) (hm : MaxC w) :
    Calls Tryz.prog 157 #[.agg #[.int .i64 T.kind, .string T.name, .slice A T.labels.length ca, .slice B T.kids.length cb]] w (SaysB (ShapeOk T) w) := by
  have S := IF.of hT A B ca cb lo
  have hs := hat.strs
  have hr := hat.rowAt
  have h2 : T.kind = 20 ∨ T.kind = 21 := hk
  cases hv : nmB T.name with
  | false =>
    rcases h2 with hk | hk
    · exact ha_bad20 S w hs hr hm hk hv
    · exact ha_bad21 S w hs hr hm hk hv
  | true =>
    by_cases hl : T.labels.length = 0
    · by_cases hq : T.kids.length = 0
      · rcases h2 with hk | hk
        · exact ha_ok20 S w hs hr hm hk hv hl hq
        · exact ha_ok21 S w hs hr hm hk hv hl hq
      · rcases h2 with hk | hk
        · exact ha_kid20 S w hs hr hm hk hv hl (by omega)
        · exact ha_kid21 S w hs hr hm hk hv hl (by omega)
    · rcases h2 with hk | hk
      · exact ha_lab20 S w hs hr hm hk hv (by omega)
      · exact ha_lab21 S w hs hr hm hk hv (by omega)
theorem plain_any (T : Ty) (hT : T.wt ≤ 1048576) (h1 : ¬ IsAng T.kind) (h2 : ¬ IsLab T.kind) (h3 : ¬ IsRes T.kind) (A B : Option Addr) (ca cb lo : Nat) (w : World) (hat : Ty.At w lo T A B) (hm : MaxC w) :
    Calls Tryz.prog 158 #[.agg #[.int .i64 T.kind, .string T.name, .slice A T.labels.length ca, .slice B T.kids.length cb]] w (SaysB (ShapeOk T) w) := by
  have S := IF.of hT A B ca cb lo
  have hs := hat.strs
  have hr := hat.rowAt
  by_cases hlow : T.kind < 1
  · exact pl_low S w hs hr hm hlow
  by_cases hhi : 23 < T.kind
  · exact pl_high S w hs hr hm hhi
  have hk : 1 ≤ T.kind ∧ T.kind ≤ 11 := by unfold IsAng at h1; unfold IsLab at h2; unfold IsRes at h3; omega
  by_cases hn : T.name.size = 0
  case neg => exact pl_name S w hs hr hm hk (by omega)
  by_cases hl : T.labels.length = 0
  case neg => exact pl_lab S w hs hr hm hk hn (by omega)
  by_cases hq : T.kids.length = 0
  · exact pl_ok S w hs hr hm hk hn hl hq
  · exact pl_kid S w hs hr hm hk hn hl (by omega)
end Go.Proofs.YtifchfecfkdjlaaGreatDoor
