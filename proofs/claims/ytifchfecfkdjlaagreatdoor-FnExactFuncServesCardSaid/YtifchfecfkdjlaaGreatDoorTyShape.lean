/-
  The walk of the model's l03Shape.
-/
import Derived.Test.YtifchfecfkdjlaaGreatDoorME
namespace Go.Proofs.YtifchfecfkdjlaaGreatDoor
open Go.ChangeShapes Go.WideShapes Go.ChangeAt Go.RowKit Go.Deep

/-- What the walk of l03Shape calls. -/
structure SF (T : Ty) (A B : Option Addr) (ca cb lo : Nat) : Prop where
  cn : ∀ W, Calls Tryz.prog 79 #[.string T.name] W fun e w' => e = .returned (.bool (nmB T.name)) ∧ W = w'
  cl : ∀ W, Strs W lo T.labels A → Calls Tryz.prog 93 #[.slice A T.labels.length ca] W (SaysN (LabelsOk T.labels) W)
  cu : ∀ W, Ty.RowAt W lo T.kids B → Calls Tryz.prog 94 #[.agg #[.int .i64 T.kind, .string T.name, .slice A T.labels.length ca, .slice B T.kids.length cb]] W (SaysB (UnitIn T.kids T.kids.length) W)
  ch : ∀ t, T.kids[0]? = some t → HasTy 21 21 t
  ll : T.labels.length ≤ 1048576
  kl : T.kids.length ≤ 1048576
theorem SF.of {T : Ty} (hT : T.wt ≤ 1048576) (A B : Option Addr) (ca cb lo : Nat) : SF T A B ca cb lo := by
  obtain ⟨q1, q2, q3, q4, q5⟩ := Ty.len_le hT
  exact ⟨fun W => nmB_spec T.name q4 W, fun W h => l03Labels_any T.labels q5 q1 A ca lo W h, fun W h => l03Units_any T q2 A B ca cb lo W h, fun t ht => l03Has_any 21 21 t (q3 0 t ht), q1, q2⟩

set_option maxRecDepth 100000 in
theorem sh_res_empty20 {T : Ty} {A B : Option Addr} {ca cb lo : Nat} (S : SF T A B ca cb lo) (w : World) (hs : Strs w lo T.labels A) (hr : Ty.RowAt w lo T.kids B) (hk : T.kind = 20) (hn : T.name.size = 0) :
    Calls Tryz.prog 85 #[.agg #[.int .i64 T.kind, .string T.name, .slice A T.labels.length ca, .slice B T.kids.length cb]] w (SaysB (ShapeOk T) w) := by
  have CN := Lib.hid S.cn
  have HS := Lib.hid hs
  have HR := Lib.hid hr
  have hll := S.ll
  have hkl := S.kl
  have HH : Hid (¬ ShapeOk T) := Lib.hid (fun h => by have h1 := h.1.1 (by rw [hk]; unfold IsRes; omega); rw [nmB_empty _ hn] at h1; cases h1)
  rw [hk]
  rw [name_nil hn]
  clear S hs hr
  first | clear hk | skip
  first | clear hn | skip
  go_enter Tryz.func85, Tryz.ntmps85
  go_wp2_with (first | (go_at_call 65; (with_reducible refine (In_any _ _ _ _).mono ?_); rintro e w3 ⟨rfl, rfl⟩))
  go_ret
  exact ⟨false, (by first | rfl | exact ret_bool (by assumption)), iffF HH.out, below1 _ _⟩

set_option maxRecDepth 100000 in
theorem sh_res_bad20 {T : Ty} {A B : Option Addr} {ca cb lo : Nat} (S : SF T A B ca cb lo) (w : World) (hs : Strs w lo T.labels A) (hr : Ty.RowAt w lo T.kids B) (hk : T.kind = 20) (hn : 0 < T.name.size) (hv : nmB T.name = false) :
    Calls Tryz.prog 85 #[.agg #[.int .i64 T.kind, .string T.name, .slice A T.labels.length ca, .slice B T.kids.length cb]] w (SaysB (ShapeOk T) w) := by
  have CN := Lib.hid S.cn
  have HS := Lib.hid hs
  have HR := Lib.hid hr
  have hll := S.ll
  have hkl := S.kl
  have he := not_empty _ hn
  have HH : Hid (¬ ShapeOk T) := Lib.hid (fun h => by have h1 := h.1.1 (by rw [hk]; unfold IsRes; omega); rw [hv] at h1; cases h1)
  rw [hv] at CN
  rw [hk]
  clear S hs hr
  first | clear hk | skip
  first | clear hn | skip
  first | clear hv | skip
  go_enter Tryz.func85, Tryz.ntmps85
  go_wp2_with (first | (go_at_call 79; (with_reducible refine (CN.out _).mono ?_); rintro e w2 ⟨rfl, rfl⟩) | (go_at_call 65; (with_reducible refine (In_any _ _ _ _).mono ?_); rintro e w3 ⟨rfl, rfl⟩))
  go_ret
  exact ⟨false, (by first | rfl | exact ret_bool (by assumption)), iffF HH.out, below1 _ _⟩

set_option maxRecDepth 100000 in
theorem sh_res_lab20 {T : Ty} {A B : Option Addr} {ca cb lo : Nat} (S : SF T A B ca cb lo) (w : World) (hs : Strs w lo T.labels A) (hr : Ty.RowAt w lo T.kids B) (hk : T.kind = 20) (hn : 0 < T.name.size) (hv : nmB T.name = true) (hl : 0 < T.labels.length) :
    Calls Tryz.prog 85 #[.agg #[.int .i64 T.kind, .string T.name, .slice A T.labels.length ca, .slice B T.kids.length cb]] w (SaysB (ShapeOk T) w) := by
  have CN := Lib.hid S.cn
  have HS := Lib.hid hs
  have HR := Lib.hid hr
  have hll := S.ll
  have hkl := S.kl
  have he := not_empty _ hn
  have hl' : (0 : Int) < (T.labels.length : Int) := by omega
  have hlN : 0 < T.labels.length := by omega
  have HH : Hid (¬ ShapeOk T) := Lib.hid (fun h => by have h1 := h.1.2.2.2 (by rw [hk]; unfold IsLab; omega); omega)
  rw [hv] at CN
  rw [hk]
  clear S hs hr
  first | clear hk | skip
  first | clear hn | skip
  first | clear hv | skip
  first | clear hl | skip
  go_enter Tryz.func85, Tryz.ntmps85
  go_wp2_with (first | (go_at_call 79; (with_reducible refine (CN.out _).mono ?_); rintro e w2 ⟨rfl, rfl⟩) | (go_at_call 65; (with_reducible refine (In_any _ _ _ _).mono ?_); rintro e w3 ⟨rfl, rfl⟩))
  go_ret
  exact ⟨false, (by first | rfl | exact ret_bool (by assumption)), iffF HH.out, below1 _ _⟩

set_option maxRecDepth 100000 in
theorem sh_res_kid20 {T : Ty} {A B : Option Addr} {ca cb lo : Nat} (S : SF T A B ca cb lo) (w : World) (hs : Strs w lo T.labels A) (hr : Ty.RowAt w lo T.kids B) (hk : T.kind = 20) (hn : 0 < T.name.size) (hv : nmB T.name = true) (hl : T.labels.length = 0) (hm : 0 < T.kids.length) :
    Calls Tryz.prog 85 #[.agg #[.int .i64 T.kind, .string T.name, .slice A T.labels.length ca, .slice B T.kids.length cb]] w (SaysB (ShapeOk T) w) := by
  have CN := Lib.hid S.cn
  have HS := Lib.hid hs
  have HR := Lib.hid hr
  have hll := S.ll
  have hkl := S.kl
  have he := not_empty _ hn
  have HH : Hid (¬ ShapeOk T) := Lib.hid (fun h => by have h1 := h.2; unfold BodyOk at h1; simp only [hk] at h1; simp at h1; rw [h1] at hm; simp at hm)
  have e1 : ((T.kids.length : Int) == 0) = false := by rw [beq_eq_false_iff_ne]; omega
  rw [hv] at CN
  rw [hk]
  rw [hl]
  clear S hs hr
  first | clear hk | skip
  first | clear hn | skip
  first | clear hv | skip
  first | clear hl | skip
  first | clear hm | skip
  go_enter Tryz.func85, Tryz.ntmps85
  go_wp2_with (first | (go_at_call 79; (with_reducible refine (CN.out _).mono ?_); rintro e w2 ⟨rfl, rfl⟩) | (go_at_call 65; (with_reducible refine (In_any _ _ _ _).mono ?_); rintro e w3 ⟨rfl, rfl⟩))
  go_ret
  exact ⟨false, (by first | rfl | exact ret_bool (by assumption)), iffF HH.out, below1 _ _⟩

set_option maxRecDepth 100000 in
theorem sh_res_ok20 {T : Ty} {A B : Option Addr} {ca cb lo : Nat} (S : SF T A B ca cb lo) (w : World) (hs : Strs w lo T.labels A) (hr : Ty.RowAt w lo T.kids B) (hk : T.kind = 20) (hn : 0 < T.name.size) (hv : nmB T.name = true) (hl : T.labels.length = 0) (hm : T.kids.length = 0) :
    Calls Tryz.prog 85 #[.agg #[.int .i64 T.kind, .string T.name, .slice A T.labels.length ca, .slice B T.kids.length cb]] w (SaysB (ShapeOk T) w) := by
  have CN := Lib.hid S.cn
  have HS := Lib.hid hs
  have HR := Lib.hid hr
  have hll := S.ll
  have hkl := S.kl
  have he := not_empty _ hn
  have HH : Hid (ShapeOk T) := Lib.hid ⟨⟨fun _ => hv, fun h => absurd (by rw [hk]; unfold IsRes; omega) h, fun h => by rw [hk] at h; unfold IsLab at h; omega, fun _ => hl⟩, by unfold BodyOk; simp only [hk]; exact ⟨by decide, hm⟩⟩
  rw [hv] at CN
  rw [hk]
  rw [hl]
  rw [hm]
  clear S hs hr
  first | clear hk | skip
  first | clear hn | skip
  first | clear hv | skip
  first | clear hl | skip
  first | clear hm | skip
  go_enter Tryz.func85, Tryz.ntmps85
  go_wp2_with (first | (go_at_call 79; (with_reducible refine (CN.out _).mono ?_); rintro e w2 ⟨rfl, rfl⟩) | (go_at_call 65; (with_reducible refine (In_any _ _ _ _).mono ?_); rintro e w3 ⟨rfl, rfl⟩))
  go_ret
  exact ⟨true, (by first | rfl | exact ret_bool (by assumption)), iffT HH.out, below1 _ _⟩

set_option maxRecDepth 100000 in
theorem sh_res_empty21 {T : Ty} {A B : Option Addr} {ca cb lo : Nat} (S : SF T A B ca cb lo) (w : World) (hs : Strs w lo T.labels A) (hr : Ty.RowAt w lo T.kids B) (hk : T.kind = 21) (hn : T.name.size = 0) :
    Calls Tryz.prog 85 #[.agg #[.int .i64 T.kind, .string T.name, .slice A T.labels.length ca, .slice B T.kids.length cb]] w (SaysB (ShapeOk T) w) := by
  have CN := Lib.hid S.cn
  have HS := Lib.hid hs
  have HR := Lib.hid hr
  have hll := S.ll
  have hkl := S.kl
  have HH : Hid (¬ ShapeOk T) := Lib.hid (fun h => by have h1 := h.1.1 (by rw [hk]; unfold IsRes; omega); rw [nmB_empty _ hn] at h1; cases h1)
  rw [hk]
  rw [name_nil hn]
  clear S hs hr
  first | clear hk | skip
  first | clear hn | skip
  go_enter Tryz.func85, Tryz.ntmps85
  go_wp2_with (first | (go_at_call 65; (with_reducible refine (In_any _ _ _ _).mono ?_); rintro e w3 ⟨rfl, rfl⟩))
  go_ret
  exact ⟨false, (by first | rfl | exact ret_bool (by assumption)), iffF HH.out, below1 _ _⟩

set_option maxRecDepth 100000 in
theorem sh_res_bad21 {T : Ty} {A B : Option Addr} {ca cb lo : Nat} (S : SF T A B ca cb lo) (w : World) (hs : Strs w lo T.labels A) (hr : Ty.RowAt w lo T.kids B) (hk : T.kind = 21) (hn : 0 < T.name.size) (hv : nmB T.name = false) :
    Calls Tryz.prog 85 #[.agg #[.int .i64 T.kind, .string T.name, .slice A T.labels.length ca, .slice B T.kids.length cb]] w (SaysB (ShapeOk T) w) := by
  have CN := Lib.hid S.cn
  have HS := Lib.hid hs
  have HR := Lib.hid hr
  have hll := S.ll
  have hkl := S.kl
  have he := not_empty _ hn
  have HH : Hid (¬ ShapeOk T) := Lib.hid (fun h => by have h1 := h.1.1 (by rw [hk]; unfold IsRes; omega); rw [hv] at h1; cases h1)
  rw [hv] at CN
  rw [hk]
  clear S hs hr
  first | clear hk | skip
  first | clear hn | skip
  first | clear hv | skip
  go_enter Tryz.func85, Tryz.ntmps85
  go_wp2_with (first | (go_at_call 79; (with_reducible refine (CN.out _).mono ?_); rintro e w2 ⟨rfl, rfl⟩) | (go_at_call 65; (with_reducible refine (In_any _ _ _ _).mono ?_); rintro e w3 ⟨rfl, rfl⟩))
  go_ret
  exact ⟨false, (by first | rfl | exact ret_bool (by assumption)), iffF HH.out, below1 _ _⟩

set_option maxRecDepth 100000 in
theorem sh_res_lab21 {T : Ty} {A B : Option Addr} {ca cb lo : Nat} (S : SF T A B ca cb lo) (w : World) (hs : Strs w lo T.labels A) (hr : Ty.RowAt w lo T.kids B) (hk : T.kind = 21) (hn : 0 < T.name.size) (hv : nmB T.name = true) (hl : 0 < T.labels.length) :
    Calls Tryz.prog 85 #[.agg #[.int .i64 T.kind, .string T.name, .slice A T.labels.length ca, .slice B T.kids.length cb]] w (SaysB (ShapeOk T) w) := by
  have CN := Lib.hid S.cn
  have HS := Lib.hid hs
  have HR := Lib.hid hr
  have hll := S.ll
  have hkl := S.kl
  have he := not_empty _ hn
  have hl' : (0 : Int) < (T.labels.length : Int) := by omega
  have hlN : 0 < T.labels.length := by omega
  have HH : Hid (¬ ShapeOk T) := Lib.hid (fun h => by have h1 := h.1.2.2.2 (by rw [hk]; unfold IsLab; omega); omega)
  rw [hv] at CN
  rw [hk]
  clear S hs hr
  first | clear hk | skip
  first | clear hn | skip
  first | clear hv | skip
  first | clear hl | skip
  go_enter Tryz.func85, Tryz.ntmps85
  go_wp2_with (first | (go_at_call 79; (with_reducible refine (CN.out _).mono ?_); rintro e w2 ⟨rfl, rfl⟩) | (go_at_call 65; (with_reducible refine (In_any _ _ _ _).mono ?_); rintro e w3 ⟨rfl, rfl⟩))
  go_ret
  exact ⟨false, (by first | rfl | exact ret_bool (by assumption)), iffF HH.out, below1 _ _⟩

set_option maxRecDepth 100000 in
theorem sh_res_kid21 {T : Ty} {A B : Option Addr} {ca cb lo : Nat} (S : SF T A B ca cb lo) (w : World) (hs : Strs w lo T.labels A) (hr : Ty.RowAt w lo T.kids B) (hk : T.kind = 21) (hn : 0 < T.name.size) (hv : nmB T.name = true) (hl : T.labels.length = 0) (hm : 0 < T.kids.length) :
    Calls Tryz.prog 85 #[.agg #[.int .i64 T.kind, .string T.name, .slice A T.labels.length ca, .slice B T.kids.length cb]] w (SaysB (ShapeOk T) w) := by
  have CN := Lib.hid S.cn
  have HS := Lib.hid hs
  have HR := Lib.hid hr
  have hll := S.ll
  have hkl := S.kl
  have he := not_empty _ hn
  have HH : Hid (¬ ShapeOk T) := Lib.hid (fun h => by have h1 := h.2; unfold BodyOk at h1; simp only [hk] at h1; simp at h1; rw [h1] at hm; simp at hm)
  have e1 : ((T.kids.length : Int) == 0) = false := by rw [beq_eq_false_iff_ne]; omega
  rw [hv] at CN
  rw [hk]
  rw [hl]
  clear S hs hr
  first | clear hk | skip
  first | clear hn | skip
  first | clear hv | skip
  first | clear hl | skip
  first | clear hm | skip
  go_enter Tryz.func85, Tryz.ntmps85
  go_wp2_with (first | (go_at_call 79; (with_reducible refine (CN.out _).mono ?_); rintro e w2 ⟨rfl, rfl⟩) | (go_at_call 65; (with_reducible refine (In_any _ _ _ _).mono ?_); rintro e w3 ⟨rfl, rfl⟩))
  go_ret
  exact ⟨false, (by first | rfl | exact ret_bool (by assumption)), iffF HH.out, below1 _ _⟩

set_option maxRecDepth 100000 in
theorem sh_res_ok21 {T : Ty} {A B : Option Addr} {ca cb lo : Nat} (S : SF T A B ca cb lo) (w : World) (hs : Strs w lo T.labels A) (hr : Ty.RowAt w lo T.kids B) (hk : T.kind = 21) (hn : 0 < T.name.size) (hv : nmB T.name = true) (hl : T.labels.length = 0) (hm : T.kids.length = 0) :
    Calls Tryz.prog 85 #[.agg #[.int .i64 T.kind, .string T.name, .slice A T.labels.length ca, .slice B T.kids.length cb]] w (SaysB (ShapeOk T) w) := by
  have CN := Lib.hid S.cn
  have HS := Lib.hid hs
  have HR := Lib.hid hr
  have hll := S.ll
  have hkl := S.kl
  have he := not_empty _ hn
  have HH : Hid (ShapeOk T) := Lib.hid ⟨⟨fun _ => hv, fun h => absurd (by rw [hk]; unfold IsRes; omega) h, fun h => by rw [hk] at h; unfold IsLab at h; omega, fun _ => hl⟩, by unfold BodyOk; simp only [hk]; exact ⟨by decide, hm⟩⟩
  rw [hv] at CN
  rw [hk]
  rw [hl]
  rw [hm]
  clear S hs hr
  first | clear hk | skip
  first | clear hn | skip
  first | clear hv | skip
  first | clear hl | skip
  first | clear hm | skip
  go_enter Tryz.func85, Tryz.ntmps85
  go_wp2_with (first | (go_at_call 79; (with_reducible refine (CN.out _).mono ?_); rintro e w2 ⟨rfl, rfl⟩) | (go_at_call 65; (with_reducible refine (In_any _ _ _ _).mono ?_); rintro e w3 ⟨rfl, rfl⟩))
  go_ret
  exact ⟨true, (by first | rfl | exact ret_bool (by assumption)), iffT HH.out, below1 _ _⟩

set_option maxRecDepth 100000 in
theorem sh_named {T : Ty} {A B : Option Addr} {ca cb lo : Nat} (S : SF T A B ca cb lo) (w : World) (hs : Strs w lo T.labels A) (hr : Ty.RowAt w lo T.kids B) (hres : ¬ IsRes T.kind) (hn : 0 < T.name.size) :
    Calls Tryz.prog 85 #[.agg #[.int .i64 T.kind, .string T.name, .slice A T.labels.length ca, .slice B T.kids.length cb]] w (SaysB (ShapeOk T) w) := by
  have CN := Lib.hid S.cn
  have HS := Lib.hid hs
  have HR := Lib.hid hr
  have hll := S.ll
  have hkl := S.kl
  have h20 : (T.kind == 20) = false := by rw [beq_eq_false_iff_ne]; unfold IsRes at hres; omega
  have h21 : (T.kind == 21) = false := by rw [beq_eq_false_iff_ne]; unfold IsRes at hres; omega
  have he := not_empty _ hn
  have HH : Hid (¬ ShapeOk T) := Lib.hid (fun h => by have h1 := h.1.2.1 hres; omega)
  clear S hs hr
  first | clear hres | skip
  first | clear hn | skip
  go_enter Tryz.func85, Tryz.ntmps85
  go_wp2_with (first | (go_at_call 65; (with_reducible refine (In_any _ _ _ _).mono ?_); rintro e w3 ⟨rfl, rfl⟩))
  go_ret
  exact ⟨false, (by first | rfl | exact ret_bool (by assumption)), iffF HH.out, below1 _ _⟩

set_option maxRecDepth 100000 in
theorem sh_plain_lab {T : Ty} {A B : Option Addr} {ca cb lo : Nat} (S : SF T A B ca cb lo) (w : World) (hs : Strs w lo T.labels A) (hr : Ty.RowAt w lo T.kids B) (hres : ¬ IsRes T.kind) (hlab : ¬ IsLab T.kind) (hn : T.name.size = 0) (hl : 0 < T.labels.length) :
    Calls Tryz.prog 85 #[.agg #[.int .i64 T.kind, .string T.name, .slice A T.labels.length ca, .slice B T.kids.length cb]] w (SaysB (ShapeOk T) w) := by
  have CN := Lib.hid S.cn
  have HS := Lib.hid hs
  have HR := Lib.hid hr
  have hll := S.ll
  have hkl := S.kl
  have h20 : (T.kind == 20) = false := by rw [beq_eq_false_iff_ne]; unfold IsRes at hres; omega
  have h21 : (T.kind == 21) = false := by rw [beq_eq_false_iff_ne]; unfold IsRes at hres; omega
  have hIn : (decide (16 ≤ T.kind) && decide (T.kind ≤ 19)) = false := by unfold IsLab at hlab; rw [Bool.eq_false_iff]; simp; omega
  have CI : Hid (∀ W : World, Calls Tryz.prog 65 #[.int .i64 T.kind, .int .i64 16, .int .i64 19] W fun e w' => e = .returned (.bool false) ∧ W = w') := Lib.hid (fun W => by have h := In_any T.kind 16 19 W; rw [hIn] at h; exact h)
  have hl' : (0 : Int) < (T.labels.length : Int) := by omega
  have hlN : 0 < T.labels.length := by omega
  have HH : Hid (¬ ShapeOk T) := Lib.hid (fun h => by have h1 := h.1.2.2.2 hlab; omega)
  clear hIn
  rw [name_nil hn]
  clear S hs hr
  first | clear hres | skip
  first | clear hlab | skip
  first | clear hn | skip
  first | clear hl | skip
  go_enter Tryz.func85, Tryz.ntmps85
  go_wp2_with (first | (go_at_call 65; (with_reducible refine (CI.out _).mono ?_); rintro e w3 ⟨rfl, rfl⟩))
  go_ret
  exact ⟨false, (by first | rfl | exact ret_bool (by assumption)), iffF HH.out, below1 _ _⟩

set_option maxRecDepth 100000 in
theorem sh_lab_none16 {T : Ty} {A B : Option Addr} {ca cb lo : Nat} (S : SF T A B ca cb lo) (w : World) (hs : Strs w lo T.labels A) (hr : Ty.RowAt w lo T.kids B) (hk : T.kind = 16) (hn : T.name.size = 0) (hl : T.labels.length = 0) :
    Calls Tryz.prog 85 #[.agg #[.int .i64 T.kind, .string T.name, .slice A T.labels.length ca, .slice B T.kids.length cb]] w (SaysB (ShapeOk T) w) := by
  have CN := Lib.hid S.cn
  have HS := Lib.hid hs
  have HR := Lib.hid hr
  have hll := S.ll
  have hkl := S.kl
  have HH : Hid (¬ ShapeOk T) := Lib.hid (fun h => by have h1 := (h.1.2.2.1 (by rw [hk]; unfold IsLab; omega)).1; omega)
  rw [hk]
  rw [name_nil hn]
  rw [hl]
  clear S hs hr
  first | clear hk | skip
  first | clear hn | skip
  first | clear hl | skip
  go_enter Tryz.func85, Tryz.ntmps85
  go_wp2_with (first | (go_at_call 65; (with_reducible refine (In_any _ _ _ _).mono ?_); rintro e w3 ⟨rfl, rfl⟩))
  go_ret
  exact ⟨false, (by first | rfl | exact ret_bool (by assumption)), iffF HH.out, below1 _ _⟩

set_option maxRecDepth 100000 in
theorem sh_lab_bad16 {T : Ty} {A B : Option Addr} {ca cb lo : Nat} (S : SF T A B ca cb lo) (w : World) (hs : Strs w lo T.labels A) (hr : Ty.RowAt w lo T.kids B) (hk : T.kind = 16) (hn : T.name.size = 0) (hl : 0 < T.labels.length) (hb : ¬ LabelsOk T.labels) :
    Calls Tryz.prog 85 #[.agg #[.int .i64 T.kind, .string T.name, .slice A T.labels.length ca, .slice B T.kids.length cb]] w (SaysB (ShapeOk T) w) := by
  have CN := Lib.hid S.cn
  have HS := Lib.hid hs
  have HR := Lib.hid hr
  have hll := S.ll
  have hkl := S.kl
  have hl' : (0 : Int) < (T.labels.length : Int) := by omega
  have hlN : 0 < T.labels.length := by omega
  have HH : Hid (¬ ShapeOk T) := Lib.hid (fun h => hb (h.1.2.2.1 (by rw [hk]; unfold IsLab; omega)))
  have CL : Hid (∀ W : World, Strs W lo T.labels A → Calls Tryz.prog 93 #[.slice A T.labels.length ca] W fun e w' => e = .returned (.bool false) ∧ ∃ n, w' = W.drewN n) := Lib.hid (fun W h => (S.cl W h).mono fun _ _ k => k.no hb)
  rw [hk]
  rw [name_nil hn]
  clear S hs hr
  first | clear hk | skip
  first | clear hn | skip
  first | clear hl | skip
  first | clear hb | skip
  go_enter Tryz.func85, Tryz.ntmps85
  go_wp2_with (first | (go_at_call 65; (with_reducible refine (In_any _ _ _ _).mono ?_); rintro e w3 ⟨rfl, rfl⟩) | (go_at_call 93; (with_reducible refine (CL.out _ (HS.out.below (below1 _ _))).mono ?_); rintro e w4 ⟨rfl, n4, rfl⟩))
  go_ret
  exact ⟨false, (by first | rfl | exact ret_bool (by assumption)), iffF HH.out, belowN (below1 _ _) n4⟩

set_option maxRecDepth 100000 in
theorem sh_rec_len {T : Ty} {A B : Option Addr} {ca cb lo : Nat} (S : SF T A B ca cb lo) (w : World) (hs : Strs w lo T.labels A) (hr : Ty.RowAt w lo T.kids B) (hk : T.kind = 16) (hn : T.name.size = 0) (hb : LabelsOk T.labels) (hm : T.kids.length ≠ T.labels.length) :
    Calls Tryz.prog 85 #[.agg #[.int .i64 T.kind, .string T.name, .slice A T.labels.length ca, .slice B T.kids.length cb]] w (SaysB (ShapeOk T) w) := by
  have CN := Lib.hid S.cn
  have HS := Lib.hid hs
  have HR := Lib.hid hr
  have hll := S.ll
  have hkl := S.kl
  have hlN : 0 < T.labels.length := hb.1
  have HH : Hid (¬ ShapeOk T) := Lib.hid (fun h => by have h1 := h.2; unfold BodyOk at h1; simp only [hk] at h1; exact hm h1.1)
  have e1 : ((T.kids.length : Int) == (T.labels.length : Int)) = false := by rw [beq_eq_false_iff_ne]; omega
  have CL : Hid (∀ W : World, Strs W lo T.labels A → Calls Tryz.prog 93 #[.slice A T.labels.length ca] W fun e w' => e = .returned (.bool true) ∧ ∃ n, w' = W.drewN n) := Lib.hid (fun W h => (S.cl W h).mono fun _ _ k => k.yes hb)
  rw [hk]
  rw [name_nil hn]
  clear S hs hr
  first | clear hk | skip
  first | clear hn | skip
  first | clear hb | skip
  first | clear hm | skip
  go_enter Tryz.func85, Tryz.ntmps85
  go_wp2_with (first | (go_at_call 65; (with_reducible refine (In_any _ _ _ _).mono ?_); rintro e w3 ⟨rfl, rfl⟩) | (go_at_call 93; (with_reducible refine (CL.out _ (HS.out.below (below1 _ _))).mono ?_); rintro e w4 ⟨rfl, n4, rfl⟩))
  go_ret
  exact ⟨false, (by first | rfl | exact ret_bool (by assumption)), iffF HH.out, belowN (below1 _ _) n4⟩

set_option maxRecDepth 100000 in
theorem sh_rec_no {T : Ty} {A B : Option Addr} {ca cb lo : Nat} (S : SF T A B ca cb lo) (w : World) (hs : Strs w lo T.labels A) (hr : Ty.RowAt w lo T.kids B) (hk : T.kind = 16) (hn : T.name.size = 0) (hb : LabelsOk T.labels) (hm : T.kids.length = T.labels.length) (hu : ¬ UnitIn T.kids T.kids.length) :
    Calls Tryz.prog 85 #[.agg #[.int .i64 T.kind, .string T.name, .slice A T.labels.length ca, .slice B T.kids.length cb]] w (SaysB (ShapeOk T) w) := by
  have CN := Lib.hid S.cn
  have HS := Lib.hid hs
  have HR := Lib.hid hr
  have hll := S.ll
  have hkl := S.kl
  have hlN : 0 < T.labels.length := hb.1
  have HH : Hid (ShapeOk T) := Lib.hid ⟨⟨fun h => by rw [hk] at h; unfold IsRes at h; omega, fun _ => hn, fun _ => hb, fun h => absurd (by rw [hk]; unfold IsLab; omega) h⟩, by unfold BodyOk; simp only [hk]; exact ⟨hm, hu⟩⟩
  have e1 : ((T.kids.length : Int) == (T.labels.length : Int)) = true := by rw [beq_iff_eq]; omega
  have CL : Hid (∀ W : World, Strs W lo T.labels A → Calls Tryz.prog 93 #[.slice A T.labels.length ca] W fun e w' => e = .returned (.bool true) ∧ ∃ n, w' = W.drewN n) := Lib.hid (fun W h => (S.cl W h).mono fun _ _ k => k.yes hb)
  have CU : Hid (∀ W : World, Ty.RowAt W lo T.kids B → Calls Tryz.prog 94 #[.agg #[.int .i64 16, .string ⟨#[]⟩, .slice A T.labels.length ca, .slice B T.kids.length cb]] W fun e w' => e = .returned (.bool false) ∧ Below W.heap.size W w') := Lib.hid (fun W h => by have k := S.cu W h; rw [hk, name_nil hn] at k; exact k.mono fun _ _ k => k.no hu)
  rw [hk]
  rw [name_nil hn]
  clear S hs hr
  first | clear hk | skip
  first | clear hn | skip
  first | clear hb | skip
  first | clear hm | skip
  first | clear hu | skip
  go_enter Tryz.func85, Tryz.ntmps85
  go_wp2_with (first | (go_at_call 65; (with_reducible refine (In_any _ _ _ _).mono ?_); rintro e w3 ⟨rfl, rfl⟩) | (go_at_call 93; (with_reducible refine (CL.out _ (HS.out.below (below1 _ _))).mono ?_); rintro e w4 ⟨rfl, n4, rfl⟩) | (go_at_call 94; (with_reducible refine (CU.out _ (HR.out.below (belowN (below1 _ _) n4))).mono ?_); rintro e w5 ⟨rfl, hb5⟩; have HB5 := Lib.hid hb5; clear hb5))
  go_ret
  exact ⟨true, (by first | rfl | exact ret_bool (by assumption)), iffT HH.out, bnext (belowN (below1 _ _) n4) HB5.out⟩

set_option maxRecDepth 100000 in
theorem sh_rec_yes {T : Ty} {A B : Option Addr} {ca cb lo : Nat} (S : SF T A B ca cb lo) (w : World) (hs : Strs w lo T.labels A) (hr : Ty.RowAt w lo T.kids B) (hk : T.kind = 16) (hn : T.name.size = 0) (hb : LabelsOk T.labels) (hm : T.kids.length = T.labels.length) (hu : UnitIn T.kids T.kids.length) :
    Calls Tryz.prog 85 #[.agg #[.int .i64 T.kind, .string T.name, .slice A T.labels.length ca, .slice B T.kids.length cb]] w (SaysB (ShapeOk T) w) := by
  have CN := Lib.hid S.cn
  have HS := Lib.hid hs
  have HR := Lib.hid hr
  have hll := S.ll
  have hkl := S.kl
  have hlN : 0 < T.labels.length := hb.1
  have HH : Hid (¬ ShapeOk T) := Lib.hid (fun h => by have h1 := h.2; unfold BodyOk at h1; simp only [hk] at h1; exact h1.2 hu)
  have e1 : ((T.kids.length : Int) == (T.labels.length : Int)) = true := by rw [beq_iff_eq]; omega
  have CL : Hid (∀ W : World, Strs W lo T.labels A → Calls Tryz.prog 93 #[.slice A T.labels.length ca] W fun e w' => e = .returned (.bool true) ∧ ∃ n, w' = W.drewN n) := Lib.hid (fun W h => (S.cl W h).mono fun _ _ k => k.yes hb)
  have CU : Hid (∀ W : World, Ty.RowAt W lo T.kids B → Calls Tryz.prog 94 #[.agg #[.int .i64 16, .string ⟨#[]⟩, .slice A T.labels.length ca, .slice B T.kids.length cb]] W fun e w' => e = .returned (.bool true) ∧ Below W.heap.size W w') := Lib.hid (fun W h => by have k := S.cu W h; rw [hk, name_nil hn] at k; exact k.mono fun _ _ k => k.yes hu)
  rw [hk]
  rw [name_nil hn]
  clear S hs hr
  first | clear hk | skip
  first | clear hn | skip
  first | clear hb | skip
  first | clear hm | skip
  first | clear hu | skip
  go_enter Tryz.func85, Tryz.ntmps85
  go_wp2_with (first | (go_at_call 65; (with_reducible refine (In_any _ _ _ _).mono ?_); rintro e w3 ⟨rfl, rfl⟩) | (go_at_call 93; (with_reducible refine (CL.out _ (HS.out.below (below1 _ _))).mono ?_); rintro e w4 ⟨rfl, n4, rfl⟩) | (go_at_call 94; (with_reducible refine (CU.out _ (HR.out.below (belowN (below1 _ _) n4))).mono ?_); rintro e w5 ⟨rfl, hb5⟩; have HB5 := Lib.hid hb5; clear hb5))
  go_ret
  exact ⟨false, (by first | rfl | exact ret_bool (by assumption)), iffF HH.out, bnext (belowN (below1 _ _) n4) HB5.out⟩

set_option maxRecDepth 100000 in
theorem sh_lab_none17 {T : Ty} {A B : Option Addr} {ca cb lo : Nat} (S : SF T A B ca cb lo) (w : World) (hs : Strs w lo T.labels A) (hr : Ty.RowAt w lo T.kids B) (hk : T.kind = 17) (hn : T.name.size = 0) (hl : T.labels.length = 0) :
    Calls Tryz.prog 85 #[.agg #[.int .i64 T.kind, .string T.name, .slice A T.labels.length ca, .slice B T.kids.length cb]] w (SaysB (ShapeOk T) w) := by
  have CN := Lib.hid S.cn
  have HS := Lib.hid hs
  have HR := Lib.hid hr
  have hll := S.ll
  have hkl := S.kl
  have HH : Hid (¬ ShapeOk T) := Lib.hid (fun h => by have h1 := (h.1.2.2.1 (by rw [hk]; unfold IsLab; omega)).1; omega)
  rw [hk]
  rw [name_nil hn]
  rw [hl]
  clear S hs hr
  first | clear hk | skip
  first | clear hn | skip
  first | clear hl | skip
  go_enter Tryz.func85, Tryz.ntmps85
  go_wp2_with (first | (go_at_call 65; (with_reducible refine (In_any _ _ _ _).mono ?_); rintro e w3 ⟨rfl, rfl⟩))
  go_ret
  exact ⟨false, (by first | rfl | exact ret_bool (by assumption)), iffF HH.out, below1 _ _⟩

set_option maxRecDepth 100000 in
theorem sh_lab_bad17 {T : Ty} {A B : Option Addr} {ca cb lo : Nat} (S : SF T A B ca cb lo) (w : World) (hs : Strs w lo T.labels A) (hr : Ty.RowAt w lo T.kids B) (hk : T.kind = 17) (hn : T.name.size = 0) (hl : 0 < T.labels.length) (hb : ¬ LabelsOk T.labels) :
    Calls Tryz.prog 85 #[.agg #[.int .i64 T.kind, .string T.name, .slice A T.labels.length ca, .slice B T.kids.length cb]] w (SaysB (ShapeOk T) w) := by
  have CN := Lib.hid S.cn
  have HS := Lib.hid hs
  have HR := Lib.hid hr
  have hll := S.ll
  have hkl := S.kl
  have hl' : (0 : Int) < (T.labels.length : Int) := by omega
  have hlN : 0 < T.labels.length := by omega
  have HH : Hid (¬ ShapeOk T) := Lib.hid (fun h => hb (h.1.2.2.1 (by rw [hk]; unfold IsLab; omega)))
  have CL : Hid (∀ W : World, Strs W lo T.labels A → Calls Tryz.prog 93 #[.slice A T.labels.length ca] W fun e w' => e = .returned (.bool false) ∧ ∃ n, w' = W.drewN n) := Lib.hid (fun W h => (S.cl W h).mono fun _ _ k => k.no hb)
  rw [hk]
  rw [name_nil hn]
  clear S hs hr
  first | clear hk | skip
  first | clear hn | skip
  first | clear hl | skip
  first | clear hb | skip
  go_enter Tryz.func85, Tryz.ntmps85
  go_wp2_with (first | (go_at_call 65; (with_reducible refine (In_any _ _ _ _).mono ?_); rintro e w3 ⟨rfl, rfl⟩) | (go_at_call 93; (with_reducible refine (CL.out _ (HS.out.below (below1 _ _))).mono ?_); rintro e w4 ⟨rfl, n4, rfl⟩))
  go_ret
  exact ⟨false, (by first | rfl | exact ret_bool (by assumption)), iffF HH.out, belowN (below1 _ _) n4⟩

set_option maxRecDepth 100000 in
theorem sh_var_no {T : Ty} {A B : Option Addr} {ca cb lo : Nat} (S : SF T A B ca cb lo) (w : World) (hs : Strs w lo T.labels A) (hr : Ty.RowAt w lo T.kids B) (hk : T.kind = 17) (hn : T.name.size = 0) (hb : LabelsOk T.labels) (hm : T.kids.length ≠ T.labels.length) :
    Calls Tryz.prog 85 #[.agg #[.int .i64 T.kind, .string T.name, .slice A T.labels.length ca, .slice B T.kids.length cb]] w (SaysB (ShapeOk T) w) := by
  have CN := Lib.hid S.cn
  have HS := Lib.hid hs
  have HR := Lib.hid hr
  have hll := S.ll
  have hkl := S.kl
  have hlN : 0 < T.labels.length := hb.1
  have HH : Hid (¬ ShapeOk T) := Lib.hid (fun h => by have h1 := h.2; unfold BodyOk at h1; simp only [hk] at h1; exact hm h1)
  have e1 : ((T.kids.length : Int) == (T.labels.length : Int)) = false := by rw [beq_eq_false_iff_ne]; omega
  have CL : Hid (∀ W : World, Strs W lo T.labels A → Calls Tryz.prog 93 #[.slice A T.labels.length ca] W fun e w' => e = .returned (.bool true) ∧ ∃ n, w' = W.drewN n) := Lib.hid (fun W h => (S.cl W h).mono fun _ _ k => k.yes hb)
  rw [hk]
  rw [name_nil hn]
  clear S hs hr
  first | clear hk | skip
  first | clear hn | skip
  first | clear hb | skip
  first | clear hm | skip
  go_enter Tryz.func85, Tryz.ntmps85
  go_wp2_with (first | (go_at_call 65; (with_reducible refine (In_any _ _ _ _).mono ?_); rintro e w3 ⟨rfl, rfl⟩) | (go_at_call 93; (with_reducible refine (CL.out _ (HS.out.below (below1 _ _))).mono ?_); rintro e w4 ⟨rfl, n4, rfl⟩))
  go_ret
  exact ⟨false, (by first | rfl | exact ret_bool (by assumption)), iffF HH.out, belowN (below1 _ _) n4⟩

set_option maxRecDepth 100000 in
theorem sh_var_yes {T : Ty} {A B : Option Addr} {ca cb lo : Nat} (S : SF T A B ca cb lo) (w : World) (hs : Strs w lo T.labels A) (hr : Ty.RowAt w lo T.kids B) (hk : T.kind = 17) (hn : T.name.size = 0) (hb : LabelsOk T.labels) (hm : T.kids.length = T.labels.length) :
    Calls Tryz.prog 85 #[.agg #[.int .i64 T.kind, .string T.name, .slice A T.labels.length ca, .slice B T.kids.length cb]] w (SaysB (ShapeOk T) w) := by
  have CN := Lib.hid S.cn
  have HS := Lib.hid hs
  have HR := Lib.hid hr
  have hll := S.ll
  have hkl := S.kl
  have hlN : 0 < T.labels.length := hb.1
  have HH : Hid (ShapeOk T) := Lib.hid ⟨⟨fun h => by rw [hk] at h; unfold IsRes at h; omega, fun _ => hn, fun _ => hb, fun h => absurd (by rw [hk]; unfold IsLab; omega) h⟩, by unfold BodyOk; simp only [hk]; exact hm⟩
  have e1 : ((T.kids.length : Int) == (T.labels.length : Int)) = true := by rw [beq_iff_eq]; omega
  have CL : Hid (∀ W : World, Strs W lo T.labels A → Calls Tryz.prog 93 #[.slice A T.labels.length ca] W fun e w' => e = .returned (.bool true) ∧ ∃ n, w' = W.drewN n) := Lib.hid (fun W h => (S.cl W h).mono fun _ _ k => k.yes hb)
  rw [hk]
  rw [name_nil hn]
  clear S hs hr
  first | clear hk | skip
  first | clear hn | skip
  first | clear hb | skip
  first | clear hm | skip
  go_enter Tryz.func85, Tryz.ntmps85
  go_wp2_with (first | (go_at_call 65; (with_reducible refine (In_any _ _ _ _).mono ?_); rintro e w3 ⟨rfl, rfl⟩) | (go_at_call 93; (with_reducible refine (CL.out _ (HS.out.below (below1 _ _))).mono ?_); rintro e w4 ⟨rfl, n4, rfl⟩))
  go_ret
  exact ⟨true, (by first | rfl | exact ret_bool (by assumption)), iffT HH.out, belowN (below1 _ _) n4⟩

set_option maxRecDepth 100000 in
theorem sh_lab_none18 {T : Ty} {A B : Option Addr} {ca cb lo : Nat} (S : SF T A B ca cb lo) (w : World) (hs : Strs w lo T.labels A) (hr : Ty.RowAt w lo T.kids B) (hk : T.kind = 18) (hn : T.name.size = 0) (hl : T.labels.length = 0) :
    Calls Tryz.prog 85 #[.agg #[.int .i64 T.kind, .string T.name, .slice A T.labels.length ca, .slice B T.kids.length cb]] w (SaysB (ShapeOk T) w) := by
  have CN := Lib.hid S.cn
  have HS := Lib.hid hs
  have HR := Lib.hid hr
  have hll := S.ll
  have hkl := S.kl
  have HH : Hid (¬ ShapeOk T) := Lib.hid (fun h => by have h1 := (h.1.2.2.1 (by rw [hk]; unfold IsLab; omega)).1; omega)
  rw [hk]
  rw [name_nil hn]
  rw [hl]
  clear S hs hr
  first | clear hk | skip
  first | clear hn | skip
  first | clear hl | skip
  go_enter Tryz.func85, Tryz.ntmps85
  go_wp2_with (first | (go_at_call 65; (with_reducible refine (In_any _ _ _ _).mono ?_); rintro e w3 ⟨rfl, rfl⟩))
  go_ret
  exact ⟨false, (by first | rfl | exact ret_bool (by assumption)), iffF HH.out, below1 _ _⟩

set_option maxRecDepth 100000 in
theorem sh_lab_bad18 {T : Ty} {A B : Option Addr} {ca cb lo : Nat} (S : SF T A B ca cb lo) (w : World) (hs : Strs w lo T.labels A) (hr : Ty.RowAt w lo T.kids B) (hk : T.kind = 18) (hn : T.name.size = 0) (hl : 0 < T.labels.length) (hb : ¬ LabelsOk T.labels) :
    Calls Tryz.prog 85 #[.agg #[.int .i64 T.kind, .string T.name, .slice A T.labels.length ca, .slice B T.kids.length cb]] w (SaysB (ShapeOk T) w) := by
  have CN := Lib.hid S.cn
  have HS := Lib.hid hs
  have HR := Lib.hid hr
  have hll := S.ll
  have hkl := S.kl
  have hl' : (0 : Int) < (T.labels.length : Int) := by omega
  have hlN : 0 < T.labels.length := by omega
  have HH : Hid (¬ ShapeOk T) := Lib.hid (fun h => hb (h.1.2.2.1 (by rw [hk]; unfold IsLab; omega)))
  have CL : Hid (∀ W : World, Strs W lo T.labels A → Calls Tryz.prog 93 #[.slice A T.labels.length ca] W fun e w' => e = .returned (.bool false) ∧ ∃ n, w' = W.drewN n) := Lib.hid (fun W h => (S.cl W h).mono fun _ _ k => k.no hb)
  rw [hk]
  rw [name_nil hn]
  clear S hs hr
  first | clear hk | skip
  first | clear hn | skip
  first | clear hl | skip
  first | clear hb | skip
  go_enter Tryz.func85, Tryz.ntmps85
  go_wp2_with (first | (go_at_call 65; (with_reducible refine (In_any _ _ _ _).mono ?_); rintro e w3 ⟨rfl, rfl⟩) | (go_at_call 93; (with_reducible refine (CL.out _ (HS.out.below (below1 _ _))).mono ?_); rintro e w4 ⟨rfl, n4, rfl⟩))
  go_ret
  exact ⟨false, (by first | rfl | exact ret_bool (by assumption)), iffF HH.out, belowN (below1 _ _) n4⟩

set_option maxRecDepth 100000 in
theorem sh_flat_no18 {T : Ty} {A B : Option Addr} {ca cb lo : Nat} (S : SF T A B ca cb lo) (w : World) (hs : Strs w lo T.labels A) (hr : Ty.RowAt w lo T.kids B) (hk : T.kind = 18) (hn : T.name.size = 0) (hb : LabelsOk T.labels) (hm : 0 < T.kids.length) :
    Calls Tryz.prog 85 #[.agg #[.int .i64 T.kind, .string T.name, .slice A T.labels.length ca, .slice B T.kids.length cb]] w (SaysB (ShapeOk T) w) := by
  have CN := Lib.hid S.cn
  have HS := Lib.hid hs
  have HR := Lib.hid hr
  have hll := S.ll
  have hkl := S.kl
  have hlN : 0 < T.labels.length := hb.1
  have HH : Hid (¬ ShapeOk T) := Lib.hid (fun h => by have h1 := h.2; unfold BodyOk at h1; simp only [hk] at h1; have h2 : T.kids.length = 0 := h1.2; omega)
  have e1 : ((T.kids.length : Int) == 0) = false := by rw [beq_eq_false_iff_ne]; omega
  have CL : Hid (∀ W : World, Strs W lo T.labels A → Calls Tryz.prog 93 #[.slice A T.labels.length ca] W fun e w' => e = .returned (.bool true) ∧ ∃ n, w' = W.drewN n) := Lib.hid (fun W h => (S.cl W h).mono fun _ _ k => k.yes hb)
  rw [hk]
  rw [name_nil hn]
  clear S hs hr
  first | clear hk | skip
  first | clear hn | skip
  first | clear hb | skip
  first | clear hm | skip
  go_enter Tryz.func85, Tryz.ntmps85
  go_wp2_with (first | (go_at_call 65; (with_reducible refine (In_any _ _ _ _).mono ?_); rintro e w3 ⟨rfl, rfl⟩) | (go_at_call 93; (with_reducible refine (CL.out _ (HS.out.below (below1 _ _))).mono ?_); rintro e w4 ⟨rfl, n4, rfl⟩))
  go_ret
  exact ⟨false, (by first | rfl | exact ret_bool (by assumption)), iffF HH.out, belowN (below1 _ _) n4⟩

set_option maxRecDepth 100000 in
theorem sh_flat_yes18 {T : Ty} {A B : Option Addr} {ca cb lo : Nat} (S : SF T A B ca cb lo) (w : World) (hs : Strs w lo T.labels A) (hr : Ty.RowAt w lo T.kids B) (hk : T.kind = 18) (hn : T.name.size = 0) (hb : LabelsOk T.labels) (hm : T.kids.length = 0) :
    Calls Tryz.prog 85 #[.agg #[.int .i64 T.kind, .string T.name, .slice A T.labels.length ca, .slice B T.kids.length cb]] w (SaysB (ShapeOk T) w) := by
  have CN := Lib.hid S.cn
  have HS := Lib.hid hs
  have HR := Lib.hid hr
  have hll := S.ll
  have hkl := S.kl
  have hlN : 0 < T.labels.length := hb.1
  have HH : Hid (ShapeOk T) := Lib.hid ⟨⟨fun h => by rw [hk] at h; unfold IsRes at h; omega, fun _ => hn, fun _ => hb, fun h => absurd (by rw [hk]; unfold IsLab; omega) h⟩, by unfold BodyOk; simp only [hk]; exact ⟨by decide, hm⟩⟩
  have CL : Hid (∀ W : World, Strs W lo T.labels A → Calls Tryz.prog 93 #[.slice A T.labels.length ca] W fun e w' => e = .returned (.bool true) ∧ ∃ n, w' = W.drewN n) := Lib.hid (fun W h => (S.cl W h).mono fun _ _ k => k.yes hb)
  rw [hk]
  rw [name_nil hn]
  rw [hm]
  clear S hs hr
  first | clear hk | skip
  first | clear hn | skip
  first | clear hb | skip
  first | clear hm | skip
  go_enter Tryz.func85, Tryz.ntmps85
  go_wp2_with (first | (go_at_call 65; (with_reducible refine (In_any _ _ _ _).mono ?_); rintro e w3 ⟨rfl, rfl⟩) | (go_at_call 93; (with_reducible refine (CL.out _ (HS.out.below (below1 _ _))).mono ?_); rintro e w4 ⟨rfl, n4, rfl⟩))
  go_ret
  exact ⟨true, (by first | rfl | exact ret_bool (by assumption)), iffT HH.out, belowN (below1 _ _) n4⟩

set_option maxRecDepth 100000 in
theorem sh_lab_none19 {T : Ty} {A B : Option Addr} {ca cb lo : Nat} (S : SF T A B ca cb lo) (w : World) (hs : Strs w lo T.labels A) (hr : Ty.RowAt w lo T.kids B) (hk : T.kind = 19) (hn : T.name.size = 0) (hl : T.labels.length = 0) :
    Calls Tryz.prog 85 #[.agg #[.int .i64 T.kind, .string T.name, .slice A T.labels.length ca, .slice B T.kids.length cb]] w (SaysB (ShapeOk T) w) := by
  have CN := Lib.hid S.cn
  have HS := Lib.hid hs
  have HR := Lib.hid hr
  have hll := S.ll
  have hkl := S.kl
  have HH : Hid (¬ ShapeOk T) := Lib.hid (fun h => by have h1 := (h.1.2.2.1 (by rw [hk]; unfold IsLab; omega)).1; omega)
  rw [hk]
  rw [name_nil hn]
  rw [hl]
  clear S hs hr
  first | clear hk | skip
  first | clear hn | skip
  first | clear hl | skip
  go_enter Tryz.func85, Tryz.ntmps85
  go_wp2_with (first | (go_at_call 65; (with_reducible refine (In_any _ _ _ _).mono ?_); rintro e w3 ⟨rfl, rfl⟩))
  go_ret
  exact ⟨false, (by first | rfl | exact ret_bool (by assumption)), iffF HH.out, below1 _ _⟩

set_option maxRecDepth 100000 in
theorem sh_lab_bad19 {T : Ty} {A B : Option Addr} {ca cb lo : Nat} (S : SF T A B ca cb lo) (w : World) (hs : Strs w lo T.labels A) (hr : Ty.RowAt w lo T.kids B) (hk : T.kind = 19) (hn : T.name.size = 0) (hl : 0 < T.labels.length) (hb : ¬ LabelsOk T.labels) :
    Calls Tryz.prog 85 #[.agg #[.int .i64 T.kind, .string T.name, .slice A T.labels.length ca, .slice B T.kids.length cb]] w (SaysB (ShapeOk T) w) := by
  have CN := Lib.hid S.cn
  have HS := Lib.hid hs
  have HR := Lib.hid hr
  have hll := S.ll
  have hkl := S.kl
  have hl' : (0 : Int) < (T.labels.length : Int) := by omega
  have hlN : 0 < T.labels.length := by omega
  have HH : Hid (¬ ShapeOk T) := Lib.hid (fun h => hb (h.1.2.2.1 (by rw [hk]; unfold IsLab; omega)))
  have CL : Hid (∀ W : World, Strs W lo T.labels A → Calls Tryz.prog 93 #[.slice A T.labels.length ca] W fun e w' => e = .returned (.bool false) ∧ ∃ n, w' = W.drewN n) := Lib.hid (fun W h => (S.cl W h).mono fun _ _ k => k.no hb)
  rw [hk]
  rw [name_nil hn]
  clear S hs hr
  first | clear hk | skip
  first | clear hn | skip
  first | clear hl | skip
  first | clear hb | skip
  go_enter Tryz.func85, Tryz.ntmps85
  go_wp2_with (first | (go_at_call 65; (with_reducible refine (In_any _ _ _ _).mono ?_); rintro e w3 ⟨rfl, rfl⟩) | (go_at_call 93; (with_reducible refine (CL.out _ (HS.out.below (below1 _ _))).mono ?_); rintro e w4 ⟨rfl, n4, rfl⟩))
  go_ret
  exact ⟨false, (by first | rfl | exact ret_bool (by assumption)), iffF HH.out, belowN (below1 _ _) n4⟩

set_option maxRecDepth 100000 in
theorem sh_flat_no19 {T : Ty} {A B : Option Addr} {ca cb lo : Nat} (S : SF T A B ca cb lo) (w : World) (hs : Strs w lo T.labels A) (hr : Ty.RowAt w lo T.kids B) (hk : T.kind = 19) (hn : T.name.size = 0) (hb : LabelsOk T.labels) (hm : 0 < T.kids.length) :
    Calls Tryz.prog 85 #[.agg #[.int .i64 T.kind, .string T.name, .slice A T.labels.length ca, .slice B T.kids.length cb]] w (SaysB (ShapeOk T) w) := by
  have CN := Lib.hid S.cn
  have HS := Lib.hid hs
  have HR := Lib.hid hr
  have hll := S.ll
  have hkl := S.kl
  have hlN : 0 < T.labels.length := hb.1
  have HH : Hid (¬ ShapeOk T) := Lib.hid (fun h => by have h1 := h.2; unfold BodyOk at h1; simp only [hk] at h1; have h2 : T.kids.length = 0 := h1.2; omega)
  have e1 : ((T.kids.length : Int) == 0) = false := by rw [beq_eq_false_iff_ne]; omega
  have CL : Hid (∀ W : World, Strs W lo T.labels A → Calls Tryz.prog 93 #[.slice A T.labels.length ca] W fun e w' => e = .returned (.bool true) ∧ ∃ n, w' = W.drewN n) := Lib.hid (fun W h => (S.cl W h).mono fun _ _ k => k.yes hb)
  rw [hk]
  rw [name_nil hn]
  clear S hs hr
  first | clear hk | skip
  first | clear hn | skip
  first | clear hb | skip
  first | clear hm | skip
  go_enter Tryz.func85, Tryz.ntmps85
  go_wp2_with (first | (go_at_call 65; (with_reducible refine (In_any _ _ _ _).mono ?_); rintro e w3 ⟨rfl, rfl⟩) | (go_at_call 93; (with_reducible refine (CL.out _ (HS.out.below (below1 _ _))).mono ?_); rintro e w4 ⟨rfl, n4, rfl⟩))
  go_ret
  exact ⟨false, (by first | rfl | exact ret_bool (by assumption)), iffF HH.out, belowN (below1 _ _) n4⟩

set_option maxRecDepth 100000 in
theorem sh_flat_yes19 {T : Ty} {A B : Option Addr} {ca cb lo : Nat} (S : SF T A B ca cb lo) (w : World) (hs : Strs w lo T.labels A) (hr : Ty.RowAt w lo T.kids B) (hk : T.kind = 19) (hn : T.name.size = 0) (hb : LabelsOk T.labels) (hm : T.kids.length = 0) :
    Calls Tryz.prog 85 #[.agg #[.int .i64 T.kind, .string T.name, .slice A T.labels.length ca, .slice B T.kids.length cb]] w (SaysB (ShapeOk T) w) := by
  have CN := Lib.hid S.cn
  have HS := Lib.hid hs
  have HR := Lib.hid hr
  have hll := S.ll
  have hkl := S.kl
  have hlN : 0 < T.labels.length := hb.1
  have HH : Hid (ShapeOk T) := Lib.hid ⟨⟨fun h => by rw [hk] at h; unfold IsRes at h; omega, fun _ => hn, fun _ => hb, fun h => absurd (by rw [hk]; unfold IsLab; omega) h⟩, by unfold BodyOk; simp only [hk]; exact ⟨by decide, hm⟩⟩
  have CL : Hid (∀ W : World, Strs W lo T.labels A → Calls Tryz.prog 93 #[.slice A T.labels.length ca] W fun e w' => e = .returned (.bool true) ∧ ∃ n, w' = W.drewN n) := Lib.hid (fun W h => (S.cl W h).mono fun _ _ k => k.yes hb)
  rw [hk]
  rw [name_nil hn]
  rw [hm]
  clear S hs hr
  first | clear hk | skip
  first | clear hn | skip
  first | clear hb | skip
  first | clear hm | skip
  go_enter Tryz.func85, Tryz.ntmps85
  go_wp2_with (first | (go_at_call 65; (with_reducible refine (In_any _ _ _ _).mono ?_); rintro e w3 ⟨rfl, rfl⟩) | (go_at_call 93; (with_reducible refine (CL.out _ (HS.out.below (below1 _ _))).mono ?_); rintro e w4 ⟨rfl, n4, rfl⟩))
  go_ret
  exact ⟨true, (by first | rfl | exact ret_bool (by assumption)), iffT HH.out, belowN (below1 _ _) n4⟩

set_option maxRecDepth 100000 in
theorem sh_one_len12 {T : Ty} {A B : Option Addr} {ca cb lo : Nat} (S : SF T A B ca cb lo) (w : World) (hs : Strs w lo T.labels A) (hr : Ty.RowAt w lo T.kids B) (hk : T.kind = 12) (hn : T.name.size = 0) (hl : T.labels.length = 0) (hm : T.kids.length ≠ 1) :
    Calls Tryz.prog 85 #[.agg #[.int .i64 T.kind, .string T.name, .slice A T.labels.length ca, .slice B T.kids.length cb]] w (SaysB (ShapeOk T) w) := by
  have CN := Lib.hid S.cn
  have HS := Lib.hid hs
  have HR := Lib.hid hr
  have hll := S.ll
  have hkl := S.kl
  have HH : Hid (¬ ShapeOk T) := Lib.hid (fun h => by have h1 := h.2; unfold BodyOk at h1; simp only [hk] at h1; exact hm h1.1)
  have e1 : ((T.kids.length : Int) == 1) = false := by rw [beq_eq_false_iff_ne]; omega
  rw [hk]
  rw [name_nil hn]
  rw [hl]
  clear S hs hr
  first | clear hk | skip
  first | clear hn | skip
  first | clear hl | skip
  first | clear hm | skip
  go_enter Tryz.func85, Tryz.ntmps85
  go_wp2_with (first | (go_at_call 65; (with_reducible refine (In_any _ _ _ _).mono ?_); rintro e w3 ⟨rfl, rfl⟩))
  go_ret
  exact ⟨false, (by first | rfl | exact ret_bool (by assumption)), iffF HH.out, below1 _ _⟩

set_option maxRecDepth 100000 in
theorem sh_one_yes12 {T : Ty} {A B : Option Addr} {ca cb lo : Nat} (S : SF T A B ca cb lo) (w : World) (hs : Strs w lo T.labels A) (hr : Ty.RowAt w lo T.kids B) (hk : T.kind = 12) (hn : T.name.size = 0) (hl : T.labels.length = 0) (hm : T.kids.length = 1) (hu : UnitIn T.kids T.kids.length) :
    Calls Tryz.prog 85 #[.agg #[.int .i64 T.kind, .string T.name, .slice A T.labels.length ca, .slice B T.kids.length cb]] w (SaysB (ShapeOk T) w) := by
  have CN := Lib.hid S.cn
  have HS := Lib.hid hs
  have HR := Lib.hid hr
  have hll := S.ll
  have hkl := S.kl
  have HH : Hid (¬ ShapeOk T) := Lib.hid (fun h => by have h1 := h.2; unfold BodyOk at h1; simp only [hk] at h1; exact h1.2 hu)
  have e1 : ((T.kids.length : Int) == 1) = true := by rw [beq_iff_eq]; omega
  have CU : Hid (∀ W : World, Ty.RowAt W lo T.kids B → Calls Tryz.prog 94 #[.agg #[.int .i64 12, .string ⟨#[]⟩, .slice A 0 ca, .slice B T.kids.length cb]] W fun e w' => e = .returned (.bool true) ∧ Below W.heap.size W w') := Lib.hid (fun W h => by have k := S.cu W h; rw [hk, name_nil hn, hl] at k; exact k.mono fun _ _ k => k.yes hu)
  rw [hk]
  rw [name_nil hn]
  rw [hl]
  clear S hs hr
  first | clear hk | skip
  first | clear hn | skip
  first | clear hl | skip
  first | clear hm | skip
  first | clear hu | skip
  go_enter Tryz.func85, Tryz.ntmps85
  go_wp2_with (first | (go_at_call 65; (with_reducible refine (In_any _ _ _ _).mono ?_); rintro e w3 ⟨rfl, rfl⟩) | (go_at_call 94; (with_reducible refine (CU.out _ (HR.out.below (below1 _ _))).mono ?_); rintro e w5 ⟨rfl, hb5⟩; have HB5 := Lib.hid hb5; clear hb5))
  go_ret
  exact ⟨false, (by first | rfl | exact ret_bool (by assumption)), iffF HH.out, bnext (below1 _ _) HB5.out⟩

set_option maxRecDepth 100000 in
theorem sh_one_no12 {T : Ty} {A B : Option Addr} {ca cb lo : Nat} (S : SF T A B ca cb lo) (w : World) (hs : Strs w lo T.labels A) (hr : Ty.RowAt w lo T.kids B) (hk : T.kind = 12) (hn : T.name.size = 0) (hl : T.labels.length = 0) (hm : T.kids.length = 1) (hu : ¬ UnitIn T.kids T.kids.length) :
    Calls Tryz.prog 85 #[.agg #[.int .i64 T.kind, .string T.name, .slice A T.labels.length ca, .slice B T.kids.length cb]] w (SaysB (ShapeOk T) w) := by
  have CN := Lib.hid S.cn
  have HS := Lib.hid hs
  have HR := Lib.hid hr
  have hll := S.ll
  have hkl := S.kl
  have HH : Hid (ShapeOk T) := Lib.hid ⟨⟨fun h => by rw [hk] at h; unfold IsRes at h; omega, fun _ => hn, fun h => by rw [hk] at h; unfold IsLab at h; omega, fun _ => hl⟩, by unfold BodyOk; simp only [hk]; exact ⟨hm, hu⟩⟩
  have e1 : ((T.kids.length : Int) == 1) = true := by rw [beq_iff_eq]; omega
  have CU : Hid (∀ W : World, Ty.RowAt W lo T.kids B → Calls Tryz.prog 94 #[.agg #[.int .i64 12, .string ⟨#[]⟩, .slice A 0 ca, .slice B T.kids.length cb]] W fun e w' => e = .returned (.bool false) ∧ Below W.heap.size W w') := Lib.hid (fun W h => by have k := S.cu W h; rw [hk, name_nil hn, hl] at k; exact k.mono fun _ _ k => k.no hu)
  rw [hk]
  rw [name_nil hn]
  rw [hl]
  clear S hs hr
  first | clear hk | skip
  first | clear hn | skip
  first | clear hl | skip
  first | clear hm | skip
  first | clear hu | skip
  go_enter Tryz.func85, Tryz.ntmps85
  go_wp2_with (first | (go_at_call 65; (with_reducible refine (In_any _ _ _ _).mono ?_); rintro e w3 ⟨rfl, rfl⟩) | (go_at_call 94; (with_reducible refine (CU.out _ (HR.out.below (below1 _ _))).mono ?_); rintro e w5 ⟨rfl, hb5⟩; have HB5 := Lib.hid hb5; clear hb5))
  go_ret
  exact ⟨true, (by first | rfl | exact ret_bool (by assumption)), iffT HH.out, bnext (below1 _ _) HB5.out⟩

set_option maxRecDepth 100000 in
theorem sh_one_len13 {T : Ty} {A B : Option Addr} {ca cb lo : Nat} (S : SF T A B ca cb lo) (w : World) (hs : Strs w lo T.labels A) (hr : Ty.RowAt w lo T.kids B) (hk : T.kind = 13) (hn : T.name.size = 0) (hl : T.labels.length = 0) (hm : T.kids.length ≠ 1) :
    Calls Tryz.prog 85 #[.agg #[.int .i64 T.kind, .string T.name, .slice A T.labels.length ca, .slice B T.kids.length cb]] w (SaysB (ShapeOk T) w) := by
  have CN := Lib.hid S.cn
  have HS := Lib.hid hs
  have HR := Lib.hid hr
  have hll := S.ll
  have hkl := S.kl
  have HH : Hid (¬ ShapeOk T) := Lib.hid (fun h => by have h1 := h.2; unfold BodyOk at h1; simp only [hk] at h1; exact hm h1.1)
  have e1 : ((T.kids.length : Int) == 1) = false := by rw [beq_eq_false_iff_ne]; omega
  rw [hk]
  rw [name_nil hn]
  rw [hl]
  clear S hs hr
  first | clear hk | skip
  first | clear hn | skip
  first | clear hl | skip
  first | clear hm | skip
  go_enter Tryz.func85, Tryz.ntmps85
  go_wp2_with (first | (go_at_call 65; (with_reducible refine (In_any _ _ _ _).mono ?_); rintro e w3 ⟨rfl, rfl⟩))
  go_ret
  exact ⟨false, (by first | rfl | exact ret_bool (by assumption)), iffF HH.out, below1 _ _⟩

set_option maxRecDepth 100000 in
theorem sh_one_yes13 {T : Ty} {A B : Option Addr} {ca cb lo : Nat} (S : SF T A B ca cb lo) (w : World) (hs : Strs w lo T.labels A) (hr : Ty.RowAt w lo T.kids B) (hk : T.kind = 13) (hn : T.name.size = 0) (hl : T.labels.length = 0) (hm : T.kids.length = 1) (hu : UnitIn T.kids T.kids.length) :
    Calls Tryz.prog 85 #[.agg #[.int .i64 T.kind, .string T.name, .slice A T.labels.length ca, .slice B T.kids.length cb]] w (SaysB (ShapeOk T) w) := by
  have CN := Lib.hid S.cn
  have HS := Lib.hid hs
  have HR := Lib.hid hr
  have hll := S.ll
  have hkl := S.kl
  have HH : Hid (¬ ShapeOk T) := Lib.hid (fun h => by have h1 := h.2; unfold BodyOk at h1; simp only [hk] at h1; exact h1.2 hu)
  have e1 : ((T.kids.length : Int) == 1) = true := by rw [beq_iff_eq]; omega
  have CU : Hid (∀ W : World, Ty.RowAt W lo T.kids B → Calls Tryz.prog 94 #[.agg #[.int .i64 13, .string ⟨#[]⟩, .slice A 0 ca, .slice B T.kids.length cb]] W fun e w' => e = .returned (.bool true) ∧ Below W.heap.size W w') := Lib.hid (fun W h => by have k := S.cu W h; rw [hk, name_nil hn, hl] at k; exact k.mono fun _ _ k => k.yes hu)
  rw [hk]
  rw [name_nil hn]
  rw [hl]
  clear S hs hr
  first | clear hk | skip
  first | clear hn | skip
  first | clear hl | skip
  first | clear hm | skip
  first | clear hu | skip
  go_enter Tryz.func85, Tryz.ntmps85
  go_wp2_with (first | (go_at_call 65; (with_reducible refine (In_any _ _ _ _).mono ?_); rintro e w3 ⟨rfl, rfl⟩) | (go_at_call 94; (with_reducible refine (CU.out _ (HR.out.below (below1 _ _))).mono ?_); rintro e w5 ⟨rfl, hb5⟩; have HB5 := Lib.hid hb5; clear hb5))
  go_ret
  exact ⟨false, (by first | rfl | exact ret_bool (by assumption)), iffF HH.out, bnext (below1 _ _) HB5.out⟩

set_option maxRecDepth 100000 in
theorem sh_one_no13 {T : Ty} {A B : Option Addr} {ca cb lo : Nat} (S : SF T A B ca cb lo) (w : World) (hs : Strs w lo T.labels A) (hr : Ty.RowAt w lo T.kids B) (hk : T.kind = 13) (hn : T.name.size = 0) (hl : T.labels.length = 0) (hm : T.kids.length = 1) (hu : ¬ UnitIn T.kids T.kids.length) :
    Calls Tryz.prog 85 #[.agg #[.int .i64 T.kind, .string T.name, .slice A T.labels.length ca, .slice B T.kids.length cb]] w (SaysB (ShapeOk T) w) := by
  have CN := Lib.hid S.cn
  have HS := Lib.hid hs
  have HR := Lib.hid hr
  have hll := S.ll
  have hkl := S.kl
  have HH : Hid (ShapeOk T) := Lib.hid ⟨⟨fun h => by rw [hk] at h; unfold IsRes at h; omega, fun _ => hn, fun h => by rw [hk] at h; unfold IsLab at h; omega, fun _ => hl⟩, by unfold BodyOk; simp only [hk]; exact ⟨hm, hu⟩⟩
  have e1 : ((T.kids.length : Int) == 1) = true := by rw [beq_iff_eq]; omega
  have CU : Hid (∀ W : World, Ty.RowAt W lo T.kids B → Calls Tryz.prog 94 #[.agg #[.int .i64 13, .string ⟨#[]⟩, .slice A 0 ca, .slice B T.kids.length cb]] W fun e w' => e = .returned (.bool false) ∧ Below W.heap.size W w') := Lib.hid (fun W h => by have k := S.cu W h; rw [hk, name_nil hn, hl] at k; exact k.mono fun _ _ k => k.no hu)
  rw [hk]
  rw [name_nil hn]
  rw [hl]
  clear S hs hr
  first | clear hk | skip
  first | clear hn | skip
  first | clear hl | skip
  first | clear hm | skip
  first | clear hu | skip
  go_enter Tryz.func85, Tryz.ntmps85
  go_wp2_with (first | (go_at_call 65; (with_reducible refine (In_any _ _ _ _).mono ?_); rintro e w3 ⟨rfl, rfl⟩) | (go_at_call 94; (with_reducible refine (CU.out _ (HR.out.below (below1 _ _))).mono ?_); rintro e w5 ⟨rfl, hb5⟩; have HB5 := Lib.hid hb5; clear hb5))
  go_ret
  exact ⟨true, (by first | rfl | exact ret_bool (by assumption)), iffT HH.out, bnext (below1 _ _) HB5.out⟩

set_option maxRecDepth 100000 in
theorem sh_str_len22 {T : Ty} {A B : Option Addr} {ca cb lo : Nat} (S : SF T A B ca cb lo) (w : World) (hs : Strs w lo T.labels A) (hr : Ty.RowAt w lo T.kids B) (hk : T.kind = 22) (hn : T.name.size = 0) (hl : T.labels.length = 0) (hm : T.kids.length ≠ 1) :
    Calls Tryz.prog 85 #[.agg #[.int .i64 T.kind, .string T.name, .slice A T.labels.length ca, .slice B T.kids.length cb]] w (SaysB (ShapeOk T) w) := by
  have CN := Lib.hid S.cn
  have HS := Lib.hid hs
  have HR := Lib.hid hr
  have hll := S.ll
  have hkl := S.kl
  have HH : Hid (¬ ShapeOk T) := Lib.hid (fun h => by have h1 := h.2; unfold BodyOk at h1; simp only [hk] at h1; exact hm h1.1)
  have e1 : ((T.kids.length : Int) == 1) = false := by rw [beq_eq_false_iff_ne]; omega
  rw [hk]
  rw [name_nil hn]
  rw [hl]
  clear S hs hr
  first | clear hk | skip
  first | clear hn | skip
  first | clear hl | skip
  first | clear hm | skip
  go_enter Tryz.func85, Tryz.ntmps85
  go_wp2_with (first | (go_at_call 65; (with_reducible refine (In_any _ _ _ _).mono ?_); rintro e w3 ⟨rfl, rfl⟩))
  go_ret
  exact ⟨false, (by first | rfl | exact ret_bool (by assumption)), iffF HH.out, below1 _ _⟩

set_option maxRecDepth 100000 in
theorem sh_str_true22 {T : Ty} {A B : Option Addr} {ca cb lo : Nat} (S : SF T A B ca cb lo) (w : World) (hs : Strs w lo T.labels A) (hr : Ty.RowAt w lo T.kids B) (hk : T.kind = 22) (hn : T.name.size = 0) (hl : T.labels.length = 0) (hm : T.kids.length = 1) (hv : ∀ t, T.kids[0]? = some t → t.has (inB 21 21) = true) :
    Calls Tryz.prog 85 #[.agg #[.int .i64 T.kind, .string T.name, .slice A T.labels.length ca, .slice B T.kids.length cb]] w (SaysB (ShapeOk T) w) := by
  have CN := Lib.hid S.cn
  have HS := Lib.hid hs
  have HR := Lib.hid hr
  have hll := S.ll
  have hkl := S.kl
  obtain ⟨b, o, t, A', B', ca', cb', rfl, _, htk, hc⟩ := (hr.below (below1 w (.cells #[.int .i64 22, .string ⟨#[]⟩, .slice A 0 ca, .slice B T.kids.length cb] 30))).at_ (k := 0) (by omega)
  have hv' := hv t htk
  have HH : Hid (¬ ShapeOk T) := Lib.hid (fun h => by have h1 := h.2; unfold BodyOk at h1; simp only [hk] at h1; rw [h1.2 t htk] at hv'; cases hv')
  have CH := S.ch t htk A' B' ca' cb' lo _ hc.tree
  rw [hv'] at CH
  have CH := Lib.hid CH
  obtain ⟨c0, c1, c2, c3, _⟩ := hc
  have e1 : ((T.kids.length : Int) == 1) = true := by rw [beq_iff_eq]; omega
  have e2 : (0 : Int) < (T.kids.length : Int) := by omega
  rw [Nat.zero_mul, Nat.add_zero] at c0 c1 c2 c3
  clear hv' htk
  rw [hk]
  rw [name_nil hn]
  rw [hl]
  clear S hs hr
  first | clear hk | skip
  first | clear hn | skip
  first | clear hl | skip
  first | clear hm | skip
  first | clear hv | skip
  go_enter Tryz.func85, Tryz.ntmps85
  go_wp2_with (first | (go_at_call 65; (with_reducible refine (In_any _ _ _ _).mono ?_); rintro e w3 ⟨rfl, rfl⟩) | (go_at_call 78; (with_reducible refine CH.out.mono ?_); rintro e w6 ⟨rfl, hb6⟩; have HB6 := Lib.hid hb6; clear hb6))
  go_ret
  exact ⟨false, (by first | rfl | exact ret_bool (by assumption)), iffF HH.out, bnext (below1 _ _) HB6.out⟩

set_option maxRecDepth 100000 in
theorem sh_str_false22 {T : Ty} {A B : Option Addr} {ca cb lo : Nat} (S : SF T A B ca cb lo) (w : World) (hs : Strs w lo T.labels A) (hr : Ty.RowAt w lo T.kids B) (hk : T.kind = 22) (hn : T.name.size = 0) (hl : T.labels.length = 0) (hm : T.kids.length = 1) (hv : ∀ t, T.kids[0]? = some t → t.has (inB 21 21) = false) :
    Calls Tryz.prog 85 #[.agg #[.int .i64 T.kind, .string T.name, .slice A T.labels.length ca, .slice B T.kids.length cb]] w (SaysB (ShapeOk T) w) := by
  have CN := Lib.hid S.cn
  have HS := Lib.hid hs
  have HR := Lib.hid hr
  have hll := S.ll
  have hkl := S.kl
  obtain ⟨b, o, t, A', B', ca', cb', rfl, _, htk, hc⟩ := (hr.below (below1 w (.cells #[.int .i64 22, .string ⟨#[]⟩, .slice A 0 ca, .slice B T.kids.length cb] 30))).at_ (k := 0) (by omega)
  have hv' := hv t htk
  have HH : Hid (ShapeOk T) := Lib.hid ⟨⟨fun h => by rw [hk] at h; unfold IsRes at h; omega, fun _ => hn, fun h => by rw [hk] at h; unfold IsLab at h; omega, fun _ => hl⟩, by unfold BodyOk; simp only [hk]; exact ⟨hm, hv⟩⟩
  have CH := S.ch t htk A' B' ca' cb' lo _ hc.tree
  rw [hv'] at CH
  have CH := Lib.hid CH
  obtain ⟨c0, c1, c2, c3, _⟩ := hc
  have e1 : ((T.kids.length : Int) == 1) = true := by rw [beq_iff_eq]; omega
  have e2 : (0 : Int) < (T.kids.length : Int) := by omega
  rw [Nat.zero_mul, Nat.add_zero] at c0 c1 c2 c3
  clear hv' htk
  rw [hk]
  rw [name_nil hn]
  rw [hl]
  clear S hs hr
  first | clear hk | skip
  first | clear hn | skip
  first | clear hl | skip
  first | clear hm | skip
  first | clear hv | skip
  go_enter Tryz.func85, Tryz.ntmps85
  go_wp2_with (first | (go_at_call 65; (with_reducible refine (In_any _ _ _ _).mono ?_); rintro e w3 ⟨rfl, rfl⟩) | (go_at_call 78; (with_reducible refine CH.out.mono ?_); rintro e w6 ⟨rfl, hb6⟩; have HB6 := Lib.hid hb6; clear hb6))
  go_ret
  exact ⟨true, (by first | rfl | exact ret_bool (by assumption)), iffT HH.out, bnext (below1 _ _) HB6.out⟩

set_option maxRecDepth 100000 in
theorem sh_str_len23 {T : Ty} {A B : Option Addr} {ca cb lo : Nat} (S : SF T A B ca cb lo) (w : World) (hs : Strs w lo T.labels A) (hr : Ty.RowAt w lo T.kids B) (hk : T.kind = 23) (hn : T.name.size = 0) (hl : T.labels.length = 0) (hm : T.kids.length ≠ 1) :
    Calls Tryz.prog 85 #[.agg #[.int .i64 T.kind, .string T.name, .slice A T.labels.length ca, .slice B T.kids.length cb]] w (SaysB (ShapeOk T) w) := by
  have CN := Lib.hid S.cn
  have HS := Lib.hid hs
  have HR := Lib.hid hr
  have hll := S.ll
  have hkl := S.kl
  have HH : Hid (¬ ShapeOk T) := Lib.hid (fun h => by have h1 := h.2; unfold BodyOk at h1; simp only [hk] at h1; exact hm h1.1)
  have e1 : ((T.kids.length : Int) == 1) = false := by rw [beq_eq_false_iff_ne]; omega
  rw [hk]
  rw [name_nil hn]
  rw [hl]
  clear S hs hr
  first | clear hk | skip
  first | clear hn | skip
  first | clear hl | skip
  first | clear hm | skip
  go_enter Tryz.func85, Tryz.ntmps85
  go_wp2_with (first | (go_at_call 65; (with_reducible refine (In_any _ _ _ _).mono ?_); rintro e w3 ⟨rfl, rfl⟩))
  go_ret
  exact ⟨false, (by first | rfl | exact ret_bool (by assumption)), iffF HH.out, below1 _ _⟩

set_option maxRecDepth 100000 in
theorem sh_str_true23 {T : Ty} {A B : Option Addr} {ca cb lo : Nat} (S : SF T A B ca cb lo) (w : World) (hs : Strs w lo T.labels A) (hr : Ty.RowAt w lo T.kids B) (hk : T.kind = 23) (hn : T.name.size = 0) (hl : T.labels.length = 0) (hm : T.kids.length = 1) (hv : ∀ t, T.kids[0]? = some t → t.has (inB 21 21) = true) :
    Calls Tryz.prog 85 #[.agg #[.int .i64 T.kind, .string T.name, .slice A T.labels.length ca, .slice B T.kids.length cb]] w (SaysB (ShapeOk T) w) := by
  have CN := Lib.hid S.cn
  have HS := Lib.hid hs
  have HR := Lib.hid hr
  have hll := S.ll
  have hkl := S.kl
  obtain ⟨b, o, t, A', B', ca', cb', rfl, _, htk, hc⟩ := (hr.below (below1 w (.cells #[.int .i64 23, .string ⟨#[]⟩, .slice A 0 ca, .slice B T.kids.length cb] 30))).at_ (k := 0) (by omega)
  have hv' := hv t htk
  have HH : Hid (¬ ShapeOk T) := Lib.hid (fun h => by have h1 := h.2; unfold BodyOk at h1; simp only [hk] at h1; rw [h1.2 t htk] at hv'; cases hv')
  have CH := S.ch t htk A' B' ca' cb' lo _ hc.tree
  rw [hv'] at CH
  have CH := Lib.hid CH
  obtain ⟨c0, c1, c2, c3, _⟩ := hc
  have e1 : ((T.kids.length : Int) == 1) = true := by rw [beq_iff_eq]; omega
  have e2 : (0 : Int) < (T.kids.length : Int) := by omega
  rw [Nat.zero_mul, Nat.add_zero] at c0 c1 c2 c3
  clear hv' htk
  rw [hk]
  rw [name_nil hn]
  rw [hl]
  clear S hs hr
  first | clear hk | skip
  first | clear hn | skip
  first | clear hl | skip
  first | clear hm | skip
  first | clear hv | skip
  go_enter Tryz.func85, Tryz.ntmps85
  go_wp2_with (first | (go_at_call 65; (with_reducible refine (In_any _ _ _ _).mono ?_); rintro e w3 ⟨rfl, rfl⟩) | (go_at_call 78; (with_reducible refine CH.out.mono ?_); rintro e w6 ⟨rfl, hb6⟩; have HB6 := Lib.hid hb6; clear hb6))
  go_ret
  exact ⟨false, (by first | rfl | exact ret_bool (by assumption)), iffF HH.out, bnext (below1 _ _) HB6.out⟩

set_option maxRecDepth 100000 in
theorem sh_str_false23 {T : Ty} {A B : Option Addr} {ca cb lo : Nat} (S : SF T A B ca cb lo) (w : World) (hs : Strs w lo T.labels A) (hr : Ty.RowAt w lo T.kids B) (hk : T.kind = 23) (hn : T.name.size = 0) (hl : T.labels.length = 0) (hm : T.kids.length = 1) (hv : ∀ t, T.kids[0]? = some t → t.has (inB 21 21) = false) :
    Calls Tryz.prog 85 #[.agg #[.int .i64 T.kind, .string T.name, .slice A T.labels.length ca, .slice B T.kids.length cb]] w (SaysB (ShapeOk T) w) := by
  have CN := Lib.hid S.cn
  have HS := Lib.hid hs
  have HR := Lib.hid hr
  have hll := S.ll
  have hkl := S.kl
  obtain ⟨b, o, t, A', B', ca', cb', rfl, _, htk, hc⟩ := (hr.below (below1 w (.cells #[.int .i64 23, .string ⟨#[]⟩, .slice A 0 ca, .slice B T.kids.length cb] 30))).at_ (k := 0) (by omega)
  have hv' := hv t htk
  have HH : Hid (ShapeOk T) := Lib.hid ⟨⟨fun h => by rw [hk] at h; unfold IsRes at h; omega, fun _ => hn, fun h => by rw [hk] at h; unfold IsLab at h; omega, fun _ => hl⟩, by unfold BodyOk; simp only [hk]; exact ⟨hm, hv⟩⟩
  have CH := S.ch t htk A' B' ca' cb' lo _ hc.tree
  rw [hv'] at CH
  have CH := Lib.hid CH
  obtain ⟨c0, c1, c2, c3, _⟩ := hc
  have e1 : ((T.kids.length : Int) == 1) = true := by rw [beq_iff_eq]; omega
  have e2 : (0 : Int) < (T.kids.length : Int) := by omega
  rw [Nat.zero_mul, Nat.add_zero] at c0 c1 c2 c3
  clear hv' htk
  rw [hk]
  rw [name_nil hn]
  rw [hl]
  clear S hs hr
  first | clear hk | skip
  first | clear hn | skip
  first | clear hl | skip
  first | clear hm | skip
  first | clear hv | skip
  go_enter Tryz.func85, Tryz.ntmps85
  go_wp2_with (first | (go_at_call 65; (with_reducible refine (In_any _ _ _ _).mono ?_); rintro e w3 ⟨rfl, rfl⟩) | (go_at_call 78; (with_reducible refine CH.out.mono ?_); rintro e w6 ⟨rfl, hb6⟩; have HB6 := Lib.hid hb6; clear hb6))
  go_ret
  exact ⟨true, (by first | rfl | exact ret_bool (by assumption)), iffT HH.out, bnext (below1 _ _) HB6.out⟩

set_option maxRecDepth 100000 in
theorem sh_two_no {T : Ty} {A B : Option Addr} {ca cb lo : Nat} (S : SF T A B ca cb lo) (w : World) (hs : Strs w lo T.labels A) (hr : Ty.RowAt w lo T.kids B) (hk : T.kind = 14) (hn : T.name.size = 0) (hl : T.labels.length = 0) (hm : T.kids.length ≠ 2) :
    Calls Tryz.prog 85 #[.agg #[.int .i64 T.kind, .string T.name, .slice A T.labels.length ca, .slice B T.kids.length cb]] w (SaysB (ShapeOk T) w) := by
  have CN := Lib.hid S.cn
  have HS := Lib.hid hs
  have HR := Lib.hid hr
  have hll := S.ll
  have hkl := S.kl
  have HH : Hid (¬ ShapeOk T) := Lib.hid (fun h => by have h1 := h.2; unfold BodyOk at h1; simp only [hk] at h1; exact hm h1)
  have e1 : ((T.kids.length : Int) == 2) = false := by rw [beq_eq_false_iff_ne]; omega
  rw [hk]
  rw [name_nil hn]
  rw [hl]
  clear S hs hr
  first | clear hk | skip
  first | clear hn | skip
  first | clear hl | skip
  first | clear hm | skip
  go_enter Tryz.func85, Tryz.ntmps85
  go_wp2_with (first | (go_at_call 65; (with_reducible refine (In_any _ _ _ _).mono ?_); rintro e w3 ⟨rfl, rfl⟩))
  go_ret
  exact ⟨false, (by first | rfl | exact ret_bool (by assumption)), iffF HH.out, below1 _ _⟩

set_option maxRecDepth 100000 in
theorem sh_two_yes {T : Ty} {A B : Option Addr} {ca cb lo : Nat} (S : SF T A B ca cb lo) (w : World) (hs : Strs w lo T.labels A) (hr : Ty.RowAt w lo T.kids B) (hk : T.kind = 14) (hn : T.name.size = 0) (hl : T.labels.length = 0) (hm : T.kids.length = 2) :
    Calls Tryz.prog 85 #[.agg #[.int .i64 T.kind, .string T.name, .slice A T.labels.length ca, .slice B T.kids.length cb]] w (SaysB (ShapeOk T) w) := by
  have CN := Lib.hid S.cn
  have HS := Lib.hid hs
  have HR := Lib.hid hr
  have hll := S.ll
  have hkl := S.kl
  have HH : Hid (ShapeOk T) := Lib.hid ⟨⟨fun h => by rw [hk] at h; unfold IsRes at h; omega, fun _ => hn, fun h => by rw [hk] at h; unfold IsLab at h; omega, fun _ => hl⟩, by unfold BodyOk; simp only [hk]; exact hm⟩
  have e1 : ((T.kids.length : Int) == 2) = true := by rw [beq_iff_eq]; omega
  rw [hk]
  rw [name_nil hn]
  rw [hl]
  clear S hs hr
  first | clear hk | skip
  first | clear hn | skip
  first | clear hl | skip
  first | clear hm | skip
  go_enter Tryz.func85, Tryz.ntmps85
  go_wp2_with (first | (go_at_call 65; (with_reducible refine (In_any _ _ _ _).mono ?_); rintro e w3 ⟨rfl, rfl⟩))
  go_ret
  exact ⟨true, (by first | rfl | exact ret_bool (by assumption)), iffT HH.out, below1 _ _⟩

set_option maxRecDepth 100000 in
theorem sh_tup_low {T : Ty} {A B : Option Addr} {ca cb lo : Nat} (S : SF T A B ca cb lo) (w : World) (hs : Strs w lo T.labels A) (hr : Ty.RowAt w lo T.kids B) (hk : T.kind = 15) (hn : T.name.size = 0) (hl : T.labels.length = 0) (hm : T.kids.length < 1) :
    Calls Tryz.prog 85 #[.agg #[.int .i64 T.kind, .string T.name, .slice A T.labels.length ca, .slice B T.kids.length cb]] w (SaysB (ShapeOk T) w) := by
  have CN := Lib.hid S.cn
  have HS := Lib.hid hs
  have HR := Lib.hid hr
  have hll := S.ll
  have hkl := S.kl
  have HH : Hid (¬ ShapeOk T) := Lib.hid (fun h => by have h1 := h.2; unfold BodyOk at h1; simp only [hk] at h1; have h2 : 1 ≤ T.kids.length := h1.1.1; omega)
  have e1 : ¬ (1 : Int) ≤ (T.kids.length : Int) := by omega
  rw [hk]
  rw [name_nil hn]
  rw [hl]
  clear S hs hr
  first | clear hk | skip
  first | clear hn | skip
  first | clear hl | skip
  first | clear hm | skip
  go_enter Tryz.func85, Tryz.ntmps85
  go_wp2_with (first | (go_at_call 65; (with_reducible refine (In_any _ _ _ _).mono ?_); rintro e w3 ⟨rfl, rfl⟩))
  go_ret
  exact ⟨false, (by first | rfl | exact ret_bool (by assumption)), iffF HH.out, below1 _ _⟩

set_option maxRecDepth 100000 in
theorem sh_tup_high {T : Ty} {A B : Option Addr} {ca cb lo : Nat} (S : SF T A B ca cb lo) (w : World) (hs : Strs w lo T.labels A) (hr : Ty.RowAt w lo T.kids B) (hk : T.kind = 15) (hn : T.name.size = 0) (hl : T.labels.length = 0) (hm : 6 < T.kids.length) :
    Calls Tryz.prog 85 #[.agg #[.int .i64 T.kind, .string T.name, .slice A T.labels.length ca, .slice B T.kids.length cb]] w (SaysB (ShapeOk T) w) := by
  have CN := Lib.hid S.cn
  have HS := Lib.hid hs
  have HR := Lib.hid hr
  have hll := S.ll
  have hkl := S.kl
  have HH : Hid (¬ ShapeOk T) := Lib.hid (fun h => by have h1 := h.2; unfold BodyOk at h1; simp only [hk] at h1; have h2 : T.kids.length ≤ 6 := h1.1.2; omega)
  have e1 : (1 : Int) ≤ (T.kids.length : Int) := by omega
  have e2 : ¬ (T.kids.length : Int) ≤ 6 := by omega
  rw [hk]
  rw [name_nil hn]
  rw [hl]
  clear S hs hr
  first | clear hk | skip
  first | clear hn | skip
  first | clear hl | skip
  first | clear hm | skip
  go_enter Tryz.func85, Tryz.ntmps85
  go_wp2_with (first | (go_at_call 65; (with_reducible refine (In_any _ _ _ _).mono ?_); rintro e w3 ⟨rfl, rfl⟩))
  go_ret
  exact ⟨false, (by first | rfl | exact ret_bool (by assumption)), iffF HH.out, below1 _ _⟩

set_option maxRecDepth 100000 in
theorem sh_tup_yes {T : Ty} {A B : Option Addr} {ca cb lo : Nat} (S : SF T A B ca cb lo) (w : World) (hs : Strs w lo T.labels A) (hr : Ty.RowAt w lo T.kids B) (hk : T.kind = 15) (hn : T.name.size = 0) (hl : T.labels.length = 0) (hm : 1 ≤ T.kids.length) (hm2 : T.kids.length ≤ 6) (hu : UnitIn T.kids T.kids.length) :
    Calls Tryz.prog 85 #[.agg #[.int .i64 T.kind, .string T.name, .slice A T.labels.length ca, .slice B T.kids.length cb]] w (SaysB (ShapeOk T) w) := by
  have CN := Lib.hid S.cn
  have HS := Lib.hid hs
  have HR := Lib.hid hr
  have hll := S.ll
  have hkl := S.kl
  have HH : Hid (¬ ShapeOk T) := Lib.hid (fun h => by have h1 := h.2; unfold BodyOk at h1; simp only [hk] at h1; exact h1.2 hu)
  have e1 : (1 : Int) ≤ (T.kids.length : Int) := by omega
  have e2 : (T.kids.length : Int) ≤ 6 := by omega
  have CU : Hid (∀ W : World, Ty.RowAt W lo T.kids B → Calls Tryz.prog 94 #[.agg #[.int .i64 15, .string ⟨#[]⟩, .slice A 0 ca, .slice B T.kids.length cb]] W fun e w' => e = .returned (.bool true) ∧ Below W.heap.size W w') := Lib.hid (fun W h => by have k := S.cu W h; rw [hk, name_nil hn, hl] at k; exact k.mono fun _ _ k => k.yes hu)
  rw [hk]
  rw [name_nil hn]
  rw [hl]
  clear S hs hr
  first | clear hk | skip
  first | clear hn | skip
  first | clear hl | skip
  first | clear hm | skip
  first | clear hm2 | skip
  first | clear hu | skip
  go_enter Tryz.func85, Tryz.ntmps85
  go_wp2_with (first | (go_at_call 65; (with_reducible refine (In_any _ _ _ _).mono ?_); rintro e w3 ⟨rfl, rfl⟩) | (go_at_call 94; (with_reducible refine (CU.out _ (HR.out.below (below1 _ _))).mono ?_); rintro e w5 ⟨rfl, hb5⟩; have HB5 := Lib.hid hb5; clear hb5))
  go_ret
  exact ⟨false, (by first | rfl | exact ret_bool (by assumption)), iffF HH.out, bnext (below1 _ _) HB5.out⟩

set_option maxRecDepth 100000 in
theorem sh_tup_no {T : Ty} {A B : Option Addr} {ca cb lo : Nat} (S : SF T A B ca cb lo) (w : World) (hs : Strs w lo T.labels A) (hr : Ty.RowAt w lo T.kids B) (hk : T.kind = 15) (hn : T.name.size = 0) (hl : T.labels.length = 0) (hm : 1 ≤ T.kids.length) (hm2 : T.kids.length ≤ 6) (hu : ¬ UnitIn T.kids T.kids.length) :
    Calls Tryz.prog 85 #[.agg #[.int .i64 T.kind, .string T.name, .slice A T.labels.length ca, .slice B T.kids.length cb]] w (SaysB (ShapeOk T) w) := by
  have CN := Lib.hid S.cn
  have HS := Lib.hid hs
  have HR := Lib.hid hr
  have hll := S.ll
  have hkl := S.kl
  have HH : Hid (ShapeOk T) := Lib.hid ⟨⟨fun h => by rw [hk] at h; unfold IsRes at h; omega, fun _ => hn, fun h => by rw [hk] at h; unfold IsLab at h; omega, fun _ => hl⟩, by unfold BodyOk; simp only [hk]; exact ⟨⟨hm, hm2⟩, hu⟩⟩
  have e1 : (1 : Int) ≤ (T.kids.length : Int) := by omega
  have e2 : (T.kids.length : Int) ≤ 6 := by omega
  have CU : Hid (∀ W : World, Ty.RowAt W lo T.kids B → Calls Tryz.prog 94 #[.agg #[.int .i64 15, .string ⟨#[]⟩, .slice A 0 ca, .slice B T.kids.length cb]] W fun e w' => e = .returned (.bool false) ∧ Below W.heap.size W w') := Lib.hid (fun W h => by have k := S.cu W h; rw [hk, name_nil hn, hl] at k; exact k.mono fun _ _ k => k.no hu)
  rw [hk]
  rw [name_nil hn]
  rw [hl]
  clear S hs hr
  first | clear hk | skip
  first | clear hn | skip
  first | clear hl | skip
  first | clear hm | skip
  first | clear hm2 | skip
  first | clear hu | skip
  go_enter Tryz.func85, Tryz.ntmps85
  go_wp2_with (first | (go_at_call 65; (with_reducible refine (In_any _ _ _ _).mono ?_); rintro e w3 ⟨rfl, rfl⟩) | (go_at_call 94; (with_reducible refine (CU.out _ (HR.out.below (below1 _ _))).mono ?_); rintro e w5 ⟨rfl, hb5⟩; have HB5 := Lib.hid hb5; clear hb5))
  go_ret
  exact ⟨true, (by first | rfl | exact ret_bool (by assumption)), iffT HH.out, bnext (below1 _ _) HB5.out⟩

set_option maxRecDepth 100000 in
theorem sh_rest_out {T : Ty} {A B : Option Addr} {ca cb lo : Nat} (S : SF T A B ca cb lo) (w : World) (hs : Strs w lo T.labels A) (hr : Ty.RowAt w lo T.kids B) (hk : T.kind < 1 ∨ 23 < T.kind) (hn : T.name.size = 0) (hl : T.labels.length = 0) :
    Calls Tryz.prog 85 #[.agg #[.int .i64 T.kind, .string T.name, .slice A T.labels.length ca, .slice B T.kids.length cb]] w (SaysB (ShapeOk T) w) := by
  have CN := Lib.hid S.cn
  have HS := Lib.hid hs
  have HR := Lib.hid hr
  have hll := S.ll
  have hkl := S.kl
  have k12 : (T.kind == 12) = false := by rw [beq_eq_false_iff_ne]; omega
  have k13 : (T.kind == 13) = false := by rw [beq_eq_false_iff_ne]; omega
  have k14 : (T.kind == 14) = false := by rw [beq_eq_false_iff_ne]; omega
  have k15 : (T.kind == 15) = false := by rw [beq_eq_false_iff_ne]; omega
  have k16 : (T.kind == 16) = false := by rw [beq_eq_false_iff_ne]; omega
  have k17 : (T.kind == 17) = false := by rw [beq_eq_false_iff_ne]; omega
  have k20 : (T.kind == 20) = false := by rw [beq_eq_false_iff_ne]; omega
  have k21 : (T.kind == 21) = false := by rw [beq_eq_false_iff_ne]; omega
  have k22 : (T.kind == 22) = false := by rw [beq_eq_false_iff_ne]; omega
  have k23 : (T.kind == 23) = false := by rw [beq_eq_false_iff_ne]; omega
  have hIn : (decide (16 ≤ T.kind) && decide (T.kind ≤ 19)) = false := by rw [Bool.eq_false_iff]; simp; omega
  have CI : Hid (∀ W : World, Calls Tryz.prog 65 #[.int .i64 T.kind, .int .i64 16, .int .i64 19] W fun e w' => e = .returned (.bool false) ∧ W = w') := Lib.hid (fun W => by have h := In_any T.kind 16 19 W; rw [hIn] at h; exact h)
  have CJ : Hid (∀ W : World, Calls Tryz.prog 65 #[.int .i64 T.kind, .int .i64 1, .int .i64 23] W fun e w' => e = .returned (.bool false) ∧ W = w') := Lib.hid (fun W => by have h := In_any T.kind 1 23 W; rw [show (decide (1 ≤ T.kind) && decide (T.kind ≤ 23)) = false by rw [Bool.eq_false_iff]; simp; omega] at h; exact h)
  have HH : Hid (¬ ShapeOk T) := Lib.hid (fun h => by have h1 := h.2; unfold BodyOk at h1; rw [if_neg (by omega), if_neg (by omega), if_neg (by omega), if_neg (by omega), if_neg (by omega), if_neg (by omega)] at h1; omega)
  clear hIn
  rw [name_nil hn]
  rw [hl]
  clear S hs hr
  first | clear hk | skip
  first | clear hn | skip
  first | clear hl | skip
  go_enter Tryz.func85, Tryz.ntmps85
  go_wp2_with (first | (go_at_call_of 65 (Value.int .i64 16); (with_reducible refine (CI.out _).mono ?_); rintro e w3 ⟨rfl, rfl⟩) | (go_at_call_of 65 (Value.int .i64 1); (with_reducible refine (CJ.out _).mono ?_); rintro e w3 ⟨rfl, rfl⟩))
  go_ret
  exact ⟨false, (by first | rfl | exact ret_bool (by assumption)), iffF HH.out, below1 _ _⟩

set_option maxRecDepth 100000 in
theorem sh_rest_kid {T : Ty} {A B : Option Addr} {ca cb lo : Nat} (S : SF T A B ca cb lo) (w : World) (hs : Strs w lo T.labels A) (hr : Ty.RowAt w lo T.kids B) (hk : 1 ≤ T.kind ∧ T.kind ≤ 11) (hn : T.name.size = 0) (hl : T.labels.length = 0) (hm : 0 < T.kids.length) :
    Calls Tryz.prog 85 #[.agg #[.int .i64 T.kind, .string T.name, .slice A T.labels.length ca, .slice B T.kids.length cb]] w (SaysB (ShapeOk T) w) := by
  have CN := Lib.hid S.cn
  have HS := Lib.hid hs
  have HR := Lib.hid hr
  have hll := S.ll
  have hkl := S.kl
  have k12 : (T.kind == 12) = false := by rw [beq_eq_false_iff_ne]; omega
  have k13 : (T.kind == 13) = false := by rw [beq_eq_false_iff_ne]; omega
  have k14 : (T.kind == 14) = false := by rw [beq_eq_false_iff_ne]; omega
  have k15 : (T.kind == 15) = false := by rw [beq_eq_false_iff_ne]; omega
  have k16 : (T.kind == 16) = false := by rw [beq_eq_false_iff_ne]; omega
  have k17 : (T.kind == 17) = false := by rw [beq_eq_false_iff_ne]; omega
  have k20 : (T.kind == 20) = false := by rw [beq_eq_false_iff_ne]; omega
  have k21 : (T.kind == 21) = false := by rw [beq_eq_false_iff_ne]; omega
  have k22 : (T.kind == 22) = false := by rw [beq_eq_false_iff_ne]; omega
  have k23 : (T.kind == 23) = false := by rw [beq_eq_false_iff_ne]; omega
  have hIn : (decide (16 ≤ T.kind) && decide (T.kind ≤ 19)) = false := by rw [Bool.eq_false_iff]; simp; omega
  have CI : Hid (∀ W : World, Calls Tryz.prog 65 #[.int .i64 T.kind, .int .i64 16, .int .i64 19] W fun e w' => e = .returned (.bool false) ∧ W = w') := Lib.hid (fun W => by have h := In_any T.kind 16 19 W; rw [hIn] at h; exact h)
  have CJ : Hid (∀ W : World, Calls Tryz.prog 65 #[.int .i64 T.kind, .int .i64 1, .int .i64 23] W fun e w' => e = .returned (.bool true) ∧ W = w') := Lib.hid (fun W => by have h := In_any T.kind 1 23 W; rw [show (decide (1 ≤ T.kind) && decide (T.kind ≤ 23)) = true by simp; omega] at h; exact h)
  have HH : Hid (¬ ShapeOk T) := Lib.hid (fun h => by have h1 := h.2; unfold BodyOk at h1; rw [if_neg (by omega), if_neg (by omega), if_neg (by omega), if_neg (by omega), if_neg (by omega), if_neg (by omega)] at h1; omega)
  have e1 : ((T.kids.length : Int) == 0) = false := by rw [beq_eq_false_iff_ne]; omega
  clear hIn
  rw [name_nil hn]
  rw [hl]
  clear S hs hr
  first | clear hk | skip
  first | clear hn | skip
  first | clear hl | skip
  first | clear hm | skip
  go_enter Tryz.func85, Tryz.ntmps85
  go_wp2_with (first | (go_at_call_of 65 (Value.int .i64 16); (with_reducible refine (CI.out _).mono ?_); rintro e w3 ⟨rfl, rfl⟩) | (go_at_call_of 65 (Value.int .i64 1); (with_reducible refine (CJ.out _).mono ?_); rintro e w3 ⟨rfl, rfl⟩))
  go_ret
  exact ⟨false, (by first | rfl | exact ret_bool (by assumption)), iffF HH.out, below1 _ _⟩

set_option maxRecDepth 100000 in
theorem sh_rest_ok {T : Ty} {A B : Option Addr} {ca cb lo : Nat} (S : SF T A B ca cb lo) (w : World) (hs : Strs w lo T.labels A) (hr : Ty.RowAt w lo T.kids B) (hk : 1 ≤ T.kind ∧ T.kind ≤ 11) (hn : T.name.size = 0) (hl : T.labels.length = 0) (hm : T.kids.length = 0) :
    Calls Tryz.prog 85 #[.agg #[.int .i64 T.kind, .string T.name, .slice A T.labels.length ca, .slice B T.kids.length cb]] w (SaysB (ShapeOk T) w) := by
  have CN := Lib.hid S.cn
  have HS := Lib.hid hs
  have HR := Lib.hid hr
  have hll := S.ll
  have hkl := S.kl
  have k12 : (T.kind == 12) = false := by rw [beq_eq_false_iff_ne]; omega
  have k13 : (T.kind == 13) = false := by rw [beq_eq_false_iff_ne]; omega
  have k14 : (T.kind == 14) = false := by rw [beq_eq_false_iff_ne]; omega
  have k15 : (T.kind == 15) = false := by rw [beq_eq_false_iff_ne]; omega
  have k16 : (T.kind == 16) = false := by rw [beq_eq_false_iff_ne]; omega
  have k17 : (T.kind == 17) = false := by rw [beq_eq_false_iff_ne]; omega
  have k20 : (T.kind == 20) = false := by rw [beq_eq_false_iff_ne]; omega
  have k21 : (T.kind == 21) = false := by rw [beq_eq_false_iff_ne]; omega
  have k22 : (T.kind == 22) = false := by rw [beq_eq_false_iff_ne]; omega
  have k23 : (T.kind == 23) = false := by rw [beq_eq_false_iff_ne]; omega
  have hIn : (decide (16 ≤ T.kind) && decide (T.kind ≤ 19)) = false := by rw [Bool.eq_false_iff]; simp; omega
  have CI : Hid (∀ W : World, Calls Tryz.prog 65 #[.int .i64 T.kind, .int .i64 16, .int .i64 19] W fun e w' => e = .returned (.bool false) ∧ W = w') := Lib.hid (fun W => by have h := In_any T.kind 16 19 W; rw [hIn] at h; exact h)
  have CJ : Hid (∀ W : World, Calls Tryz.prog 65 #[.int .i64 T.kind, .int .i64 1, .int .i64 23] W fun e w' => e = .returned (.bool true) ∧ W = w') := Lib.hid (fun W => by have h := In_any T.kind 1 23 W; rw [show (decide (1 ≤ T.kind) && decide (T.kind ≤ 23)) = true by simp; omega] at h; exact h)
  have HH : Hid (ShapeOk T) := Lib.hid ⟨⟨fun h => by unfold IsRes at h; omega, fun _ => hn, fun h => by unfold IsLab at h; omega, fun _ => hl⟩, by unfold BodyOk; rw [if_neg (by omega), if_neg (by omega), if_neg (by omega), if_neg (by omega), if_neg (by omega), if_neg (by omega)]; omega⟩
  clear hIn
  rw [name_nil hn]
  rw [hl]
  rw [hm]
  clear S hs hr
  first | clear hk | skip
  first | clear hn | skip
  first | clear hl | skip
  first | clear hm | skip
  go_enter Tryz.func85, Tryz.ntmps85
  go_wp2_with (first | (go_at_call_of 65 (Value.int .i64 16); (with_reducible refine (CI.out _).mono ?_); rintro e w3 ⟨rfl, rfl⟩) | (go_at_call_of 65 (Value.int .i64 1); (with_reducible refine (CJ.out _).mono ?_); rintro e w3 ⟨rfl, rfl⟩))
  go_ret
  exact ⟨true, (by first | rfl | exact ret_bool (by assumption)), iffT HH.out, below1 _ _⟩

theorem l03Shape_any (T : Ty) (hT : T.wt ≤ 1048576) (A B : Option Addr) (ca cb lo : Nat) (w : World) (hat : Ty.At w lo T A B) :
    Calls Tryz.prog 85 #[.agg #[.int .i64 T.kind, .string T.name, .slice A T.labels.length ca, .slice B T.kids.length cb]] w (SaysB (ShapeOk T) w) := by
  have S := SF.of hT A B ca cb lo
  have hs := hat.strs
  have hr := hat.rowAt
  by_cases hres : IsRes T.kind
  · have h2 : T.kind = 20 ∨ T.kind = 21 := hres
    by_cases hn : T.name.size = 0
    · rcases h2 with hk | hk
      · exact sh_res_empty20 S w hs hr hk hn
      · exact sh_res_empty21 S w hs hr hk hn
    have hn' : 0 < T.name.size := by omega
    cases hv : nmB T.name with
    | false =>
      rcases h2 with hk | hk
      · exact sh_res_bad20 S w hs hr hk hn' hv
      · exact sh_res_bad21 S w hs hr hk hn' hv
    | true =>
      by_cases hl : T.labels.length = 0
      · by_cases hm : T.kids.length = 0
        · rcases h2 with hk | hk
          · exact sh_res_ok20 S w hs hr hk hn' hv hl hm
          · exact sh_res_ok21 S w hs hr hk hn' hv hl hm
        · rcases h2 with hk | hk
          · exact sh_res_kid20 S w hs hr hk hn' hv hl (by omega)
          · exact sh_res_kid21 S w hs hr hk hn' hv hl (by omega)
      · rcases h2 with hk | hk
        · exact sh_res_lab20 S w hs hr hk hn' hv (by omega)
        · exact sh_res_lab21 S w hs hr hk hn' hv (by omega)
  by_cases hn : T.name.size = 0
  case neg => exact sh_named S w hs hr hres (by omega)
  by_cases hlab : IsLab T.kind
  · have h4 : T.kind = 16 ∨ T.kind = 17 ∨ T.kind = 18 ∨ T.kind = 19 := by unfold IsLab at hlab; omega
    by_cases hl : T.labels.length = 0
    · rcases h4 with hk | hk | hk | hk
      · exact sh_lab_none16 S w hs hr hk hn hl
      · exact sh_lab_none17 S w hs hr hk hn hl
      · exact sh_lab_none18 S w hs hr hk hn hl
      · exact sh_lab_none19 S w hs hr hk hn hl
    by_cases hb : LabelsOk T.labels
    case neg =>
      rcases h4 with hk | hk | hk | hk
      · exact sh_lab_bad16 S w hs hr hk hn (by omega) hb
      · exact sh_lab_bad17 S w hs hr hk hn (by omega) hb
      · exact sh_lab_bad18 S w hs hr hk hn (by omega) hb
      · exact sh_lab_bad19 S w hs hr hk hn (by omega) hb
    rcases h4 with hk | hk | hk | hk
    · by_cases hm : T.kids.length = T.labels.length
      · by_cases hu : UnitIn T.kids T.kids.length
        · exact sh_rec_yes S w hs hr hk hn hb hm hu
        · exact sh_rec_no S w hs hr hk hn hb hm hu
      · exact sh_rec_len S w hs hr hk hn hb hm
    · by_cases hm : T.kids.length = T.labels.length
      · exact sh_var_yes S w hs hr hk hn hb hm
      · exact sh_var_no S w hs hr hk hn hb hm
    · by_cases hm : T.kids.length = 0
      · exact sh_flat_yes18 S w hs hr hk hn hb hm
      · exact sh_flat_no18 S w hs hr hk hn hb (by omega)
    · by_cases hm : T.kids.length = 0
      · exact sh_flat_yes19 S w hs hr hk hn hb hm
      · exact sh_flat_no19 S w hs hr hk hn hb (by omega)
  by_cases hl : T.labels.length = 0
  case neg => exact sh_plain_lab S w hs hr hres hlab hn (by omega)
  by_cases hlow : T.kind < 1 ∨ 23 < T.kind
  · exact sh_rest_out S w hs hr hlow hn hl
  by_cases hsm : T.kind ≤ 11
  · by_cases hm : T.kids.length = 0
    · exact sh_rest_ok S w hs hr ⟨by omega, hsm⟩ hn hl hm
    · exact sh_rest_kid S w hs hr ⟨by omega, hsm⟩ hn hl (by omega)
  have h6 : T.kind = 12 ∨ T.kind = 13 ∨ T.kind = 14 ∨ T.kind = 15 ∨ T.kind = 22 ∨ T.kind = 23 := by unfold IsLab at hlab; unfold IsRes at hres; omega
  rcases h6 with hk | hk | hk | hk | hk | hk
  · by_cases hm : T.kids.length = 1
    · by_cases hu : UnitIn T.kids T.kids.length
      · exact sh_one_yes12 S w hs hr hk hn hl hm hu
      · exact sh_one_no12 S w hs hr hk hn hl hm hu
    · exact sh_one_len12 S w hs hr hk hn hl hm
  · by_cases hm : T.kids.length = 1
    · by_cases hu : UnitIn T.kids T.kids.length
      · exact sh_one_yes13 S w hs hr hk hn hl hm hu
      · exact sh_one_no13 S w hs hr hk hn hl hm hu
    · exact sh_one_len13 S w hs hr hk hn hl hm
  · by_cases hm : T.kids.length = 2
    · exact sh_two_yes S w hs hr hk hn hl hm
    · exact sh_two_no S w hs hr hk hn hl hm
  · by_cases hm : T.kids.length < 1
    · exact sh_tup_low S w hs hr hk hn hl hm
    · by_cases hm2 : 6 < T.kids.length
      · exact sh_tup_high S w hs hr hk hn hl hm2
      · by_cases hu : UnitIn T.kids T.kids.length
        · exact sh_tup_yes S w hs hr hk hn hl (by omega) (by omega) hu
        · exact sh_tup_no S w hs hr hk hn hl (by omega) (by omega) hu
  · by_cases hm : T.kids.length = 1
    · rcases Ty.kid0 hm (inB 21 21) with hv | hv
      · exact sh_str_true22 S w hs hr hk hn hl hm hv
      · exact sh_str_false22 S w hs hr hk hn hl hm hv
    · exact sh_str_len22 S w hs hr hk hn hl hm
  · by_cases hm : T.kids.length = 1
    · rcases Ty.kid0 hm (inB 21 21) with hv | hv
      · exact sh_str_true23 S w hs hr hk hn hl hm hv
      · exact sh_str_false23 S w hs hr hk hn hl hm hv
    · exact sh_str_len23 S w hs hr hk hn hl hm
end Go.Proofs.YtifchfecfkdjlaaGreatDoor
