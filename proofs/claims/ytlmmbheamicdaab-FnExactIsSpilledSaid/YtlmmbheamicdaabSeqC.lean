/-
  The flat kinds of a row of types, collected from the iterator, the kinds of each type being known.
-/
import Derived.Test.YtlmmbheamicdaabSeqK
namespace Go.Proofs.Ytlmmbheamicdaab
open Go.ChangeShapes Go.WideShapes Go.ChangeAt Go.RowKit Go.Deep Go.Shelf

theorem flatKinds_any (R : Option Addr) (m cb : Nat) (w : World) :
    Calls Try.prog 44 #[.slice R m cb] w fun e w' => e = .returned (.func (.func 52) #[] #[.pointer (some ⟨w.heap.size, 0, none⟩)]) ∧ w' = w.alloc (.cells #[.slice R m cb] 27) := by
  go_enter Try.func44, Try.ntmps44
  go_wp2_with fail
  go_ret
  exact ⟨rfl, rfl⟩
/-- The program's contract of one type. -/
def KindI (lo : Nat) (t : Ty) : Prop := ∀ (A B : Option Addr) (ca cb : Nat) (w : World), Ty.At w lo t A B → Calls Try.prog 53 #[.agg #[.int .i64 t.kind, .string t.name, .slice A t.labels.length ca, .slice B t.kids.length cb]] w (FlatPost t.flat w)
theorem flats_le : ∀ (ks : List Ty) (_ : ∀ (i : Nat) (t : Ty), ks[i]? = some t → t.flat.length ≤ 60), (Ty.flats ks).length ≤ 60 * ks.length
  | [], _ => by rw [Ty.flats_nil]; exact Nat.zero_le _
  | t :: ts, h => by
    have h1 := h 0 t rfl
    have h2 := flats_le ts (fun i u hu => h (i + 1) u hu)
    rw [Ty.flats_cons, List.length_append, List.length_cons]
    omega
theorem collectKinds_any (ks : List Ty) (lo : Nat) (KI : ∀ (i : Nat) (t : Ty), ks[i]? = some t → KindI lo t) (h60 : ∀ (i : Nat) (t : Ty), ks[i]? = some t → t.flat.length ≤ 60) (hl : ks.length ≤ 1000) (R : Option Addr) (cb Bx : Nat) (w : World) (hBx : w.cell? ⟨Bx, 0, none⟩ = some (.slice R ks.length cb)) (hrow : Ty.RowAt w lo ks R) :
    Calls Try.prog 43 #[.func (.func 52) #[] #[.pointer (some ⟨Bx, 0, none⟩)]] w (FlatPost (Ty.flats ks) w) :=
  (callsIn_wide (n := 5)).1 (collect_any Fence.wide 5 trivial trivial rfl (by decide) 52 #[.pointer (some ⟨Bx, 0, none⟩)] trivial (enters_of Try.func52 (by kernel_rfl) rfl) (Ty.flats ks) (by have := flats_le ks h60; omega) (fun _ => True) w
    (flatIter (5 - 1 - 1) (by decide) ks lo (fun i t ht => KI i t ht) h60 hl R cb Bx w hBx hrow))
end Go.Proofs.Ytlmmbheamicdaab
