/-
  The walks of the model's l08Number, l08Within, l08No, l08Label.
-/
import Derived.Test.YtifchfecfkdjlaaGreatDoorWhyU
import Derived.Test.YtifchfecfkdjlaaGreatDoorTySpec
namespace Go.Proofs.YtifchfecfkdjlaaGreatDoor
open Go.ChangeShapes Go.WideShapes Go.ChangeAt Go.RowKit Go.Deep

def rp (pt : ByteArray) : Option (Int × ByteArray) → ByteArray | none => ⟨#[]⟩ | some x => pt ++ x.2
/-- What the model's l08Why answers, a path going ahead. -/
def RsnS (r : Option (Int × ByteArray)) (pt : ByteArray) (w : World) (e : Ending) (w' : World) : Prop := e = .returned (.tuple #[.agg #[.int .i64 (rk r), .string (rp pt r)], .bool r.isSome]) ∧ Below w.heap.size w w'

theorem number_any (k : Int) (w : World) : Calls Tryz.prog 42 #[.int .i64 k] w fun e w' => e = .returned (.bool (numK k)) ∧ w = w' := by
  have C : Hid (∀ W : World, Calls Tryz.prog 65 #[.int .i64 k, .int .i64 3, .int .i64 9] W fun e w' => e = .returned (.bool (numK k)) ∧ W = w') := Lib.hid (fun W => In_any k 3 9 W)
  generalize numK k = v at *
  go_enter Tryz.func42, Tryz.ntmps42
  go_wp2_with (go_at_call 65; (with_reducible refine (C.out _).mono ?_); rintro e w2 ⟨rfl, rfl⟩)
  go_ret
  exact ⟨rfl, rfl⟩

theorem no_any (k : Int) (pt : ByteArray) (w : World) : Calls Tryz.prog 44 #[.int .i64 k, .string pt] w fun e w' => e = .returned (.tuple #[.agg #[.int .i64 k, .string pt], .bool true]) ∧ Below w.heap.size w w' := by
  go_enter Tryz.func44, Tryz.ntmps44
  go_wp2_with fail
  exact bodyPost_ret (v := .tuple #[.agg #[.int .i64 k, .string pt], .bool true]) (by simp [results, Tryz.results44, go_sem]) rfl ⟨rfl, by (first | (with_reducible exact (below1 _ _)) | ((with_reducible refine Below.setCell ((below1 _ _)) ?_ _) <;> (first | exact Nat.le_refl _ | exact Nat.le_add_right _ _ | (dsimp only; omega) | (simp; omega))) | ((with_reducible refine Below.setCell (Below.setCell ((below1 _ _)) ?_ _) ?_ _) <;> (first | exact Nat.le_refl _ | exact Nat.le_add_right _ _ | (dsimp only; omega) | (simp; omega))) | ((with_reducible refine Below.setCell (Below.setCell (Below.setCell ((below1 _ _)) ?_ _) ?_ _) ?_ _) <;> (first | exact Nat.le_refl _ | exact Nat.le_add_right _ _ | (dsimp only; omega) | (simp; omega))))⟩

theorem within_any (a b : Int) (w : World) : Calls Tryz.prog 43 #[.int .i64 a, .int .i64 b] w fun e w' => e = .returned (.bool (numIn a b)) ∧ Below w.heap.size w w' := by
  have CA := Lib.hid (fun W => nr_spec a W)
  have CB := Lib.hid (fun W => nr_spec b W)
  unfold numIn
  obtain ⟨y1, y2, y3, y4⟩ := nrV_bd a
  obtain ⟨y5, y6, y7, y8⟩ := nrV_bd b
  generalize (nrV a).1 = la at *
  generalize (nrV a).2.1 = ha at *
  generalize (nrV b).1 = lb at *
  generalize (nrV b).2.1 = hb at *
  by_cases h1 : lb ≤ la
  · have h1x : decide (lb ≤ la) = true := by simpa using h1
    by_cases h2 : ha ≤ hb
    · have h2x : decide (ha ≤ hb) = true := by simpa using h2
      rw [h1x, h2x]
      go_enter Tryz.func43, Tryz.ntmps43
      go_wp2_with fail
      go_at_call 66
      refine (CA.out _).mono ?_
      rintro e w1 ⟨rfl, hb1⟩
      go_wp2_with fail
      go_at_call 66
      refine (CB.out _).mono ?_
      rintro e w2 ⟨rfl, hb2⟩
      go_wp2_with fail
      go_ret
      exact ⟨rfl, bchain hb1 hb2 hb1.size⟩
    · have h2x : decide (ha ≤ hb) = false := by simpa using h2
      rw [h1x, h2x]
      go_enter Tryz.func43, Tryz.ntmps43
      go_wp2_with fail
      go_at_call 66
      refine (CA.out _).mono ?_
      rintro e w1 ⟨rfl, hb1⟩
      go_wp2_with fail
      go_at_call 66
      refine (CB.out _).mono ?_
      rintro e w2 ⟨rfl, hb2⟩
      go_wp2_with fail
      go_ret
      exact ⟨rfl, bchain hb1 hb2 hb1.size⟩
  · have h1x : decide (lb ≤ la) = false := by simpa using h1
    rw [h1x]
    go_enter Tryz.func43, Tryz.ntmps43
    go_wp2_with fail
    go_at_call 66
    refine (CA.out _).mono ?_
    rintro e w1 ⟨rfl, hb1⟩
    go_wp2_with fail
    go_at_call 66
    refine (CB.out _).mono ?_
    rintro e w2 ⟨rfl, hb2⟩
    go_wp2_with fail
    go_ret
    exact ⟨rfl, bchain hb1 hb2 hb1.size⟩

def plI : Option Nat → Int | none => -1 | some i => i
theorem label_any (ls : List ByteArray) (s : ByteArray) (hl : ls.length ≤ 1048576) (A : Option Addr) (ca lo : Nat) (w : World) (h : Strs w lo ls A) :
    Calls Tryz.prog 48 #[.slice A ls.length ca, .string s] w fun e w' => e = .returned (.int .i64 (plI (place s ls))) ∧ w = w' := by
  have H := Lib.hid h
  obtain ⟨R, hR⟩ : ∃ R, plI (place s ls) = R := ⟨_, rfl⟩
  rw [hR]
  have HR := Lib.hid hR
  clear h hR
  go_enter Tryz.func48, Tryz.ntmps48
  go_wp2_with fail
  go_loop [5] (fun i => ∃ k : Nat, k ≤ ls.length ∧ i = .int .i64 k ∧ Hid (∀ j : Nat, j < k → ls[j]? ≠ some s)) (fun i => ls.length - (intOf i).toNat)
  case atStart => exact ⟨0, Nat.zero_le _, rfl, fun j hj => by omega⟩
  case round =>
    obtain ⟨k, hk, rfl, hno⟩ := hrel
    by_cases hlt : k < ls.length
    · obtain ⟨b, o, t, rfl, _, htk, hc⟩ := H.out.at_ hlt
      have HT := Lib.hid htk
      clear htk
      by_cases e : t = s
      · have e2 : (t.toList == s.toList) = true := by rw [e, beq_iff_eq]
        have HE := Lib.hid e
        clear e
        go_wp2_with fail
        go_ret
        refine ⟨ret_int ?_, rfl⟩
        have h1 := HT.out
        rw [HE.out] at h1
        rw [← HR.out, place_at h1 hno.out]
        rfl
      · have e2 := text_ne e
        have HE := Lib.hid e
        clear e
        go_wp2_with fail
        go_round
        case rel =>
          exact ⟨k + 1, by omega, by go_num, fun j hj h9 => by
            by_cases e3 : j = k
            · subst e3
              rw [HT.out] at h9
              exact HE.out (Option.some.inj h9)
            · exact hno.out j (by omega) h9⟩
        case measure => simp [intOf]; omega
    · have hk' : k = ls.length := by omega
      have h9 := hno.out
      rw [hk'] at h9
      have HN := Lib.hid (place_no h9)
      clear h9 hk'
      go_wp2_with fail
      go_ret
      exact ⟨ret_int (by rw [← HR.out, HN.out]; rfl), rfl⟩

/-- l08Why at types not deeper than n. -/
def SpTy (n : Nat) : Prop := ∀ (a b : Ty), Gd n a → Gd n b → ∀ (A B A' B' : Option Addr) (ca cb ca' cb' : Nat) (lo lo' : Nat) (pt : ByteArray), pt.size + n * 1048577 ≤ 100000000 → ∀ (w : World), Ty.At w lo a A B → Ty.At w lo' b A' B' →
  Calls Tryz.prog 31 #[.agg #[.int .i64 a.kind, .string a.name, .slice A a.labels.length ca, .slice B a.kids.length cb], .agg #[.int .i64 b.kind, .string b.name, .slice A' b.labels.length ca', .slice B' b.kids.length cb'], .string pt] w (RsnS (Ty.why n a b) pt w)
theorem rp_pre (pt s : ByteArray) (r : Option (Int × ByteArray)) : rp pt (preR s r) = rp (pt ++ s) r := by
  cases r with
  | none => rfl
  | some x =>
    obtain ⟨k, p⟩ := x
    show pt ++ (s ++ p) = pt ++ s ++ p
    rw [ByteArray.append_assoc]
theorem rk_pre (s : ByteArray) (r : Option (Int × ByteArray)) : rk (preR s r) = rk r := by
  cases r <;> rfl
theorem some_pre (s : ByteArray) (r : Option (Int × ByteArray)) : (preR s r).isSome = r.isSome := by
  cases r <;> rfl
end Go.Proofs.YtifchfecfkdjlaaGreatDoor
