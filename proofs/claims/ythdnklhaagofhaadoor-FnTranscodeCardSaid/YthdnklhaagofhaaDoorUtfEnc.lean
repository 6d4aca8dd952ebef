/-
  UTF-8 written and read back, the pure part. No condition.
-/
import Derived.Test.YthdnklhaagofhaaDoorUtfLaw
import Derived.Laws.Cover4
namespace Go.Proofs.YthdnklhaagofhaaDoor
open Go.ChangeShapes Go.WideShapes Go.ChangeAt Go.RowKit

theorem valid_chr {m : Nat} (h : chr m) : Utf8.valid (m : Int) = true := by
  unfold chr at h
  simp [Utf8.valid]
  omega
/-- A code point's bytes. -/
def encL (m : Nat) : List UInt8 :=
  if m < 128 then [UInt8.ofNat m] else if m < 2048 then [UInt8.ofNat (192 + m / 64), UInt8.ofNat (128 + m % 64)]
  else if m < 65536 then [UInt8.ofNat (224 + m / 4096), UInt8.ofNat (128 + m / 64 % 64), UInt8.ofNat (128 + m % 64)]
  else [UInt8.ofNat (240 + m / 262144), UInt8.ofNat (128 + m / 4096 % 64), UInt8.ofNat (128 + m / 64 % 64), UInt8.ofNat (128 + m % 64)]
theorem encode_list (m : Nat) (h : chr m) : (Utf8.encode (m : Int)).data.toList = encL m := by
  have hv := valid_chr h
  unfold Utf8.encode encL
  simp only [hv, if_true, Int.toNat_natCast]
  (repeat' split) <;> first | rfl | omega
theorem encL_len (m : Nat) : (encL m).length = if m < 128 then 1 else if m < 2048 then 2 else if m < 65536 then 3 else 4 := by
  unfold encL
  (repeat' split) <;> first | rfl | omega
theorem toNat_small (x : Nat) (h : x < 256) : (UInt8.ofNat x).toNat = x := by simp; omega
theorem dec_enc (m : Nat) (h : chr m) (rest : List UInt8) : Lib.decodeL (encL m ++ rest) = (m, (encL m).length) ∧ ¬ (m = 65533 ∧ (encL m).length = 1) := by
  have hm : m ≤ 1114111 := by unfold chr at h; omega
  have hb : ∀ x : UInt8, x.toNat < 256 := fun x => x.toNat_lt
  rw [Lib.decodeL_N, encL_len]
  have hlen : 1 ≤ (encL m ++ rest).length := by
    rw [List.length_append, encL_len]
    (repeat' split) <;> omega
  have key := ptOk_iff (encL m ++ rest).length ((encL m ++ rest).getD 0 0).toNat ((encL m ++ rest).getD 1 0).toNat ((encL m ++ rest).getD 2 0).toNat ((encL m ++ rest).getD 3 0).toNat hlen (hb _) (hb _) (hb _) (hb _)
  by_cases h1 : m < 128
  · have e : encL m = [UInt8.ofNat m] := by unfold encL; rw [if_pos h1]
    rw [e] at key ⊢
    have b0 : (([UInt8.ofNat m] ++ rest).getD 0 0).toNat = m := by simp; omega
    rw [b0] at key ⊢
    generalize (([UInt8.ofNat m] ++ rest).getD 1 0).toNat = x1 at *
    generalize (([UInt8.ofNat m] ++ rest).getD 2 0).toNat = x2 at *
    generalize (([UInt8.ofNat m] ++ rest).getD 3 0).toNat = x3 at *
    have hmb : manyB m = 1 := by unfold manyB; rw [if_neg (by omega), if_neg (by omega), if_neg (by omega)]
    have hnb : numB m x1 x2 x3 = m := by unfold numB; rw [if_neg (by omega), if_neg (by omega), if_neg (by omega)]
    have hk := (key.1 ⟨by rw [hmb]; simp, by rw [hnb]; exact h, by rw [hnb, hmb]; unfold encB; rw [if_pos h1]; rfl⟩)
    rw [hnb, hmb] at hk
    rw [if_pos h1]
    exact ⟨hk.1, hk.2⟩
  · by_cases h2 : m < 2048
    · have e : encL m = [UInt8.ofNat (192 + m / 64), UInt8.ofNat (128 + m % 64)] := by unfold encL; rw [if_neg h1, if_pos h2]
      rw [e] at key ⊢
      have b0 : (([UInt8.ofNat (192 + m / 64), UInt8.ofNat (128 + m % 64)] ++ rest).getD 0 0).toNat = 192 + m / 64 := by simp; omega
      have b1 : (([UInt8.ofNat (192 + m / 64), UInt8.ofNat (128 + m % 64)] ++ rest).getD 1 0).toNat = 128 + m % 64 := by simp; omega
      rw [b0, b1] at key ⊢
      generalize (([UInt8.ofNat (192 + m / 64), UInt8.ofNat (128 + m % 64)] ++ rest).getD 2 0).toNat = x2 at *
      generalize (([UInt8.ofNat (192 + m / 64), UInt8.ofNat (128 + m % 64)] ++ rest).getD 3 0).toNat = x3 at *
      have hmb : manyB (192 + m / 64) = 2 := by unfold manyB; rw [if_neg (by omega), if_neg (by omega), if_pos (by omega)]
      have hnb : numB (192 + m / 64) (128 + m % 64) x2 x3 = m := by unfold numB; rw [if_neg (by omega), if_neg (by omega), if_pos (by omega)]; omega
      have hk := (key.1 ⟨by rw [hmb]; simp, by rw [hnb]; exact h, by rw [hnb, hmb]; unfold encB; rw [if_neg h1, if_pos h2]; rfl⟩)
      rw [hnb, hmb] at hk
      rw [if_neg h1, if_pos h2]
      exact ⟨hk.1, hk.2⟩
    · by_cases h3 : m < 65536
      · have e : encL m = [UInt8.ofNat (224 + m / 4096), UInt8.ofNat (128 + m / 64 % 64), UInt8.ofNat (128 + m % 64)] := by unfold encL; rw [if_neg h1, if_neg h2, if_pos h3]
        rw [e] at key ⊢
        have b0 : (([UInt8.ofNat (224 + m / 4096), UInt8.ofNat (128 + m / 64 % 64), UInt8.ofNat (128 + m % 64)] ++ rest).getD 0 0).toNat = 224 + m / 4096 := by simp; omega
        have b1 : (([UInt8.ofNat (224 + m / 4096), UInt8.ofNat (128 + m / 64 % 64), UInt8.ofNat (128 + m % 64)] ++ rest).getD 1 0).toNat = 128 + m / 64 % 64 := by simp; omega
        have b2 : (([UInt8.ofNat (224 + m / 4096), UInt8.ofNat (128 + m / 64 % 64), UInt8.ofNat (128 + m % 64)] ++ rest).getD 2 0).toNat = 128 + m % 64 := by simp; omega
        rw [b0, b1, b2] at key ⊢
        generalize (([UInt8.ofNat (224 + m / 4096), UInt8.ofNat (128 + m / 64 % 64), UInt8.ofNat (128 + m % 64)] ++ rest).getD 3 0).toNat = x3 at *
        have hmb : manyB (224 + m / 4096) = 3 := by unfold manyB; rw [if_neg (by omega), if_pos (by omega)]
        have hnb : numB (224 + m / 4096) (128 + m / 64 % 64) (128 + m % 64) x3 = m := by unfold numB; rw [if_neg (by omega), if_pos (by omega)]; omega
        have hk := (key.1 ⟨by rw [hmb]; simp, by rw [hnb]; exact h, by rw [hnb, hmb]; unfold encB; rw [if_neg h1, if_neg h2, if_pos h3]; rfl⟩)
        rw [hnb, hmb] at hk
        rw [if_neg h1, if_neg h2, if_pos h3]
        exact ⟨hk.1, hk.2⟩
      · have e : encL m = [UInt8.ofNat (240 + m / 262144), UInt8.ofNat (128 + m / 4096 % 64), UInt8.ofNat (128 + m / 64 % 64), UInt8.ofNat (128 + m % 64)] := by unfold encL; rw [if_neg h1, if_neg h2, if_neg h3]
        rw [e] at key ⊢
        have b0 : (([UInt8.ofNat (240 + m / 262144), UInt8.ofNat (128 + m / 4096 % 64), UInt8.ofNat (128 + m / 64 % 64), UInt8.ofNat (128 + m % 64)] ++ rest).getD 0 0).toNat = 240 + m / 262144 := by simp; omega
        have b1 : (([UInt8.ofNat (240 + m / 262144), UInt8.ofNat (128 + m / 4096 % 64), UInt8.ofNat (128 + m / 64 % 64), UInt8.ofNat (128 + m % 64)] ++ rest).getD 1 0).toNat = 128 + m / 4096 % 64 := by simp; omega
        have b2 : (([UInt8.ofNat (240 + m / 262144), UInt8.ofNat (128 + m / 4096 % 64), UInt8.ofNat (128 + m / 64 % 64), UInt8.ofNat (128 + m % 64)] ++ rest).getD 2 0).toNat = 128 + m / 64 % 64 := by simp; omega
        have b3 : (([UInt8.ofNat (240 + m / 262144), UInt8.ofNat (128 + m / 4096 % 64), UInt8.ofNat (128 + m / 64 % 64), UInt8.ofNat (128 + m % 64)] ++ rest).getD 3 0).toNat = 128 + m % 64 := by simp; omega
        rw [b0, b1, b2, b3] at key ⊢
        have hmb : manyB (240 + m / 262144) = 4 := by unfold manyB; rw [if_pos (by omega)]
        have hnb : numB (240 + m / 262144) (128 + m / 4096 % 64) (128 + m / 64 % 64) (128 + m % 64) = m := by unfold numB; rw [if_pos (by omega)]; omega
        have hk := (key.1 ⟨by rw [hmb]; simp, by rw [hnb]; exact h, by rw [hnb, hmb]; unfold encB; rw [if_neg h1, if_neg h2, if_neg h3]; rfl⟩)
        rw [hnb, hmb] at hk
        rw [if_neg h1, if_neg h2, if_neg h3]
        exact ⟨hk.1, hk.2⟩
/-- All are code points. -/
def AllCh (P : List Int) : Prop := ∀ n ∈ P, ChI n
/-- Their bytes. -/
def encP : List Int → List UInt8
  | [] => []
  | n :: ns => encL n.toNat ++ encP ns
theorem chI_nat {n : Int} (h : ChI n) : ∃ m : Nat, n = (m : Int) ∧ chr m := by
  have h0 : 0 ≤ n := by unfold ChI at h; omega
  obtain ⟨m, rfl⟩ := Int.eq_ofNat_of_zero_le h0
  exact ⟨m, rfl, (ch_iff m).mp h⟩
theorem foldl_enc : ∀ (P : List Int) (_ : AllCh P) (s : ByteArray), (P.foldl (fun r n => r ++ Utf8.encode n) s).data.toList = s.data.toList ++ encP P
  | [], _, s => by simp [encP]
  | n :: ns, h, s => by
    obtain ⟨m, rfl, hm⟩ := chI_nat (h n List.mem_cons_self)
    rw [List.foldl_cons, foldl_enc ns (fun x hx => h x (List.mem_cons_of_mem _ hx)), ByteArray.data_append, Array.toList_append, encode_list m hm, encP, Int.toNat_natCast, List.append_assoc]
theorem runes_list {P : List Int} (h : AllCh P) : (runesBytes P).data.toList = encP P := by
  unfold runesBytes
  rw [foldl_enc P h]
  rfl
theorem encL_ne (m : Nat) (rest : List UInt8) : encL m ++ rest ≠ [] := by
  intro h
  have := congrArg List.length h
  rw [List.length_append, encL_len] at this
  simp only [List.length_nil] at this
  (repeat' split at this) <;> omega
theorem validGo_enc : ∀ (P : List Int) (_ : AllCh P) (k : Nat), (encP P).length ≤ k → Lib.validGoD k (encP P) = true
  | [], _, k, _ => by cases k <;> simp [encP, Lib.validGoD]
  | n :: ns, h, k, hk => by
    obtain ⟨m, rfl, hm⟩ := chI_nat (h n List.mem_cons_self)
    rw [encP, Int.toNat_natCast] at hk ⊢
    obtain ⟨d1, d2⟩ := dec_enc m hm (encP ns)
    have hl1 : 1 ≤ (encL m).length := by
      rw [encL_len]
      (repeat' split) <;> omega
    rw [List.length_append] at hk
    cases k with
    | zero => omega
    | succ k =>
      rw [Lib.validGoD, if_neg (encL_ne m (encP ns)), d1]
      rw [if_neg (by simpa using d2), List.drop_left]
      exact validGo_enc ns (fun x hx => h x (List.mem_cons_of_mem _ hx)) k (by omega)
theorem valid_enc {P : List Int} (h : AllCh P) : Lib.validD (runesBytes P).data.toList = true := by
  rw [runes_list h]
  exact validGo_enc P h _ (Nat.le_refl _)
theorem encP_len : ∀ P : List Int, P.length ≤ (encP P).length
  | [] => Nat.le_refl _
  | n :: ns => by
    have := encP_len ns
    rw [encP, List.length_append, encL_len, List.length_cons]
    (repeat' split) <;> omega
theorem encP_append : ∀ P Q : List Int, encP (P ++ Q) = encP P ++ encP Q
  | [], _ => rfl
  | n :: ns, Q => by rw [List.cons_append, encP, encP, encP_append ns Q, List.append_assoc]
theorem enc_same {n : Int} (h : ChI n) : strOfNums (encI n) = Utf8.encode n := by
  obtain ⟨m, rfl, hm⟩ := chI_nat h
  apply ByteArray.ext
  apply Array.toList_inj.mp
  rw [encode_list m hm]
  apply map_toNat_inj
  have hmm : m ≤ 1114111 := by unfold chr at hm; omega
  rw [strOfNums_data, enc_cast, List.map_map, List.map_map]
  have e : (encL m).map UInt8.toNat = encB m := by
    unfold encL encB
    (repeat' split) <;> simp <;> omega
  rw [e]
  refine (List.map_congr_left (fun x hx => ?_)).trans (List.map_id _)
  have := enc_small m hmm x hx
  simp
  omega
theorem runes_snoc (P : List Int) (n : Int) : runesBytes (P ++ [n]) = runesBytes P ++ Utf8.encode n := by
  unfold runesBytes
  rw [List.foldl_append]
  rfl
end Go.Proofs.YthdnklhaagofhaaDoor
