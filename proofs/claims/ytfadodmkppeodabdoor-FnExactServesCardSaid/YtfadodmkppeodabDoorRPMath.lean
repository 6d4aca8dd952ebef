/-
  A part is read just where it is the decimal text of a number below 1000.
-/
import Derived.Test.YtfadodmkppeodabDoorRPart
import Derived.Test.YtfadodmkppeodabDoorDigits
namespace Go.Proofs.YtfadodmkppeodabDoor

theorem dig_nat (d : Nat) (h : d < 10) : ((UInt8.ofNat (48 + d)).toNat : Int) = 48 + d := by
  have : (UInt8.ofNat (48 + d)).toNat = 48 + d := by
    rw [UInt8.toNat_ofNat']
    omega
  omega
theorem dec1 (n : Nat) (h : n < 10) : Lib.decDigits n = [UInt8.ofNat (48 + n)] := by rw [Lib.decDigits, dif_pos h]
theorem dec2 (n : Nat) (h : 10 ≤ n) (h2 : n < 100) : Lib.decDigits n = [UInt8.ofNat (48 + n / 10), UInt8.ofNat (48 + n % 10)] := by
  rw [Lib.decDigits, dif_neg (by omega), dec1 _ (by omega)]
  rfl
theorem dec3 (n : Nat) (h : 100 ≤ n) (h2 : n < 1000) : Lib.decDigits n = [UInt8.ofNat (48 + n / 10 / 10), UInt8.ofNat (48 + n / 10 % 10), UInt8.ofNat (48 + n % 10)] := by
  rw [Lib.decDigits, dif_neg (by omega), dec2 _ (by omega) (by omega)]
  rfl
theorem u8_of (c : UInt8) (k : Nat) (h : c.toNat = 48 + k) : c = UInt8.ofNat (48 + k) := by
  rw [← h]
  simp

theorem rp_dec (n : Nat) (h : n < 1000) : rp (decB n) = some (n : Int) := by
  by_cases h1 : n < 10
  · have e : decB n = ⟨#[UInt8.ofNat (48 + n)]⟩ := by simp only [decB, Int.toNat_natCast, dec1 n h1]
    rw [e]
    have a1 := dig_nat n h1
    generalize UInt8.ofNat (48 + n) = c at *
    have hs : (⟨#[c]⟩ : ByteArray).size = 1 := rfl
    unfold rp
    rw [if_neg (by rw [hs]; omega), if_neg (by rw [hs]; simp)]
    simp only [rpL]
    rw [if_neg (by omega), if_neg (by omega)]
    congr 1
    omega
  · by_cases h2 : n < 100
    · have e : decB n = ⟨#[UInt8.ofNat (48 + n / 10), UInt8.ofNat (48 + n % 10)]⟩ := by simp only [decB, Int.toNat_natCast, dec2 n (by omega) h2]
      rw [e]
      have a1 := dig_nat (n / 10) (by omega)
      have a2 := dig_nat (n % 10) (by omega)
      generalize UInt8.ofNat (48 + n / 10) = c at *
      generalize UInt8.ofNat (48 + n % 10) = d at *
      have hs : (⟨#[c, d]⟩ : ByteArray).size = 2 := rfl
      unfold rp
      rw [if_neg (by rw [hs]; omega), if_neg (by
        rintro ⟨h3, _⟩
        have h4 : c = 48 := Option.some.inj h3
        rw [h4] at a1
        have : ((48 : UInt8).toNat : Int) = 48 := rfl
        omega)]
      simp only [rpL]
      rw [if_neg (by omega), if_neg (by omega), if_neg (by omega), if_neg (by omega)]
      congr 1
      omega
    · have e : decB n = ⟨#[UInt8.ofNat (48 + n / 10 / 10), UInt8.ofNat (48 + n / 10 % 10), UInt8.ofNat (48 + n % 10)]⟩ := by simp only [decB, Int.toNat_natCast, dec3 n (by omega) h]
      rw [e]
      have a1 := dig_nat (n / 10 / 10) (by omega)
      have a2 := dig_nat (n / 10 % 10) (by omega)
      have a3 := dig_nat (n % 10) (by omega)
      generalize UInt8.ofNat (48 + n / 10 / 10) = c at *
      generalize UInt8.ofNat (48 + n / 10 % 10) = d at *
      generalize UInt8.ofNat (48 + n % 10) = f at *
      have hs : (⟨#[c, d, f]⟩ : ByteArray).size = 3 := rfl
      unfold rp
      rw [if_neg (by rw [hs]; omega), if_neg (by
        rintro ⟨h3, _⟩
        have h4 : c = 48 := Option.some.inj h3
        rw [h4] at a1
        have : ((48 : UInt8).toNat : Int) = 48 := rfl
        omega)]
      simp only [rpL]
      rw [if_neg (by omega), if_neg (by omega), if_neg (by omega), if_neg (by omega), if_neg (by omega), if_neg (by omega)]
      congr 1
      omega

theorem rpL_up (l : List UInt8) (m n : Int) (h0 : 0 ≤ m) (h : rpL l m = some n) : m ≤ n ∧ n ≤ max m 999 := by
  induction l generalizing m with
  | nil =>
    simp only [rpL, Option.some.injEq] at h
    omega
  | cons c cs ih =>
    simp only [rpL] at h
    split at h
    · cases h
    · split at h
      · cases h
      · have := ih _ (by omega) h
        omega

theorem rp_some (s : ByteArray) (n : Int) (h : rp s = some n) : 0 ≤ n ∧ n < 1000 ∧ s = decB n := by
  unfold rp at h
  split at h
  · cases h
  · rename_i hs
    split at h
    · cases h
    · rename_i hz
      have hlen : s.data.toList.length = s.size := rfl
      have hup := rpL_up _ _ _ (by omega) h
      refine ⟨by omega, by omega, ?_⟩
      apply ByteArray.ext
      apply Array.toList_inj.mp
      show s.data.toList = Lib.decDigits n.toNat
      rw [← hlen] at hs hz
      generalize s.data.toList = l at *
      clear hlen hup
      match l, hs, hz, h with
      | [], hs, _, _ => simp at hs
      | [c], _, _, h =>
        simp only [rpL] at h
        split at h
        · cases h
        · split at h
          · cases h
          · have hn := Option.some.inj h
            rw [dec1 n.toNat (by omega), ← u8_of c n.toNat (by omega)]
      | [c, d], _, hz, h =>
        have hc : (c.toNat : Int) ≠ 48 := by
          intro h4
          apply hz
          refine ⟨?_, by simp⟩
          have : c = 48 := by
            apply UInt8.toNat_inj.mp
            have : (48 : UInt8).toNat = 48 := rfl
            omega
          rw [this]
          rfl
        simp only [rpL] at h
        split at h
        · cases h
        · split at h
          · cases h
          · split at h
            · cases h
            · split at h
              · cases h
              · have hn := Option.some.inj h
                rw [dec2 n.toNat (by omega) (by omega), ← u8_of c (n.toNat / 10) (by omega), ← u8_of d (n.toNat % 10) (by omega)]
      | [c, d, e], _, hz, h =>
        have hc : (c.toNat : Int) ≠ 48 := by
          intro h4
          apply hz
          refine ⟨?_, by simp⟩
          have : c = 48 := by
            apply UInt8.toNat_inj.mp
            have : (48 : UInt8).toNat = 48 := rfl
            omega
          rw [this]
          rfl
        simp only [rpL] at h
        split at h
        · cases h
        · split at h
          · cases h
          · split at h
            · cases h
            · split at h
              · cases h
              · split at h
                · cases h
                · split at h
                  · cases h
                  · have hn := Option.some.inj h
                    rw [dec3 n.toNat (by omega) (by omega), ← u8_of c (n.toNat / 10 / 10) (by omega), ← u8_of d (n.toNat / 10 % 10) (by omega), ← u8_of e (n.toNat % 10) (by omega)]
      | c :: d :: e :: f :: t, _, hz, h =>
        exfalso
        have hc : (c.toNat : Int) ≠ 48 := by
          intro h4
          apply hz
          refine ⟨?_, by simp⟩
          have : c = 48 := by
            apply UInt8.toNat_inj.mp
            have : (48 : UInt8).toNat = 48 := rfl
            omega
          rw [this]
          rfl
        simp only [rpL] at h
        split at h
        · cases h
        · split at h
          · cases h
          · split at h
            · cases h
            · split at h
              · cases h
              · split at h
                · cases h
                · split at h
                  · cases h
                  · split at h
                    · cases h
                    · split at h
                      · cases h
                      · omega
end Go.Proofs.YtfadodmkppeodabDoor
