/- Subnormal numbers: told by the bits and by comparing. -/
import Derived.Test.YtchpnjihhncfmaaFlWiden
namespace Go.Proofs.Ytchpnjihhncfmaa
open Go Go.RowKit

theorem read32 (x : Nat) : FloatKind.f32.format.read x =
    if x % 2147483648 < 8388608 then .number (x / 2147483648 % 2 == 1) (x % 2147483648) (-149)
    else if x % 2147483648 < 2139095040 then .number (x / 2147483648 % 2 == 1) (8388608 + x % 2147483648 % 8388608) (-149 + ((x % 2147483648 / 8388608 - 1 : Nat) : Int))
    else if x % 2147483648 = 2139095040 then .infinity (x / 2147483648 % 2 == 1) else .nan (x / 2147483648 % 2 == 1) (x % 2147483648 - 2139095040) := by
  have hsw : Ieee.single.signWeight = 2147483648 := rfl
  have hbin : Ieee.single.binade = 8388608 := rfl
  have hinf : Ieee.single.infRung = 2139095040 := rfl
  have hlp : Ieee.single.leastPlace = -149 := by decide
  show Ieee.single.read x = _
  unfold Ieee.Format.read
  rw [hsw, hbin, hinf, hlp]
theorem isNaN32 (x : Nat) : isNaN .f32 x = decide (2139095040 < x % 2147483648) := by
  unfold isNaN FloatKind.decode
  rw [read32]
  by_cases h1 : x % 2147483648 < 8388608
  · rw [if_pos h1]; have : ¬ 2139095040 < x % 2147483648 := by omega
    simp [this, Ieee.Datum.isNaN]
  · rw [if_neg h1]
    by_cases h2 : x % 2147483648 < 2139095040
    · rw [if_pos h2]; have : ¬ 2139095040 < x % 2147483648 := by omega
      simp [this, Ieee.Datum.isNaN]
    · rw [if_neg h2]
      by_cases h3 : x % 2147483648 = 2139095040
      · rw [if_pos h3]; have : ¬ 2139095040 < x % 2147483648 := by omega
        simp [this, Ieee.Datum.isNaN]
      · rw [if_neg h3]; have : 2139095040 < x % 2147483648 := by omega
        simp [this, Ieee.Datum.isNaN]
theorem read_0 : FloatKind.f32.format.read 0 = .number false 0 (-149) := by decide +kernel
theorem read_least : FloatKind.f32.format.read 8388608 = .number false 8388608 (-149) := by decide +kernel
theorem read_mleast : FloatKind.f32.format.read 2155872256 = .number true 8388608 (-149) := by decide +kernel
theorem cmp_lt {a b : Int} (h : a < b) : compare a b = .lt := by rw [Int.compare_eq_lt]; exact h
theorem cmp_gt {a b : Int} (h : b < a) : compare a b = .gt := by rw [Int.compare_eq_gt]; exact h
theorem cmp_eq {a b : Int} (h : a = b) : compare a b = .eq := by rw [Int.compare_eq_eq]; exact h
theorem signed_zero (s : Bool) (m : Nat) : Ieee.signed s m 0 = if s then -(m : Int) else m := by cases s <;> simp [Ieee.signed]
theorem signed_false (m k : Nat) : Ieee.signed false m k = ((m <<< k : Nat) : Int) := by simp [Ieee.signed]
theorem signed_true (m k : Nat) : Ieee.signed true m k = -((m <<< k : Nat) : Int) := by simp [Ieee.signed]
theorem shl_ge (m k : Nat) : m ≤ m <<< k := by
  rw [Nat.shiftLeft_eq]; have := Nat.mul_le_mul_left m (Nat.one_le_two_pow (n := k)); omega
/-- How x stands to 0, and to the least normal number and its opposite. -/
theorem order_zero_small (x : Nat) (h : x % 2147483648 = 0) : FloatKind.f32.format.order x 0 = some .eq := by
  unfold Ieee.Format.order
  rw [read32, if_pos (by omega), read_0, h]
  generalize (x / 2147483648 % 2 == 1) = s
  cases s <;> rfl
theorem order_small (x : Nat) (h0 : 0 < x % 2147483648) (h1 : x % 2147483648 < 8388608) :
    (FloatKind.f32.format.order x 0 != some .eq) = true ∧ (FloatKind.f32.format.order x 8388608 == some .lt) = true ∧ (FloatKind.f32.format.order x 2155872256 == some .gt) = true := by
  unfold Ieee.Format.order
  rw [read32, if_pos h1, read_0, read_least, read_mleast]
  generalize (x / 2147483648 % 2 == 1) = s
  generalize x % 2147483648 = r at *
  simp only [Ieee.Datum.order, Int.min_self, Int.sub_self, Int.toNat_zero, signed_zero]
  cases s
  · simp only [Bool.false_eq_true, if_false, if_true]
    rw [cmp_gt (by omega), cmp_lt (by omega), cmp_gt (by omega)]
    exact ⟨rfl, rfl, rfl⟩
  · simp only [Bool.false_eq_true, if_false, if_true]
    rw [cmp_lt (by omega), cmp_lt (by omega), cmp_gt (by omega)]
    exact ⟨rfl, rfl, rfl⟩
theorem order_big (x : Nat) (h1 : ¬ x % 2147483648 < 8388608) :
    (FloatKind.f32.format.order x 0 != some .eq) = true ∧ ((FloatKind.f32.format.order x 8388608 == some .lt) = false ∨ ((FloatKind.f32.format.order x 8388608 == some .lt) = true ∧ (FloatKind.f32.format.order x 2155872256 == some .gt) = false)) := by
  unfold Ieee.Format.order
  rw [read32, if_neg h1, read_0, read_least, read_mleast]
  generalize (x / 2147483648 % 2 == 1) = s
  by_cases h2 : x % 2147483648 < 2139095040
  · rw [if_pos h2]
    generalize x % 2147483648 % 8388608 = f
    generalize (x % 2147483648 / 8388608 - 1) = k
    have hm : min (-149 + (k : Int)) (-149) = -149 := by omega
    have hm2 : (-149 + (k : Int) - -149).toNat = k := by omega
    have hg := shl_ge (8388608 + f) k
    cases s
    · simp only [Ieee.Datum.order, hm, hm2, Int.sub_self, Int.toNat_zero, signed_false, signed_true, Nat.shiftLeft_zero]
      generalize (8388608 + f) <<< k = K at *
      rw [cmp_gt (by omega)]
      refine ⟨rfl, .inl ?_⟩
      by_cases hk : K = 8388608
      · rw [cmp_eq (by omega)]; rfl
      · rw [cmp_gt (by omega)]; rfl
    · simp only [Ieee.Datum.order, hm, hm2, Int.sub_self, Int.toNat_zero, signed_false, signed_true, Nat.shiftLeft_zero]
      generalize (8388608 + f) <<< k = K at *
      rw [cmp_lt (by omega), cmp_lt (by omega)]
      refine ⟨rfl, .inr ⟨rfl, ?_⟩⟩
      by_cases hk : K = 8388608
      · rw [cmp_eq (by omega)]; rfl
      · rw [cmp_lt (by omega)]; rfl
  · rw [if_neg h2]
    by_cases h3 : x % 2147483648 = 2139095040
    · rw [if_pos h3]
      cases s
      · exact ⟨rfl, .inl rfl⟩
      · exact ⟨rfl, .inr ⟨rfl, rfl⟩⟩
    · rw [if_neg h3]
      exact ⟨rfl, .inl rfl⟩
theorem and_mask (x : Nat) : x &&& 2139095040 = (x / 8388608 % 256) * 8388608 := by
  have e : 2139095040 = (2 ^ 8 - 1) <<< 23 := by decide
  have h : x / 8388608 % 256 * 8388608 = ((x >>> 23) &&& (2 ^ 8 - 1)) <<< 23 := by
    rw [Nat.and_two_pow_sub_one_eq_mod, Nat.shiftLeft_eq, Nat.shiftRight_eq_div_pow]
  rw [h, e]
  apply Nat.eq_of_testBit_eq
  intro i
  rw [Nat.testBit_and, Nat.testBit_shiftLeft, Nat.testBit_shiftLeft, Nat.testBit_and, Nat.testBit_shiftRight]
  by_cases hi : 23 ≤ i
  · have : 23 + (i - 23) = i := by omega
    rw [this]
    cases x.testBit i <;> cases (2 ^ 8 - 1 : Nat).testBit (i - 23) <;> simp [hi]
  · simp [hi]
theorem i64_and_nat (a b : Nat) (ha : a < 9223372036854775808) (hb : b < 9223372036854775808) : bits .and .i64 (a : Int) (b : Int) = ((a &&& b : Nat) : Int) := by
  have key : (BitVec.ofInt 64 (a : Int) &&& BitVec.ofInt 64 (b : Int)).toNat = a &&& b := by
    rw [BitVec.toNat_and, BitVec.toNat_ofInt, BitVec.toNat_ofInt]
    have h1 : ((a : Int) % ((2 ^ 64 : Nat) : Int)).toNat = a := by simp only [Nat.reducePow]; omega
    have h2 : ((b : Int) % ((2 ^ 64 : Nat) : Int)).toNat = b := by simp only [Nat.reducePow]; omega
    rw [h1, h2]
  show IntKind.i64.wrap ((BitVec.ofInt 64 (a : Int) &&& BitVec.ofInt 64 (b : Int)).toNat : Nat) = _
  rw [key, IntKind.wrap_i64]
  have := Nat.and_le_left (n := a) (m := b)
  omega
theorem i64_mask (x : Nat) (hx : x < 4294967296) : bits .and .i64 (x : Int) 2139095040 = ((x / 8388608 % 256 * 8388608 : Nat) : Int) := by
  have h := i64_and_nat x 2139095040 (by omega) (by omega)
  rw [and_mask] at h
  exact h
end Go.Proofs.Ytchpnjihhncfmaa
