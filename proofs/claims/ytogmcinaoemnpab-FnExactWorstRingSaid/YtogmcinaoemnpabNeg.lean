
/- The sign turned: what the word reads as; and what comparing with two to the power of 52 tells. -/
import Derived.Test.YtogmcinaoemnpabSinQ
namespace Go.Proofs.Ytogmcinaoemnpab
open Go Go.RowKit

theorem xor_low (n x : Nat) (h : x < 2 ^ n) : x ^^^ 2 ^ n = 2 ^ n + x := by
  apply Nat.eq_of_testBit_eq
  intro i
  rw [Nat.testBit_xor, Nat.testBit_two_pow]
  have hp : 2 ^ (n + 1) = 2 * 2 ^ n := by rw [Nat.pow_succ]; omega
  rcases Nat.lt_trichotomy i n with hi | hi | hi
  · rw [Nat.testBit_two_pow_add_gt hi]
    have : ¬ n = i := by omega
    simp [this]
  · subst hi
    rw [Nat.testBit_two_pow_add_eq]
    simp
  · have h1 : x.testBit i = false := Nat.testBit_lt_two_pow (Nat.lt_of_lt_of_le h (Nat.pow_le_pow_right (by omega) (by omega)))
    have h2 : (2 ^ n + x).testBit i = false := Nat.testBit_lt_two_pow (Nat.lt_of_lt_of_le (show 2 ^ n + x < 2 ^ (n + 1) by omega) (Nat.pow_le_pow_right (by omega) (by omega)))
    have : ¬ n = i := by omega
    simp [h1, h2, this]
theorem xor_high (n r : Nat) (h : r < 2 ^ n) : (2 ^ n + r) ^^^ 2 ^ n = r := by
  rw [← xor_low n r h, Nat.xor_assoc, Nat.xor_self, Nat.xor_zero]
theorem neg64 (x : Nat) (h : x < 18446744073709551616) : (Op.negFloat .f64 x) % 9223372036854775808 = x % 9223372036854775808 ∧ (Op.negFloat .f64 x) / 9223372036854775808 % 2 = 1 - x / 9223372036854775808 % 2 ∧ Op.negFloat .f64 x < 18446744073709551616 := by
  have e : Op.negFloat .f64 x = x ^^^ 2 ^ 63 := rfl
  by_cases hx : x < 2 ^ 63
  · rw [e, xor_low 63 x hx]
    simp only [Nat.reducePow] at hx ⊢
    omega
  · obtain ⟨r, hr⟩ : ∃ r, x = 2 ^ 63 + r := ⟨x - 2 ^ 63, by omega⟩
    have hr' : r < 2 ^ 63 := by simp only [Nat.reducePow] at *; omega
    rw [e, hr, xor_high 63 r hr']
    simp only [Nat.reducePow] at *
    omega
theorem read_neg (x : Nat) (h : x < 18446744073709551616) : Ieee.double.read (Op.negFloat .f64 x) = (Ieee.double.read x).opposite := by
  obtain ⟨h1, h2, _⟩ := neg64 x h
  have hsw : Ieee.double.signWeight = 9223372036854775808 := rfl
  have hb : (1 - x / 9223372036854775808 % 2 == 1) = !(x / 9223372036854775808 % 2 == 1) := by
    rcases (by omega : x / 9223372036854775808 % 2 = 0 ∨ x / 9223372036854775808 % 2 = 1) with h | h <;> rw [h] <;> rfl
  unfold Ieee.Format.read
  rw [hsw, h1, h2]
  dsimp only
  rw [hb]
  by_cases c1 : x % 9223372036854775808 < Ieee.double.binade
  · rw [if_pos c1, if_pos c1]; rfl
  · rw [if_neg c1, if_neg c1]
    by_cases c2 : x % 9223372036854775808 < Ieee.double.infRung
    · rw [if_pos c2, if_pos c2]; rfl
    · rw [if_neg c2, if_neg c2]
      by_cases c3 : x % 9223372036854775808 = Ieee.double.infRung
      · rw [if_pos c3, if_pos c3]; rfl
      · rw [if_neg c3, if_neg c3]; rfl
theorem isNaN_neg (x : Nat) (h : x < 18446744073709551616) : isNaN .f64 (Op.negFloat .f64 x) = isNaN .f64 x := by
  show (Ieee.double.read _).isNaN = (Ieee.double.read x).isNaN
  rw [read_neg x h]
  cases Ieee.double.read x <;> rfl
theorem fneg_num {x : Nat} (h : isNaN .f64 x = false) : fneg .f64 x = Op.negFloat .f64 x := by simp [fneg, h]
theorem bd_neg {x : Nat} {B : Int} (hx : x < 18446744073709551616) (h : Bd .f64 x B) : Bd .f64 (fneg .f64 x) B := by
  rw [fneg_num h.num]
  obtain ⟨s, m, e, hd, hv⟩ := h
  refine ⟨!s, m, e, ?_, hv⟩
  have hd' : Ieee.double.read x = _ := hd
  show Ieee.double.read _ = _
  rw [read_neg x hx, hd']; rfl
theorem fbin_lt64 (op : BinOp) (x y : Nat) : fbin op .f64 x y < 18446744073709551616 := by simpa [Lit.wf] using fbin_wf op .f64 x y
/-- 2 to the power of 52, and its opposite. -/
theorem read_c52 : FloatKind.decode .f64 4841369599423283200 = .number false 4503599627370496 0 := by decide +kernel
theorem read_m52 : FloatKind.decode .f64 14064741636278059008 = .number true 4503599627370496 0 := by decide +kernel
theorem sval_c52 : sval false 4503599627370496 0 = two 52 := by decide +kernel
theorem sval_m52 : sval true 4503599627370496 0 = -two 52 := by decide +kernel
theorem abs_decode {x : Nat} {s : Bool} {m : Nat} {e : Int} (hd : FloatKind.decode .f64 x = .number s m e) : FloatKind.decode .f64 (absw x) = .number false m e := by
  have hd' : Ieee.double.read x = _ := hd
  show Ieee.double.read _ = _
  rw [read_abs, hd']
theorem small_or_big {x : Nat} {s : Bool} {m : Nat} {e : Int} (hd : FloatKind.decode .f64 x = .number s m e) :
    ((m : Rat) * two e < two 52 ∧ (ge64 x 4841369599423283200 = false ∧ (FloatKind.f64.format.order x 14064741636278059008 == some .lt || FloatKind.f64.format.order x 14064741636278059008 == some .eq) = false ∧ ge64 (absw x) 4841369599423283200 = false)) ∨
    (two 52 ≤ (m : Rat) * two e ∧ (ge64 x 4841369599423283200 = true ∨ (ge64 x 4841369599423283200 = false ∧ (FloatKind.f64.format.order x 14064741636278059008 == some .lt || FloatKind.f64.format.order x 14064741636278059008 == some .eq) = true)) ∧ ge64 (absw x) 4841369599423283200 = true) := by
  have ha := abs_decode hd
  obtain ⟨a1, a2, a3⟩ := order_val hd read_c52
  obtain ⟨b1, b2, b3⟩ := order_val hd read_m52
  obtain ⟨c1, c2, c3⟩ := order_val ha read_c52
  rw [sval_c52] at a1 a2 a3 c1 c2 c3
  rw [sval_m52] at b1 b2 b3
  have hm : sval false m e = (m : Rat) * two e := by unfold sval; simp
  rw [hm] at c1 c2 c3
  by_cases hlt : (m : Rat) * two e < two 52
  · obtain ⟨h1, h2⟩ := (sval_abs_lt s m e (two 52)).1 hlt
    exact .inl ⟨hlt, by unfold ge64; rw [a1 h2]; rfl, by rw [b3 h1]; rfl, by unfold ge64; rw [c1 hlt]; rfl⟩
  · have hge : two 52 ≤ (m : Rat) * two e := by grind
    have hc : ge64 (absw x) 4841369599423283200 = true := by
      unfold ge64
      by_cases he : (m : Rat) * two e = two 52
      · rw [c2 he]; rfl
      · rw [c3 (by grind)]; rfl
    refine .inr ⟨hge, ?_, hc⟩
    have p52 := two_pos 52
    cases s with
    | false =>
      left
      have hv : sval false m e = (m : Rat) * two e := hm
      unfold ge64
      by_cases he : (m : Rat) * two e = two 52
      · rw [a2 (by rw [hv]; exact he)]; rfl
      · rw [a3 (by rw [hv]; grind)]; rfl
    | true =>
      right
      have hv : sval true m e = -((m : Rat) * two e) := by unfold sval; simp only [if_true]; grind
      refine ⟨?_, ?_⟩
      · unfold ge64; rw [a1 (by rw [hv]; grind)]; rfl
      · by_cases he : (m : Rat) * two e = two 52
        · rw [b2 (by rw [hv]; grind)]; rfl
        · rw [b1 (by rw [hv]; grind)]; rfl
end Go.Proofs.Ytogmcinaoemnpab
