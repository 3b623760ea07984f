
/- 0 less a number, divided, is 0 less the quotient, but for the sign of a zero: 32-bit numbers. -/
import Derived.Test.YtogmcinaoemnpabFlWiden
namespace Go.Proofs.Ytogmcinaoemnpab
open Go Go.RowKit

theorem even_sign (neg : Bool) (n d : Nat) : Ieee.Toward.even.cut neg n d = Ieee.Toward.even.cut false n d := rfl
def rungN (m : Nat) (e : Int) : Nat :=
  if m = 0 then 0 else
  min ((max (e + m.log2 - 23) (-149) - (-149)).toNat * 8388608 + Ieee.Toward.even.cut false (m <<< (e - max (e + m.log2 - 23) (-149)).toNat) (max (e + m.log2 - 23) (-149) - e).toNat) 2139095040
theorem nearest_word (neg : Bool) (m : Nat) (e : Int) : Ieee.single.nearest neg m e = Ieee.single.word neg (rungN m e) := by
  have hlp : Ieee.single.leastPlace = -149 := by decide
  have hfb : ((Ieee.single.fractionBits : Nat) : Int) = 23 := rfl
  have hbin : Ieee.single.binade = 8388608 := rfl
  have hinf : Ieee.single.infRung = 2139095040 := rfl
  unfold Ieee.Format.nearest rungN
  by_cases h : m = 0
  · rw [if_pos h, if_pos h]
  · rw [if_neg h, if_neg h]
    dsimp only
    rw [hlp, hfb, hbin, hinf, even_sign]
theorem rungN_le (m : Nat) (e : Int) : rungN m e ≤ 2139095040 := by
  unfold rungN
  split
  · omega
  · exact Nat.min_le_right _ _
theorem read_wordS (s : Bool) (r : Nat) (h : r < 2147483648) : FloatKind.decode .f32 (Ieee.single.word s r) =
    if r < 8388608 then .number s r (-149) else if r < 2139095040 then .number s (8388608 + r % 8388608) (-149 + ((r / 8388608 - 1 : Nat) : Int)) else if r = 2139095040 then .infinity s else .nan s (r - 2139095040) := by
  show Ieee.single.read _ = _
  have hsw : Ieee.single.signWeight = 2147483648 := rfl
  have hbin : Ieee.single.binade = 8388608 := rfl
  have hinf : Ieee.single.infRung = 2139095040 := rfl
  have hlp : Ieee.single.leastPlace = -149 := by decide
  have h1 : (Ieee.single.word s r / 2147483648 % 2 == 1) = s := by
    unfold Ieee.Format.word
    rw [hsw]
    cases s
    · simp; omega
    · simp; omega
  have h2 : Ieee.single.word s r % 2147483648 = r := by
    unfold Ieee.Format.word
    rw [hsw]
    cases s
    · simp; omega
    · simp; omega
  unfold Ieee.Format.read
  rw [hsw, hbin, hinf, hlp]
  dsimp only
  rw [h1, h2]
theorem word_of (b : Nat) (h : b < 4294967296) : ∃ s r, r < 2147483648 ∧ b = Ieee.single.word s r := by
  have hsw : Ieee.single.signWeight = 2147483648 := rfl
  by_cases hc : b < 2147483648
  · exact ⟨false, b, hc, rfl⟩
  · refine ⟨true, b - 2147483648, by omega, ?_⟩
    unfold Ieee.Format.word
    rw [hsw, if_pos rfl]
    omega
/-- The rung of a number that a word has. -/
theorem rung_sub (r : Nat) (h0 : r ≠ 0) (h : r < 8388608) : rungN r (-149) = r := by
  unfold rungN
  rw [if_neg h0]
  have hl : r.log2 < 23 := (Nat.log2_lt h0).2 (by simpa using h)
  have e1 : max (-149 + (r.log2 : Int) - 23) (-149) = -149 := by omega
  rw [e1]
  simp only [Int.sub_self, Int.toNat_zero, Nat.zero_mul, Nat.zero_add, Nat.shiftLeft_zero, cut_zero]
  omega
theorem cut_exact (m k : Nat) (hm : 8388608 ≤ m) : Ieee.Toward.even.cut false (m * 2 ^ k) k = m := by
  have hl : k ≤ (m * 2 ^ k).log2 + 2 := by
    have h1 : 2 ^ k ≤ m * 2 ^ k := Nat.le_mul_of_pos_left _ (by omega)
    have h2 : m * 2 ^ k ≠ 0 := by have := Nat.two_pow_pos k; exact Nat.mul_ne_zero (by omega) (by omega)
    have := (Nat.le_log2 h2).2 h1
    omega
  unfold Ieee.Toward.cut
  have hg : 1 <<< min k ((m * 2 ^ k).log2 + 2) = 2 ^ k := by rw [Nat.min_eq_left hl, Nat.shiftLeft_eq, Nat.one_mul]
  rw [hg]
  have hp := Nat.two_pow_pos k
  have e1 : m * 2 ^ k / 2 ^ k = m := Nat.mul_div_cancel _ hp
  have e2 : m * 2 ^ k % 2 ^ k = 0 := Nat.mul_mod_left _ _
  simp only [e1, e2]
  have e3 : (2 ^ k == 2 * 0) = false := by simp
  have e4 : decide (2 ^ k < 2 * 0) = false := by simp
  simp only [e3, e4, Bool.false_and, Bool.or_self, Bool.toNat_false, Nat.add_zero]
theorem rung_norm (E f : Nat) (hE : 1 ≤ E) (hE2 : E < 255) (hf : f < 8388608) : rungN ((8388608 + f) * 2 ^ (E - 1)) (-149) = E * 8388608 + f := by
  obtain ⟨m, hm⟩ : ∃ m, m = 8388608 + f := ⟨_, rfl⟩
  rw [← hm]
  have hp := Nat.two_pow_pos (E - 1)
  have h0 : m * 2 ^ (E - 1) ≠ 0 := Nat.mul_ne_zero (by omega) (by omega)
  have hl : (m * 2 ^ (E - 1)).log2 = 22 + E := by
    rw [Nat.log2_eq_iff h0]
    have a1 : 2 ^ (22 + E) = 8388608 * 2 ^ (E - 1) := by rw [show 22 + E = 23 + (E - 1) by omega, Nat.pow_add]
    have a2 : 2 ^ (22 + E + 1) = 16777216 * 2 ^ (E - 1) := by rw [show 22 + E + 1 = 24 + (E - 1) by omega, Nat.pow_add]
    rw [a1, a2]
    exact ⟨Nat.mul_le_mul_right _ (by omega), Nat.mul_lt_mul_of_pos_right (by omega) hp⟩
  unfold rungN
  rw [if_neg h0, hl]
  have e1 : max (-149 + ((22 + E : Nat) : Int) - 23) (-149) = -149 + ((E - 1 : Nat) : Int) := by omega
  rw [e1]
  have e2 : (-149 + ((E - 1 : Nat) : Int) - -149).toNat = E - 1 := by omega
  have e3 : (-149 - (-149 + ((E - 1 : Nat) : Int))).toNat = 0 := by omega
  rw [e2, e3, Nat.shiftLeft_zero, cut_exact m (E - 1) (by omega)]
  have : (E - 1) * 8388608 + m = E * 8388608 + f := by omega
  rw [this]
  omega
theorem zero_dec : FloatKind.decode .f32 0 = .number false 0 (-149) := by decide +kernel
theorem sub_zero (s : Bool) (r : Nat) (h : r ≤ 2139095040) : fbin .sub .f32 0 (Ieee.single.word s r) = if r = 0 then 0 else Ieee.single.word (!s) r := by
  have hz : Ieee.single.read 0 = .number false 0 (-149) := zero_dec
  have hw := read_wordS s r (by omega)
  have hw' : Ieee.single.read (Ieee.single.word s r) = _ := hw
  have hfb : fbin .sub .f32 0 (Ieee.single.word s r) = (((Ieee.Datum.number false 0 (-149)).sum (Ieee.single.read (Ieee.single.word s r)).opposite).map Ieee.single.write).getD (qnan .f32) := by
    rw [← hz]; rfl
  rw [hfb, hw']
  clear hfb hw hw'
  by_cases h0 : r = 0
  · subst h0
    rw [if_pos (by omega), if_pos rfl]
    cases s <;> decide +kernel
  · rw [if_neg h0]
    by_cases h1 : r < 8388608
    · rw [if_pos h1]
      have e : (Ieee.Datum.number false 0 (-149)).sum (Ieee.Datum.number s r (-149)).opposite = some (.number (!s) r (-149)) := by
        simp only [Ieee.Datum.opposite, Ieee.Datum.sum, Ieee.signed]
        cases s <;> simp <;> omega
      rw [e]
      show Ieee.single.nearest _ _ _ = _
      rw [nearest_word, rung_sub r h0 h1]
    · rw [if_neg h1]
      by_cases h2 : r < 2139095040
      · rw [if_pos h2]
        obtain ⟨E, hE⟩ : ∃ E, E = r / 8388608 := ⟨_, rfl⟩
        obtain ⟨f, hf⟩ : ∃ f, f = r % 8388608 := ⟨_, rfl⟩
        rw [← hE, ← hf]
        have hr : r = E * 8388608 + f := by omega
        have hE1 : 1 ≤ E := by omega
        have hE2 : E < 255 := by omega
        have hf2 : f < 8388608 := by omega
        have e : (Ieee.Datum.number false 0 (-149)).sum (Ieee.Datum.number s (8388608 + f) (-149 + ((E - 1 : Nat) : Int))).opposite = some (.number (!s) ((8388608 + f) * 2 ^ (E - 1)) (-149)) := by
          have hp := Nat.two_pow_pos (E - 1)
          have hpos : 0 < (8388608 + f) * 2 ^ (E - 1) := Nat.mul_pos (by omega) hp
          have m1 : min (-149) (-149 + ((E - 1 : Nat) : Int)) = -149 := by omega
          have m2 : (-149 + ((E - 1 : Nat) : Int) - -149).toNat = E - 1 := by omega
          simp only [Ieee.Datum.opposite, Ieee.Datum.sum, m1, m2, Ieee.signed, Nat.shiftLeft_eq]
          generalize (8388608 + f) * 2 ^ (E - 1) = M at *
          cases s <;> simp <;> omega
        rw [e]
        show Ieee.single.nearest _ _ _ = _
        rw [nearest_word, rung_norm E f hE1 hE2 hf2, ← hr]
      · have h3 : r = 2139095040 := by omega
        subst h3
        cases s <;> decide +kernel
end Go.Proofs.Ytogmcinaoemnpab
