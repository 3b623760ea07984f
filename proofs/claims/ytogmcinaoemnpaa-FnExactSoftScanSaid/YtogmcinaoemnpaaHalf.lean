
/- Half of a 32-bit number: 0.5 times it, and it divided by 2, are the same word. -/
import Derived.Test.YtogmcinaoemnpaaNegQ
namespace Go.Proofs.Ytogmcinaoemnpaa
open Go Go.RowKit

theorem cut_of {n d q r : Nat} (hn : n = q * 2 ^ d + r) (hr : r < 2 ^ d) (neg : Bool) : Ieee.Toward.even.cut neg n d = q + (decide (2 ^ d < 2 * r) || (decide (2 ^ d = 2 * r) && q % 2 == 1)).toNat := by
  have hp := Nat.two_pow_pos d
  have hq : n / 2 ^ d = q := by
    rw [hn, Nat.add_comm, Nat.add_mul_div_right _ _ hp, Nat.div_eq_of_lt hr, Nat.zero_add]
  have hm : n % 2 ^ d = r := by
    rw [hn, Nat.add_comm, Nat.add_mul_mod_self_right, Nat.mod_eq_of_lt hr]
  by_cases h : d ≤ n.log2 + 2
  · have hg : 1 <<< min d (n.log2 + 2) = 2 ^ d := by rw [Nat.min_eq_left h, Nat.shiftLeft_eq, Nat.one_mul]
    unfold Ieee.Toward.cut
    rw [hg]
    dsimp only
    rw [hq, hm]
    rfl
  · have hg : 1 <<< min d (n.log2 + 2) = 2 ^ (n.log2 + 2) := by rw [Nat.min_eq_right (by omega), Nat.shiftLeft_eq, Nat.one_mul]
    have hlt : n < 2 ^ (n.log2 + 1) := Nat.lt_log2_self
    have hs : 2 ^ (n.log2 + 2) = 2 * 2 ^ (n.log2 + 1) := by rw [Nat.pow_succ 2 (n.log2 + 1)]; omega
    have hd : 2 ^ (n.log2 + 3) ≤ 2 ^ d := Nat.pow_le_pow_right (by omega) (by omega)
    have hs3 : 2 ^ (n.log2 + 3) = 2 * 2 ^ (n.log2 + 2) := by rw [Nat.pow_succ 2 (n.log2 + 2)]; omega
    have hq0 : q = 0 := by
      rw [← hq]
      exact Nat.div_eq_of_lt (by omega)
    subst hq0
    have hnr : n = r := by omega
    unfold Ieee.Toward.cut
    rw [hg]
    dsimp only
    rw [Nat.div_eq_of_lt (by omega), Nat.mod_eq_of_lt (by omega : n < 2 ^ (n.log2 + 2))]
    have h3 : decide (2 ^ (n.log2 + 2) < 2 * n) = false := decide_eq_false (by omega)
    have h4 : decide (2 ^ d < 2 * r) = false := decide_eq_false (by omega)
    have h5 : decide (2 ^ d = 2 * r) = false := decide_eq_false (by omega)
    have h6 : (2 ^ (n.log2 + 2) == 2 * n) = false := by simp; omega
    rw [h3, h4, h5, h6]
theorem cut_scale (m d k : Nat) : Ieee.Toward.even.cut false (m * 2 ^ k) (d + k) = Ieee.Toward.even.cut false m d := by
  have hp := Nat.two_pow_pos d
  have hk := Nat.two_pow_pos k
  have hdm := Nat.div_add_mod m (2 ^ d)
  obtain ⟨q, hq⟩ : ∃ q, q = m / 2 ^ d := ⟨_, rfl⟩
  obtain ⟨r, hr⟩ : ∃ r, r = m % 2 ^ d := ⟨_, rfl⟩
  have hrl : r < 2 ^ d := by rw [hr]; exact Nat.mod_lt _ hp
  have e1 : m = q * 2 ^ d + r := by rw [hq, hr, Nat.mul_comm]; exact hdm.symm
  have e2 : m * 2 ^ k = q * 2 ^ (d + k) + r * 2 ^ k := by
    rw [Nat.pow_add, e1, Nat.add_mul, Nat.mul_assoc]
  have hrl2 : r * 2 ^ k < 2 ^ (d + k) := by rw [Nat.pow_add]; exact Nat.mul_lt_mul_of_pos_right hrl hk
  rw [cut_of e1 hrl, cut_of e2 hrl2]
  have h1 : decide (2 ^ (d + k) < 2 * (r * 2 ^ k)) = decide (2 ^ d < 2 * r) := by
    rw [Nat.pow_add, ← Nat.mul_assoc]
    exact decide_eq_decide.2 (Nat.mul_lt_mul_right hk)
  have h2 : decide (2 ^ (d + k) = 2 * (r * 2 ^ k)) = decide (2 ^ d = 2 * r) := by
    rw [Nat.pow_add, ← Nat.mul_assoc]
    exact decide_eq_decide.2 ⟨fun h => Nat.eq_of_mul_eq_mul_right hk h, fun h => by rw [h]⟩
  rw [h1, h2]
theorem cut_whole (m d : Nat) : Ieee.Toward.even.cut false (m * 2 ^ d) d = m := by
  have := cut_scale m 0 d
  rw [Nat.zero_add] at this
  rw [this, cut_zero]
theorem log2_scale {m : Nat} (hm : m ≠ 0) (k : Nat) : (m * 2 ^ k).log2 = m.log2 + k := by
  have hk := Nat.two_pow_pos k
  rw [Nat.log2_eq_iff (Nat.mul_ne_zero hm (by omega))]
  have h1 := Nat.log2_self_le hm
  have h2 : m < 2 ^ (m.log2 + 1) := Nat.lt_log2_self
  refine ⟨?_, ?_⟩
  · rw [Nat.pow_add]; exact Nat.mul_le_mul_right _ h1
  · rw [show m.log2 + k + 1 = (m.log2 + 1) + k by omega, Nat.pow_add]; exact Nat.mul_lt_mul_of_pos_right h2 hk
/-- The rung is that of the number's value. -/
theorem rung_scale (m : Nat) (e : Int) (k : Nat) : rungN (m * 2 ^ k) (e - k) = rungN m e := by
  have hk := Nat.two_pow_pos k
  unfold rungN
  by_cases hm : m = 0
  · subst hm; simp
  rw [if_neg hm, if_neg (Nat.mul_ne_zero hm (by omega)), log2_scale hm]
  have ep : e - (k : Int) + ((m.log2 + k : Nat) : Int) - 23 = e + (m.log2 : Int) - 23 := by omega
  rw [ep]
  obtain ⟨p, hp⟩ : ∃ p, p = max (e + (m.log2 : Int) - 23) (-149) := ⟨_, rfl⟩
  rw [← hp]
  clear hp ep
  have : Ieee.Toward.even.cut false ((m * 2 ^ k) <<< (e - k - p).toNat) (p - (e - k)).toNat = Ieee.Toward.even.cut false (m <<< (e - p).toNat) (p - e).toNat := by
    by_cases h1 : p ≤ e
    · obtain ⟨a, rfl⟩ : ∃ a : Nat, e = p + a := ⟨(e - p).toNat, by omega⟩
      have e1 : (p + (a : Int) - p).toNat = a := by omega
      have e2 : (p - (p + (a : Int))).toNat = 0 := by omega
      rw [e1, e2, cut_zero]
      by_cases h2 : k ≤ a
      · obtain ⟨b, rfl⟩ : ∃ b : Nat, a = b + k := ⟨a - k, by omega⟩
        have e3 : (p + ((b + k : Nat) : Int) - k - p).toNat = b := by omega
        have e4 : (p - (p + ((b + k : Nat) : Int) - k)).toNat = 0 := by omega
        rw [e3, e4, cut_zero, Nat.shiftLeft_eq, Nat.shiftLeft_eq, Nat.mul_assoc, ← Nat.pow_add, Nat.add_comm k b]
      · obtain ⟨b, rfl⟩ : ∃ b : Nat, k = a + b := ⟨k - a, by omega⟩
        have e3 : (p + (a : Int) - ((a + b : Nat) : Int) - p).toNat = 0 := by omega
        have e4 : (p - (p + (a : Int) - ((a + b : Nat) : Int))).toNat = b := by omega
        rw [e3, e4, Nat.shiftLeft_eq, Nat.shiftLeft_eq, Nat.pow_zero, Nat.mul_one, Nat.pow_add, ← Nat.mul_assoc, cut_whole]
    · obtain ⟨a, rfl⟩ : ∃ a : Nat, p = e + a := ⟨(p - e).toNat, by omega⟩
      have e1 : (e - (e + (a : Int))).toNat = 0 := by omega
      have e2 : (e + (a : Int) - e).toNat = a := by omega
      have e3 : (e - (k : Int) - (e + (a : Int))).toNat = 0 := by omega
      have e4 : (e + (a : Int) - (e - (k : Int))).toNat = a + k := by omega
      rw [e1, e2, e3, e4, Nat.shiftLeft_zero, Nat.shiftLeft_zero, cut_scale]
  rw [this]
theorem read_halfW : FloatKind.f32.format.read 1056964608 = .number false 8388608 (-24) := by decide +kernel
theorem read_twoW : FloatKind.f32.format.read 1073741824 = .number false 8388608 (-22) := by decide +kernel
theorem read_lt24 (b : Nat) : ∀ s m e, Ieee.single.read b = .number s m e → m < 2 ^ 24 := by
  intro s m e h
  have hbin : Ieee.single.binade = 8388608 := rfl
  unfold Ieee.Format.read at h
  rw [hbin] at h
  dsimp only at h
  split at h
  · cases h; omega
  · split at h
    · injection h with _ h2 _
      rw [← h2]
      have := Nat.mod_lt (b % Ieee.single.signWeight) (show 8388608 > 0 by omega)
      omega
    · split at h <;> cases h
theorem write_num (s : Bool) (m : Nat) (e : Int) : FloatKind.f32.format.write (.number s m e) = Ieee.single.word s (rungN m e) := nearest_word s m e
/-- Half. -/
theorem half_eq (x : Nat) : fbin .mul .f32 1056964608 x = fbin .quo .f32 x 1073741824 := by
  show ((Ieee.Datum.product (FloatKind.f32.format.read 1056964608) (FloatKind.f32.format.read x)).map FloatKind.f32.format.write).getD _ = ((Ieee.Datum.quotient 25 (FloatKind.f32.format.read x) (FloatKind.f32.format.read 1073741824)).map FloatKind.f32.format.write).getD _
  rw [read_halfW, read_twoW]
  have h24 := read_lt24 x
  cases hr : FloatKind.f32.format.read x with
  | nan s t => rfl
  | infinity s => cases s <;> rfl
  | number s m e =>
    have hm := h24 s m e hr
    clear h24 hr
    show FloatKind.f32.format.write (.number (false ^^ s) (8388608 * m) (-24 + e)) = FloatKind.f32.format.write (.number (s ^^ false) (2 * ((m <<< (25 + Nat.log2 8388608 - m.log2)) / 8388608) + ((m <<< (25 + Nat.log2 8388608 - m.log2)) % 8388608 != 0).toNat) (e - -22 - ((25 + Nat.log2 8388608 - m.log2 : Nat) : Int) - 1))
    have hl : Nat.log2 8388608 = 23 := by decide +kernel
    rw [hl]
    have hml : m.log2 < 24 := by
      by_cases h0 : m = 0
      · subst h0; decide
      · exact (Nat.log2_lt h0).2 hm
    obtain ⟨a, ha⟩ : ∃ a, 25 + 23 - m.log2 = a + 23 := ⟨25 - m.log2, by omega⟩
    rw [ha]
    have e1 : m <<< (a + 23) = (m * 2 ^ a) * 8388608 := by
      rw [Nat.shiftLeft_eq, Nat.pow_add, ← Nat.mul_assoc]
    rw [e1, Nat.mul_div_cancel _ (by omega), Nat.mul_mod_left]
    have e2 : 2 * (m * 2 ^ a) + ((0 : Nat) != 0).toNat = m * 2 ^ (a + 1) := by
      rw [Nat.pow_succ, ← Nat.mul_assoc, show ((0 : Nat) != 0).toNat = 0 from rfl, Nat.add_zero, Nat.mul_comm 2, Nat.mul_assoc, Nat.mul_comm 2]
    have e3 : e - -22 - ((a + 23 : Nat) : Int) - 1 = (e - 1) - ((a + 1 : Nat) : Int) := by omega
    have e4 : 8388608 * m = m * 2 ^ 23 := Nat.mul_comm _ _
    have e5 : -24 + e = (e - 1) - ((23 : Nat) : Int) := by omega
    rw [e2, e3, e4, e5, write_num, write_num, rung_scale, rung_scale]
    cases s <;> rfl
end Go.Proofs.Ytogmcinaoemnpaa
