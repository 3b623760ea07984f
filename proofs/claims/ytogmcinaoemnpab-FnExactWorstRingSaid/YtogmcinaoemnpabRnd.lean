
/- How great a word is that is nearest to a number: bounds by powers of two, in rational numbers. -/
import Derived.Test.YtogmcinaoemnpabFlWiden
namespace Go.Proofs.Ytogmcinaoemnpab
open Go Go.RowKit

def two (e : Int) : Rat := (2 : Rat) ^ e
theorem two_pos (e : Int) : 0 < two e := Rat.zpow_pos (by decide)
theorem two_add (a b : Int) : two (a + b) = two a * two b := Rat.zpow_add (by decide) a b
theorem two_nat (n : Nat) : two (n : Int) = ((2 ^ n : Nat) : Rat) := by
  unfold two; rw [Rat.zpow_natCast]; norm_cast
theorem two_zero : two 0 = 1 := by decide +kernel
theorem two_one_le (n : Nat) : 1 ≤ two (n : Int) := by
  rw [two_nat]
  have : 1 ≤ 2 ^ n := Nat.one_le_two_pow
  exact_mod_cast this
theorem two_mono {a b : Int} (h : a ≤ b) : two a ≤ two b := by
  obtain ⟨n, rfl⟩ : ∃ n : Nat, b = a + n := ⟨(b - a).toNat, by omega⟩
  rw [two_add]
  have h1 := two_one_le n
  have h2 := two_pos a
  have := Rat.mul_le_mul_of_nonneg_left h1 (Rat.le_of_lt h2)
  grind
theorem two_lt {a b : Int} (h : a < b) : two a < two b := by
  have h1 : two (a + 1) ≤ two b := two_mono (by omega)
  have h2 : two (a + 1) = two a * 2 := by rw [two_add]; congr 1
  have := two_pos a
  grind
theorem two_le_iff {a b : Int} (h : two a ≤ two b) : a ≤ b := by
  by_cases hc : a ≤ b
  · exact hc
  · have := two_lt (show b < a by omega)
    grind
theorem two_le_mul {m : Nat} (hm : m ≠ 0) : two (m.log2 : Int) ≤ (m : Rat) := by
  rw [two_nat]
  have := Nat.log2_self_le hm
  exact_mod_cast this
theorem mul_lt_two (m : Nat) : (m : Rat) < two ((m.log2 : Int) + 1) := by
  have : ((m.log2 : Int) + 1) = ((m.log2 + 1 : Nat) : Int) := by omega
  rw [this, two_nat]
  have : m < 2 ^ (m.log2 + 1) := Nat.lt_log2_self
  exact_mod_cast this

theorem cut_gap (n d : Nat) : ∃ q r : Nat, ∀ neg, Ieee.Toward.even.cut neg n d = q + (decide (2 ^ d < 2 * r) || (decide (2 ^ d = 2 * r) && q % 2 == 1)).toNat ∧ n = q * 2 ^ d + r ∧ r < 2 ^ d := by
  by_cases h : d ≤ n.log2 + 2
  · have hg : 1 <<< min d (n.log2 + 2) = 2 ^ d := by rw [Nat.min_eq_left h, Nat.shiftLeft_eq, Nat.one_mul]
    refine ⟨n / 2 ^ d, n % 2 ^ d, fun neg => ⟨?_, ?_, Nat.mod_lt _ (Nat.two_pow_pos d)⟩⟩
    · unfold Ieee.Toward.cut
      rw [hg]
      rfl
    · have := Nat.div_add_mod n (2 ^ d); rw [Nat.mul_comm] at this; omega
  · have hg : 1 <<< min d (n.log2 + 2) = 2 ^ (n.log2 + 2) := by rw [Nat.min_eq_right (by omega), Nat.shiftLeft_eq, Nat.one_mul]
    have hlt : n < 2 ^ (n.log2 + 1) := Nat.lt_log2_self
    have hs : 2 ^ (n.log2 + 2) = 2 * 2 ^ (n.log2 + 1) := by rw [Nat.pow_succ 2 (n.log2 + 1)]; omega
    have hd : 2 ^ (n.log2 + 3) ≤ 2 ^ d := Nat.pow_le_pow_right (by omega) (by omega)
    have hs3 : 2 ^ (n.log2 + 3) = 2 * 2 ^ (n.log2 + 2) := by rw [Nat.pow_succ 2 (n.log2 + 2)]; omega
    refine ⟨0, n, fun neg => ⟨?_, by omega, by omega⟩⟩
    unfold Ieee.Toward.cut
    rw [hg]
    have h1 : n / 2 ^ (n.log2 + 2) = 0 := Nat.div_eq_of_lt (by omega)
    have h2 : n % 2 ^ (n.log2 + 2) = n := Nat.mod_eq_of_lt (by omega)
    dsimp only
    rw [h1, h2]
    have h3 : ¬ 2 ^ (n.log2 + 2) < 2 * n := by omega
    have h4 : ¬ 2 ^ d < 2 * n := by omega
    have h5 : ¬ 2 ^ d = 2 * n := by omega
    simp [h3, h4, h5]
theorem cut_le {neg : Bool} {n d N : Nat} (h : n ≤ N * 2 ^ d) : Ieee.Toward.even.cut neg n d ≤ N := by
  obtain ⟨q, r, hq⟩ := cut_gap n d
  obtain ⟨e, hn, hr⟩ := hq neg
  rw [e]
  have hp := Nat.two_pow_pos d
  have hqN : q ≤ N := by
    by_cases hc : q ≤ N
    · exact hc
    · have := Nat.mul_le_mul_right (2 ^ d) (show N + 1 ≤ q by omega)
      rw [Nat.add_mul] at this
      omega
  by_cases hq' : q = N
  · subst hq'
    have : r = 0 := by omega
    subst this
    have h1 : ¬ 2 ^ d < 2 * 0 := by omega
    simp [h1]
  · have : (decide (2 ^ d < 2 * r) || (decide (2 ^ d = 2 * r) && q % 2 == 1)).toNat ≤ 1 := Bool.toNat_le _
    omega
theorem cut_ge {neg : Bool} {n d N : Nat} (h : N * 2 ^ d ≤ n) : N ≤ Ieee.Toward.even.cut neg n d := by
  obtain ⟨q, r, hq⟩ := cut_gap n d
  obtain ⟨e, hn, hr⟩ := hq neg
  rw [e]
  have hp := Nat.two_pow_pos d
  have : N ≤ q := by
    by_cases hc : N ≤ q
    · exact hc
    · have := Nat.mul_le_mul_right (2 ^ d) (show q + 1 ≤ N by omega)
      rw [Nat.add_mul] at this
      omega
  omega
/-- What the word of a rung reads as. -/
theorem read_rung (f : Ieee.Format) (neg : Bool) (L K : Nat) (h1 : K ≤ 2 * f.binade) (h2 : f.binade ≤ K ∨ L = 0) (h3 : L * f.binade + K < f.infRung) :
    ∃ (m : Nat) (e : Int), f.read (f.word neg (L * f.binade + K)) = .number neg m e ∧ (m : Rat) * two e = K * two (f.leastPlace + L) := by
  have hb : 0 < f.binade := Nat.two_pow_pos _
  have hlt : L * f.binade + K < f.signWeight := Nat.lt_trans h3 f.infRung_lt
  have hm : f.word neg (L * f.binade + K) % f.signWeight = L * f.binade + K := by
    unfold Ieee.Format.word
    cases neg
    · simp [Nat.mod_eq_of_lt hlt]
    · simp [Nat.add_mod_left, Nat.mod_eq_of_lt hlt]
  have hs : (f.word neg (L * f.binade + K) / f.signWeight % 2 == 1) = neg := by
    have hp : 0 < f.signWeight := Nat.two_pow_pos _
    unfold Ieee.Format.word
    cases neg
    · simp [Nat.div_eq_of_lt hlt]
    · simp [Nat.add_div_left _ hp, Nat.div_eq_of_lt hlt]
  unfold Ieee.Format.read
  dsimp only
  rw [hm, hs]
  by_cases c1 : L * f.binade + K < f.binade
  · rw [if_pos c1]
    have hL : L = 0 := by
      rcases h2 with h | h
      · omega
      · exact h
    subst hL
    exact ⟨_, _, rfl, by simp⟩
  · rw [if_neg c1, if_pos h3]
    by_cases c2 : K < f.binade
    · have hL : L = 0 := by
        rcases h2 with h | h
        · omega
        · exact h
      subst hL
      omega
    · by_cases c3 : K = 2 * f.binade
      · have hr : L * f.binade + K = (L + 2) * f.binade := by rw [c3, Nat.add_mul]
        rw [hr, Nat.mul_div_cancel _ hb, Nat.mul_mod_left]
        refine ⟨_, _, rfl, ?_⟩
        have : (f.leastPlace + ((L + 2 - 1 : Nat) : Int)) = f.leastPlace + L + 1 := by omega
        rw [this, two_add _ 1, c3]
        have h2 : two 1 = 2 := by decide +kernel
        rw [h2]
        have : ((f.binade + 0 : Nat) : Rat) = (f.binade : Rat) := rfl
        rw [this]
        have : ((2 * f.binade : Nat) : Rat) = 2 * (f.binade : Rat) := by norm_cast
        rw [this]
        grind
      · have hd : (L * f.binade + K) / f.binade = L + 1 := by
          rw [Nat.add_comm, Nat.add_mul_div_right _ _ hb]
          have : K / f.binade = 1 := by
            rw [Nat.div_eq_iff hb]; omega
          omega
        have hmm : (L * f.binade + K) % f.binade = K - f.binade := by
          rw [Nat.add_comm, Nat.add_mul_mod_self_right, Nat.mod_eq_sub_mod (by omega), Nat.mod_eq_of_lt (by omega)]
        rw [hd, hmm]
        refine ⟨_, _, rfl, ?_⟩
        have e1 : f.binade + (K - f.binade) = K := by omega
        have e2 : (f.leastPlace + ((L + 1 - 1 : Nat) : Int)) = f.leastPlace + L := by omega
        rw [e1, e2]
/-- The word nearest to a number that is no greater than a power of two stands for one that is no greater. -/
theorem nearest_both (f : Ieee.Format) (neg : Bool) (m : Nat) (e B : Int) (hm : m ≠ 0) (hv : (m : Rat) * two e ≤ two B) (hlo : f.leastPlace ≤ B)
    (hhi : B - f.leastPlace - f.fractionBits + 2 < ((2 ^ f.exponentBits - 1 : Nat) : Int)) (h3 : 3 ≤ 2 ^ f.exponentBits - 1) :
    ∃ (m' : Nat) (e' : Int), f.read (f.nearest neg m e) = .number neg m' e' ∧ (m' : Rat) * two e' ≤ two B ∧ (∀ C, f.leastPlace ≤ C → two C ≤ (m : Rat) * two e → two C ≤ (m' : Rat) * two e') ∧
      (∀ (N : Nat) (E : Int), f.leastPlace ≤ E → N < 2 ^ (f.fractionBits + 1) → (m : Rat) * two e ≤ (N : Rat) * two E → (m' : Rat) * two e' ≤ (N : Rat) * two E) := by
  have hb1 : e + m.log2 ≤ B := by
    apply two_le_iff
    rw [two_add, Rat.mul_comm]
    have := Rat.mul_le_mul_of_nonneg_right (two_le_mul hm) (Rat.le_of_lt (two_pos e))
    grind
  unfold Ieee.Format.nearest
  rw [if_neg hm]
  dsimp only
  obtain ⟨last, hlast⟩ : ∃ last, last = max (e + (m.log2 : Int) - f.fractionBits) f.leastPlace := ⟨_, rfl⟩
  rw [← hlast]
  obtain ⟨a, ha⟩ : ∃ a, a = (e - last).toNat := ⟨_, rfl⟩
  obtain ⟨d, hd⟩ : ∃ d, d = (last - e).toNat := ⟨_, rfl⟩
  obtain ⟨L, hL⟩ : ∃ L, L = (last - f.leastPlace).toNat := ⟨_, rfl⟩
  rw [← ha, ← hd, ← hL]
  have hlB : last ≤ B := by omega
  have hn : m <<< a = m * 2 ^ a := Nat.shiftLeft_eq _ _
  have hbin : f.binade = 2 ^ f.fractionBits := rfl
  have hK1 : Ieee.Toward.even.cut neg (m <<< a) d ≤ 2 * f.binade := by
    apply cut_le
    rw [hn, hbin]
    have h1 : m < 2 ^ (m.log2 + 1) := Nat.lt_log2_self
    have h2 : 2 ^ (m.log2 + 1) * 2 ^ a ≤ 2 * 2 ^ f.fractionBits * 2 ^ d := by
      rw [← Nat.pow_add, Nat.mul_comm 2, ← Nat.pow_succ, ← Nat.pow_add]
      exact Nat.pow_le_pow_right (by omega) (by omega)
    have h4 := Nat.mul_le_mul_right (2 ^ a) (Nat.le_of_lt h1)
    omega
  have hK2 : f.binade ≤ Ieee.Toward.even.cut neg (m <<< a) d ∨ L = 0 := by
    by_cases hc : last = f.leastPlace
    · right; omega
    · left
      apply cut_ge
      rw [hn, hbin, ← Nat.pow_add]
      have e1 : f.fractionBits + d = m.log2 + a := by omega
      rw [e1, Nat.pow_add]
      exact Nat.mul_le_mul_right _ (Nat.log2_self_le hm)
  have hK3 : Ieee.Toward.even.cut neg (m <<< a) d ≤ 2 ^ (B - last).toNat := by
    apply cut_le
    have e1 : two last * two (a : Int) = two e * two (d : Int) := by rw [← two_add, ← two_add]; congr 1; omega
    have e2 : two B = two ((B - last).toNat : Int) * two last := by rw [← two_add]; congr 1; omega
    have e3 : ((m <<< a : Nat) : Rat) = (m : Rat) * two (a : Int) := by rw [hn, two_nat]; norm_cast
    have e4 : ((2 ^ (B - last).toNat * 2 ^ d : Nat) : Rat) = two ((B - last).toNat : Int) * two (d : Int) := by rw [two_nat, two_nat]; norm_cast
    have key : ((m <<< a : Nat) : Rat) * two last ≤ ((2 ^ (B - last).toNat * 2 ^ d : Nat) : Rat) * two last := by
      rw [e3, e4]
      have h1 := Rat.mul_le_mul_of_nonneg_right hv (Rat.le_of_lt (two_pos (d : Int)))
      have h2 : (m : Rat) * two (a : Int) * two last = (m : Rat) * two e * two (d : Int) := by
        rw [Rat.mul_assoc, Rat.mul_comm (two (a : Int)), e1, Rat.mul_assoc]
      have h3 : two ((B - last).toNat : Int) * two (d : Int) * two last = two B * two (d : Int) := by
        rw [e2, Rat.mul_assoc, Rat.mul_comm (two (d : Int)), Rat.mul_assoc]
      rw [h2, h3]
      exact h1
    have := Rat.le_of_mul_le_mul_right key (two_pos last)
    exact_mod_cast this
  have hK4 : ∀ C, last ≤ C → two C ≤ (m : Rat) * two e → 2 ^ (C - last).toNat ≤ Ieee.Toward.even.cut neg (m <<< a) d := by
    intro C hC hCv
    apply cut_ge
    have e1 : two last * two (a : Int) = two e * two (d : Int) := by rw [← two_add, ← two_add]; congr 1; omega
    have e2 : two C = two ((C - last).toNat : Int) * two last := by rw [← two_add]; congr 1; omega
    have e3 : ((m <<< a : Nat) : Rat) = (m : Rat) * two (a : Int) := by rw [hn, two_nat]; norm_cast
    have e4 : ((2 ^ (C - last).toNat * 2 ^ d : Nat) : Rat) = two ((C - last).toNat : Int) * two (d : Int) := by rw [two_nat, two_nat]; norm_cast
    have key : ((2 ^ (C - last).toNat * 2 ^ d : Nat) : Rat) * two last ≤ ((m <<< a : Nat) : Rat) * two last := by
      rw [e3, e4]
      have h1 := Rat.mul_le_mul_of_nonneg_right hCv (Rat.le_of_lt (two_pos (d : Int)))
      have h2 : (m : Rat) * two (a : Int) * two last = (m : Rat) * two e * two (d : Int) := by
        rw [Rat.mul_assoc, Rat.mul_comm (two (a : Int)), e1, Rat.mul_assoc]
      have h3 : two ((C - last).toNat : Int) * two (d : Int) * two last = two C * two (d : Int) := by
        rw [e2, Rat.mul_assoc, Rat.mul_comm (two (d : Int)), Rat.mul_assoc]
      rw [h2, h3]
      exact h1
    have := Rat.le_of_mul_le_mul_right key (two_pos last)
    exact_mod_cast this
  have hK5 : ∀ (N : Nat) (E : Int), last ≤ E → (m : Rat) * two e ≤ (N : Rat) * two E → Ieee.Toward.even.cut neg (m <<< a) d ≤ N * 2 ^ (E - last).toNat := by
    intro N E hE hv'
    apply cut_le
    have e1 : two last * two (a : Int) = two e * two (d : Int) := by rw [← two_add, ← two_add]; congr 1; omega
    have e2 : two E = two ((E - last).toNat : Int) * two last := by rw [← two_add]; congr 1; omega
    have e3 : ((m <<< a : Nat) : Rat) = (m : Rat) * two (a : Int) := by rw [hn, two_nat]; norm_cast
    have e4 : ((N * 2 ^ (E - last).toNat * 2 ^ d : Nat) : Rat) = (N : Rat) * two ((E - last).toNat : Int) * two (d : Int) := by rw [two_nat, two_nat]; norm_cast
    have key : ((m <<< a : Nat) : Rat) * two last ≤ ((N * 2 ^ (E - last).toNat * 2 ^ d : Nat) : Rat) * two last := by
      rw [e3, e4]
      have h1 := Rat.mul_le_mul_of_nonneg_right hv' (Rat.le_of_lt (two_pos (d : Int)))
      have h2 : (m : Rat) * two (a : Int) * two last = (m : Rat) * two e * two (d : Int) := by
        rw [Rat.mul_assoc, Rat.mul_comm (two (a : Int)), e1, Rat.mul_assoc]
      have h3 : (N : Rat) * two ((E - last).toNat : Int) * two (d : Int) * two last = (N : Rat) * two E * two (d : Int) := by
        rw [e2]
        generalize two ((E - last).toNat : Int) = p
        generalize two (d : Int) = q
        generalize two last = r
        grind
      rw [h2, h3]
      exact h1
    have := Rat.le_of_mul_le_mul_right key (two_pos last)
    exact_mod_cast this
  have hlastE : ∀ (N : Nat) (E : Int), f.leastPlace ≤ E → N < 2 ^ (f.fractionBits + 1) → (m : Rat) * two e ≤ (N : Rat) * two E → last ≤ E := by
    intro N E hE hN hv'
    have h1 : two (e + m.log2) ≤ (m : Rat) * two e := by
      rw [Int.add_comm, two_add]
      exact Rat.mul_le_mul_of_nonneg_right (two_le_mul hm) (Rat.le_of_lt (two_pos e))
    have h2 : (N : Rat) * two E < two ((f.fractionBits : Int) + 1 + E) := by
      rw [two_add]
      have e5 : ((f.fractionBits : Int) + 1) = ((f.fractionBits + 1 : Nat) : Int) := by omega
      rw [e5, two_nat]
      exact Rat.mul_lt_mul_of_pos_right (by exact_mod_cast hN) (two_pos E)
    have h4 : e + (m.log2 : Int) < (f.fractionBits : Int) + 1 + E := by
      by_cases hc : e + (m.log2 : Int) < (f.fractionBits : Int) + 1 + E
      · exact hc
      · have := two_mono (show (f.fractionBits : Int) + 1 + E ≤ e + m.log2 by omega)
        grind
    omega
  generalize Ieee.Toward.even.cut neg (m <<< a) d = K at *
  have hval : (K : Rat) * two last ≤ two B := by
    have e2 : two B = two ((B - last).toNat : Int) * two last := by rw [← two_add]; congr 1; omega
    rw [e2, two_nat]
    have : (K : Rat) ≤ ((2 ^ (B - last).toNat : Nat) : Rat) := by exact_mod_cast hK3
    exact Rat.mul_le_mul_of_nonneg_right this (Rat.le_of_lt (two_pos last))
  have hlL : f.leastPlace + L = last := by omega
  have hrung : L * f.binade + K < f.infRung := by
    have hL' : (L + 2) ≤ 2 ^ f.exponentBits - 2 := by
      rcases hK2 with h | h
      · have h5 : (f.fractionBits : Int) + last ≤ B := by
          apply two_le_iff
          rw [two_add, two_nat]
          have : ((2 ^ f.fractionBits : Nat) : Rat) ≤ (K : Rat) := by rw [← hbin]; exact_mod_cast h
          have := Rat.mul_le_mul_of_nonneg_right this (Rat.le_of_lt (two_pos last))
          grind
        omega
      · omega
    have h6 : (L + 2) * f.binade ≤ (2 ^ f.exponentBits - 2) * f.binade := Nat.mul_le_mul_right _ hL'
    have h7 : (2 ^ f.exponentBits - 1) * f.binade = (2 ^ f.exponentBits - 2) * f.binade + f.binade := by
      have : 2 ^ f.exponentBits - 1 = (2 ^ f.exponentBits - 2) + 1 := by omega
      rw [this, Nat.add_mul, Nat.one_mul]
    have h8 : 0 < f.binade := Nat.two_pow_pos _
    have h9 : f.infRung = (2 ^ f.exponentBits - 1) * f.binade := rfl
    rw [Nat.add_mul] at h6
    omega
  rw [Nat.min_eq_left (Nat.le_of_lt hrung)]
  obtain ⟨m', e', hr, hv'⟩ := read_rung f neg L K hK1 hK2 hrung
  refine ⟨m', e', hr, by rw [hv', hlL]; exact hval, fun C hC hCv => ?_, fun N E hE hN hNv => ?_⟩
  case refine_2 =>
    rw [hv', hlL]
    have h1 := hlastE N E hE hN hNv
    have h2 := hK5 N E h1 hNv
    have e2 : two E = two ((E - last).toNat : Int) * two last := by rw [← two_add]; congr 1; omega
    have h4 : (K : Rat) ≤ (N : Rat) * two ((E - last).toNat : Int) := by rw [two_nat]; exact_mod_cast h2
    have h5 := Rat.mul_le_mul_of_nonneg_right h4 (Rat.le_of_lt (two_pos last))
    rw [e2, ← Rat.mul_assoc]
    exact h5
  rw [hv', hlL]
  by_cases hc : last ≤ C
  · have e2 : two C = two ((C - last).toNat : Int) * two last := by rw [← two_add]; congr 1; omega
    rw [e2, two_nat]
    have : ((2 ^ (C - last).toNat : Nat) : Rat) ≤ (K : Rat) := by exact_mod_cast hK4 C hc hCv
    exact Rat.mul_le_mul_of_nonneg_right this (Rat.le_of_lt (two_pos last))
  · have hb1 : 1 ≤ K := by
      rcases hK2 with h | h
      · have : 0 < f.binade := Nat.two_pow_pos _
        omega
      · omega
    have h1 : (1 : Rat) ≤ (K : Rat) := by exact_mod_cast hb1
    have h2 := Rat.mul_le_mul_of_nonneg_right h1 (Rat.le_of_lt (two_pos last))
    have h3 := two_lt (show C < last by omega)
    rw [Rat.one_mul] at h2
    exact Rat.le_trans (Rat.le_of_lt h3) h2
theorem nearest_le (f : Ieee.Format) (neg : Bool) (m : Nat) (e B : Int) (hm : m ≠ 0) (hv : (m : Rat) * two e ≤ two B) (hlo : f.leastPlace ≤ B)
    (hhi : B - f.leastPlace - f.fractionBits + 2 < ((2 ^ f.exponentBits - 1 : Nat) : Int)) (h3 : 3 ≤ 2 ^ f.exponentBits - 1) :
    ∃ (m' : Nat) (e' : Int), f.read (f.nearest neg m e) = .number neg m' e' ∧ (m' : Rat) * two e' ≤ two B := by
  obtain ⟨m', e', h1, h2, _⟩ := nearest_both f neg m e B hm hv hlo hhi h3
  exact ⟨m', e', h1, h2⟩
end Go.Proofs.Ytogmcinaoemnpab
