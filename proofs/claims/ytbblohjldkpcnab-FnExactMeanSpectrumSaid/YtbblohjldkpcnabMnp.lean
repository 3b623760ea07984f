/- Sums of ones times numbers, and what is divided by a small count: 32-bit numbers. -/
import Derived.Test.YtbblohjldkpcnabHwP
import Derived.Test.YtbblohjldkpcnabNf
import Derived.Test.YtbblohjldkpcnabOrW
import Derived.Test.YtbblohjldkpcnabSpc
import Derived.Test.YtbblohjldkpcnabSq5
namespace Go.Proofs.Ytbblohjldkpcnab
open Go Go.RowKit

set_option maxRecDepth 100000 in
theorem read_mod (x : Nat) : FloatKind.f32.format.read (x % 4294967296) = FloatKind.f32.format.read x := by
  have e1 : FloatKind.f32.format.signWeight = 2147483648 := by decide +kernel
  have h1 : x % 4294967296 / 2147483648 % 2 = x / 2147483648 % 2 := by omega
  have h2 : x % 4294967296 % 2147483648 = x % 2147483648 := by omega
  simp only [Ieee.Format.read, e1, h1, h2]
theorem fin_mod {x : Nat} (h : isFin .f32 x = true) : isFin .f32 (x % 4294967296) = true := by
  unfold isFin FloatKind.decode at h ⊢
  rw [read_mod]
  exact h
/-- A finite number's parts. -/
theorem fin_parts {x : Nat} (h : isFin .f32 x = true) : ∃ s m i, FloatKind.f32.format.read x = .number s m i ∧ m < 16777216 ∧ i ≤ 104 ∧ rungN m i < 2139095040 := by
  obtain ⟨s, r, hr, hx⟩ := fin_word (Nat.mod_lt x (by decide : 0 < 4294967296)) (fin_mod h)
  obtain ⟨m, i, h1, h2⟩ := rung_read s r hr
  have h3 := read_wordS s r (by omega)
  have h3' : FloatKind.f32.format.read (Ieee.single.word s r) = _ := h3
  rw [h1] at h3'
  refine ⟨s, m, i, by rw [← read_mod, hx]; exact h1, ?_, ?_, by rw [h2]; exact hr⟩
  · by_cases c1 : r < 8388608
    · rw [if_pos c1] at h3'
      injection h3' with _ a b
      omega
    · rw [if_neg c1, if_pos hr] at h3'
      injection h3' with _ a b
      have := Nat.mod_lt r (by decide : 0 < 8388608)
      omega
  · by_cases c1 : r < 8388608
    · rw [if_pos c1] at h3'
      injection h3' with _ a b
      omega
    · rw [if_neg c1, if_pos hr] at h3'
      injection h3' with _ a b
      have : r / 8388608 ≤ 254 := by omega
      omega
theorem mul_mod (c x : Nat) : fbin .mul .f32 c (x % 4294967296) = fbin .mul .f32 c x := by
  show ((Ieee.Datum.product (FloatKind.f32.format.read c) (FloatKind.f32.format.read (x % 4294967296))).map FloatKind.f32.format.write).getD _ = ((Ieee.Datum.product (FloatKind.f32.format.read c) (FloatKind.f32.format.read x)).map FloatKind.f32.format.write).getD _
  rw [read_mod]
theorem add_mod (c x : Nat) : fbin .add .f32 c (x % 4294967296) = fbin .add .f32 c x := by
  show (((FloatKind.f32.format.read c).sum (FloatKind.f32.format.read (x % 4294967296))).map FloatKind.f32.format.write).getD _ = (((FloatKind.f32.format.read c).sum (FloatKind.f32.format.read x)).map FloatKind.f32.format.write).getD _
  rw [read_mod]
theorem fin_nan {x : Nat} (h : isFin .f32 x = true) : isNaN .f32 x = false := by
  obtain ⟨s, m, i, h1, _⟩ := fin_parts h
  simp [isNaN, FloatKind.decode, h1, Ieee.Datum.isNaN]
theorem add_one_mul {c x : Nat} (h : isFin .f32 x = true) : fbin .add .f32 c (fbin .mul .f32 1065353216 x) = fbin .add .f32 c x := by
  rw [← mul_mod, mul_one32 (Nat.mod_lt x (by decide)) (fun hn => by rw [fin_nan (fin_mod h)] at hn; cases hn), add_mod]
/-- The sum of numbers, in their order. -/
def smW (F : Nat → Nat) : Nat → Nat
  | 0 => 0
  | k + 1 => fbin .add .f32 (smW F k) (F k)
theorem smW_succ (F : Nat → Nat) (k : Nat) : fbin .add .f32 (smW F k) (F k) = smW F (k + 1) := rfl
theorem dot_ones {F : Nat → Nat} : ∀ K, (∀ k, k < K → isFin .f32 (F k) = true) → dotW (fun _ => 1065353216) F K = smW F K
  | 0, _ => rfl
  | K + 1, h => by
    show fbin .add .f32 (dotW (fun _ => 1065353216) F K) (fbin .mul .f32 1065353216 (F K)) = fbin .add .f32 (smW F K) (F K)
    rw [dot_ones K fun k hk => h k (by omega), add_one_mul (h K (by omega))]
theorem rung_low {m : Nat} {e : Int} (hm : m ≠ 0) (h : e + m.log2 ≤ 126) : rungN m e < 2139095040 := by
  unfold rungN
  rw [if_neg hm]
  obtain ⟨l, hl⟩ : ∃ l : Int, l = max (e + m.log2 - 23) (-149) := ⟨_, rfl⟩
  rw [← hl]
  have hk : Ieee.Toward.even.cut false (m <<< (e - l).toNat) (l - e).toNat ≤ 16777216 := by
    refine cut_le ?_
    rw [Nat.shiftLeft_eq]
    have g1 : m < 2 ^ (m.log2 + 1) := Nat.lt_log2_self
    have g2 : 2 ^ (m.log2 + 1) * 2 ^ (e - l).toNat ≤ 16777216 * 2 ^ (l - e).toNat := by
      rw [show (16777216 : Nat) = 2 ^ 24 by decide, ← Nat.pow_add, ← Nat.pow_add]
      exact Nat.pow_le_pow_right (by omega) (by omega)
    have g3 := Nat.mul_le_mul_right (2 ^ (e - l).toNat) (Nat.le_of_lt g1)
    omega
  have hl2 : (l - -149).toNat ≤ 252 := by omega
  have hmul : (l - -149).toNat * 8388608 ≤ 252 * 8388608 := Nat.mul_le_mul_right _ hl2
  omega
theorem cnt_read {n : Nat} (h1 : 1 ≤ n) (h8 : n ≤ 8) : ∃ b j, FloatKind.f32.format.read (floatOfInt .f32 (n : Int)) = .number false b j ∧ 8388608 ≤ b ∧ b < 16777216 ∧ (n = 1 → b = 8388608 ∧ j = -23) ∧ (2 ≤ n → -22 ≤ j) := by
  rcases (by omega : n = 1 ∨ n = 2 ∨ n = 3 ∨ n = 4 ∨ n = 5 ∨ n = 6 ∨ n = 7 ∨ n = 8) with rfl | rfl | rfl | rfl | rfl | rfl | rfl | rfl
  · exact ⟨8388608, -23, by decide +kernel, by decide, by decide, fun _ => ⟨rfl, rfl⟩, fun h => absurd h (by decide)⟩
  · exact ⟨8388608, -22, by decide +kernel, by decide, by decide, fun h => absurd h (by decide), fun _ => by decide⟩
  · exact ⟨12582912, -22, by decide +kernel, by decide, by decide, fun h => absurd h (by decide), fun _ => by decide⟩
  · exact ⟨8388608, -21, by decide +kernel, by decide, by decide, fun h => absurd h (by decide), fun _ => by decide⟩
  · exact ⟨10485760, -21, by decide +kernel, by decide, by decide, fun h => absurd h (by decide), fun _ => by decide⟩
  · exact ⟨12582912, -21, by decide +kernel, by decide, by decide, fun h => absurd h (by decide), fun _ => by decide⟩
  · exact ⟨14680064, -21, by decide +kernel, by decide, by decide, fun h => absurd h (by decide), fun _ => by decide⟩
  · exact ⟨8388608, -20, by decide +kernel, by decide, by decide, fun h => absurd h (by decide), fun _ => by decide⟩
theorem cnt_fin {n : Nat} (h1 : 1 ≤ n) (h8 : n ≤ 8) : isFin .f32 (floatOfInt .f32 (n : Int)) = true := by
  obtain ⟨b, j, h, _⟩ := cnt_read h1 h8
  unfold isFin FloatKind.decode
  rw [h]; rfl
theorem log_of {b k : Nat} (h1 : 2 ^ k ≤ b) (h2 : b < 2 ^ (k + 1)) : b.log2 = k := by
  have hb : b ≠ 0 := by have := Nat.two_pow_pos k; omega
  have a1 := (Nat.le_log2 hb).2 h1
  have a2 := (Nat.log2_lt hb).2 h2
  omega
/-- A finite number over a count of 1 to 8 is finite. -/
theorem quo_cnt {x n : Nat} (hx : isFin .f32 x = true) (h1 : 1 ≤ n) (h8 : n ≤ 8) : isFin .f32 (fbin .quo .f32 x (floatOfInt .f32 (n : Int))) = true := by
  obtain ⟨s, m, i, hr, hm, hi, hrg⟩ := fin_parts hx
  obtain ⟨b, j, hb, b1, b2, c1, c2⟩ := cnt_read h1 h8
  have hlb : b.log2 = 23 := log_of (by simpa using b1) (by simpa using b2)
  obtain ⟨more, hmore⟩ : ∃ more, more = 25 + b.log2 - m.log2 := ⟨_, rfl⟩
  have hfb : floatBits .quo .f32 x (floatOfInt .f32 (n : Int)) = some (FloatKind.f32.format.write (.number (s ^^ false) (2 * ((m <<< more) / b) + ((m <<< more) % b != 0).toNat) (i - j - more - 1))) := by
    have e1 : FloatKind.f32.format.fractionBits + 2 = 25 := rfl
    have e2 : b ≠ 0 := by omega
    simp [floatBits, Ieee.Format.div, hr, hb, Ieee.Datum.quotient, e2, e1, ← hmore]
  rw [show fbin .quo .f32 x (floatOfInt .f32 (n : Int)) = (floatBits .quo .f32 x (floatOfInt .f32 (n : Int))).getD (qnan .f32) from rfl, hfb, Option.getD_some]
  have hw : ∀ K p, FloatKind.f32.format.write (.number (s ^^ false) K p) = Ieee.single.word (s ^^ false) (rungN K p) := fun K p => nearest_word _ K p
  rw [hw]
  refine word_fin _ _ ?_
  by_cases hm0 : m = 0
  · subst hm0
    have e : (0 : Nat) <<< more = 0 := by simp
    rw [e]
    simp [rungN]
  · have hlm : m.log2 ≤ 23 := by
      have := (Nat.log2_lt hm0).2 (show m < 2 ^ 24 by simpa using hm)
      omega
    have g1 : m < 2 ^ (m.log2 + 1) := Nat.lt_log2_self
    have g2 : 2 ^ m.log2 ≤ m := Nat.log2_self_le hm0
    have hmo : m.log2 + more = 48 := by omega
    by_cases hn : n = 1
    · obtain ⟨rfl, rfl⟩ := c1 hn
      have hk : m <<< more = m * 2 ^ (more - 23) * 8388608 := by
        rw [Nat.shiftLeft_eq, show (8388608 : Nat) = 2 ^ 23 by decide, Nat.mul_assoc, ← Nat.pow_add, show more - 23 + 23 = more by omega]
      rw [hk, Nat.mul_div_cancel _ (by decide), Nat.mul_mod_left]
      have e1 : 2 * (m * 2 ^ (more - 23)) + ((0 : Nat) != 0).toNat = m * 2 ^ (more - 22) := by
        rw [show more - 22 = (more - 23) + 1 by omega, Nat.pow_succ]
        show 2 * (m * 2 ^ (more - 23)) + 0 = m * (2 ^ (more - 23) * 2)
        rw [Nat.add_zero, Nat.mul_comm 2, Nat.mul_assoc]
      rw [e1, show i - -23 - (more : Int) - 1 = i - ((more - 22 : Nat) : Int) by omega, rung_scale]
      exact hrg
    · have hj := c2 (by omega)
      have hs : m <<< more < 2 ^ 26 * b := by
        rw [Nat.shiftLeft_eq]
        have g3 := Nat.mul_lt_mul_of_lt_of_le g1 (Nat.le_refl (2 ^ more)) (Nat.two_pow_pos more)
        rw [← Nat.pow_add, show m.log2 + 1 + more = 49 by omega] at g3
        have g4 : 2 ^ 26 * 8388608 ≤ 2 ^ 26 * b := Nat.mul_le_mul_left _ b1
        have g5 : (2 : Nat) ^ 49 = 2 ^ 26 * 8388608 := by decide
        omega
      have hq : (m <<< more) / b < 2 ^ 26 := (Nat.div_lt_iff_lt_mul (by omega)).2 hs
      have hq1 : 1 ≤ (m <<< more) / b := by
        rw [Nat.le_div_iff_mul_le (by omega), Nat.one_mul, Nat.shiftLeft_eq]
        have g3 := Nat.mul_le_mul_right (2 ^ more) g2
        rw [← Nat.pow_add, hmo] at g3
        have : (16777216 : Nat) ≤ 2 ^ 48 := by decide
        omega
      have hbool := Bool.toNat_le ((m <<< more) % b != 0)
      have hK0 : 2 * ((m <<< more) / b) + ((m <<< more) % b != 0).toNat ≠ 0 := by omega
      have hK : (2 * ((m <<< more) / b) + ((m <<< more) % b != 0).toNat).log2 < 27 := (Nat.log2_lt hK0).2 (by have : (2 : Nat) ^ 27 = 2 * 2 ^ 26 := by decide
                                                                                                              omega)
      exact rung_low hK0 (by omega)
theorem finL_quo {S : Nat → Nat} {n L : Nat} (h1 : 1 ≤ n) (h8 : n ≤ 8) : finL (fun j => fbin .quo .f32 (S j) (floatOfInt .f32 (n : Int))) L = finL S L := by
  cases h : finL S L
  · cases h2 : finL (fun j => fbin .quo .f32 (S j) (floatOfInt .f32 (n : Int))) L
    · rfl
    · have := finL_yes (X := S) (n := L) fun k hk => by
        cases hs : isFin .f32 (S k)
        · have h3 := finL_at h2 k hk
          rw [nf_quo_l hs (cnt_fin h1 h8)] at h3
          cases h3
        · rfl
      rw [this] at h; cases h
  · exact finL_yes fun k hk => quo_cnt (finL_at h k hk) h1 h8
end Go.Proofs.Ytbblohjldkpcnab
