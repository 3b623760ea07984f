
/- Bounds by powers of two of what the operations give. -/
import Derived.Test.YtogmcinaoemnpabRnd
namespace Go.Proofs.Ytogmcinaoemnpab
open Go Go.RowKit

def topE : FloatKind → Int
  | .f32 => 126
  | .f64 => 1022
def lowE : FloatKind → Int
  | .f32 => -149
  | .f64 => -1074
/-- x is a number, and no greater than two to the power of B; not less than that. -/
def Bd (k : FloatKind) (x : Nat) (B : Int) : Prop := ∃ s m e, k.decode x = .number s m e ∧ (m : Rat) * two e ≤ two B
def Lb (k : FloatKind) (x : Nat) (B : Int) : Prop := ∃ s m e, k.decode x = .number s m e ∧ two B ≤ (m : Rat) * two e
theorem Bd.num {k : FloatKind} {x : Nat} {B : Int} (h : Bd k x B) : isNaN k x = false := by
  obtain ⟨s, m, e, h, _⟩ := h; simp [isNaN, h, Ieee.Datum.isNaN]
theorem Bd.mono {k : FloatKind} {x : Nat} {B C : Int} (h : Bd k x B) (hc : B ≤ C) : Bd k x C := by
  obtain ⟨s, m, e, h, hv⟩ := h; exact ⟨s, m, e, h, Rat.le_trans hv (two_mono hc)⟩
theorem natCast_mul (a b : Nat) : ((a * b : Nat) : Rat) = (a : Rat) * (b : Rat) := by norm_cast
theorem natCast_nonneg (a : Nat) : (0 : Rat) ≤ (a : Rat) := by exact_mod_cast Nat.zero_le a
theorem encode_bd (k : FloatKind) (s : Bool) (m : Nat) (e B : Int) (hv : (m : Rat) * two e ≤ two B) (hlo : lowE k ≤ B) (hhi : B ≤ topE k) : Bd k (k.encode (.number s m e)) B := by
  by_cases hm : m = 0
  · subst hm
    refine ⟨s, 0, lowE k, ?_, ?_⟩
    · have : k.encode (.number s 0 e) = k.format.word s 0 := nearest_zero k.format s e
      rw [this]
      cases k <;> cases s <;> decide +kernel
    · have := two_pos B
      have h0 : ((0 : Nat) : Rat) = 0 := rfl
      grind
  · have h1 : k.format.leastPlace = lowE k := by cases k <;> decide
    have h2 : B - k.format.leastPlace - k.format.fractionBits + 2 < ((2 ^ k.format.exponentBits - 1 : Nat) : Int) := by
      rw [h1]
      cases k
      · have e1 : (FloatKind.f32.format.fractionBits : Int) = 23 := rfl
        have e2 : ((2 ^ FloatKind.f32.format.exponentBits - 1 : Nat) : Int) = 255 := by decide
        simp only [lowE, topE] at *
        omega
      · have e1 : (FloatKind.f64.format.fractionBits : Int) = 52 := rfl
        have e2 : ((2 ^ FloatKind.f64.format.exponentBits - 1 : Nat) : Int) = 2047 := by decide
        simp only [lowE, topE] at *
        omega
    obtain ⟨m', e', hr, hv'⟩ := nearest_le k.format s m e B hm hv (by rw [h1]; exact hlo) h2 (by cases k <;> decide)
    exact ⟨s, m', e', hr, hv'⟩
theorem bd_mul {k : FloatKind} {x y : Nat} {A B : Int} (hx : Bd k x A) (hy : Bd k y B) (hlo : lowE k ≤ A + B) (hhi : A + B ≤ topE k) : Bd k (fbin .mul k x y) (A + B) := by
  obtain ⟨s, m, i, h1, v1⟩ := hx
  obtain ⟨t, n, j, h2, v2⟩ := hy
  have hb : floatBits .mul k x y = some (k.encode (.number (s ^^ t) (m * n) (i + j))) := by
    have h1' : k.format.read x = _ := h1
    have h2' : k.format.read y = _ := h2
    simp [floatBits, Ieee.Format.mul, h1', h2', Ieee.Datum.product, FloatKind.encode]
  have hf : fbin .mul k x y = k.encode (.number (s ^^ t) (m * n) (i + j)) := by simp [fbin, hb]
  rw [hf]
  refine encode_bd k _ _ _ _ ?_ hlo hhi
  rw [natCast_mul, two_add, two_add]
  have e : (m : Rat) * (n : Rat) * (two i * two j) = ((m : Rat) * two i) * ((n : Rat) * two j) := by grind
  rw [e]
  have p1 : (0 : Rat) ≤ (n : Rat) * two j := Rat.mul_nonneg (natCast_nonneg n) (Rat.le_of_lt (two_pos j))
  have q1 := Rat.mul_le_mul_of_nonneg_right v1 p1
  have q2 := Rat.mul_le_mul_of_nonneg_left v2 (Rat.le_of_lt (two_pos A))
  exact Rat.le_trans q1 q2
theorem signed_abs (s : Bool) (m a : Nat) (t : Bool) (n b : Nat) : (Ieee.signed s m a + Ieee.signed t n b).natAbs ≤ m * 2 ^ a + n * 2 ^ b := by
  have h1 : (Ieee.signed s m a).natAbs = m * 2 ^ a := by unfold Ieee.signed; rw [Nat.shiftLeft_eq]; cases s <;> simp only [Bool.false_eq_true, if_false, if_true] <;> omega
  have h2 : (Ieee.signed t n b).natAbs = n * 2 ^ b := by unfold Ieee.signed; rw [Nat.shiftLeft_eq]; cases t <;> simp only [Bool.false_eq_true, if_false, if_true] <;> omega
  rw [← h1, ← h2]
  exact Int.natAbs_add_le _ _
theorem bd_sum {k : FloatKind} {s t : Bool} {m n : Nat} {i j A : Int} {r : Nat} (v1 : (m : Rat) * two i ≤ two A) (v2 : (n : Rat) * two j ≤ two A) (hlo : lowE k ≤ A + 1) (hhi : A + 1 ≤ topE k)
    (h : ((Ieee.Datum.number s m i).sum (.number t n j)).map k.format.write = some r) : Bd k r (A + 1) := by
  simp only [Ieee.Datum.sum, Option.map_some, Option.some.injEq] at h
  subst h
  refine encode_bd k _ _ _ _ ?_ hlo hhi
  have hs := signed_abs s m (i - min i j).toNat t n (j - min i j).toNat
  generalize (Ieee.signed s m (i - min i j).toNat + Ieee.signed t n (j - min i j).toNat).natAbs = K at *
  have h1 : (K : Rat) ≤ (m : Rat) * two ((i - min i j).toNat : Int) + (n : Rat) * two ((j - min i j).toNat : Int) := by
    rw [two_nat, two_nat, ← natCast_mul, ← natCast_mul]
    have : (K : Rat) ≤ ((m * 2 ^ (i - min i j).toNat + n * 2 ^ (j - min i j).toNat : Nat) : Rat) := by exact_mod_cast hs
    have e : ((m * 2 ^ (i - min i j).toNat + n * 2 ^ (j - min i j).toNat : Nat) : Rat) = ((m * 2 ^ (i - min i j).toNat : Nat) : Rat) + ((n * 2 ^ (j - min i j).toNat : Nat) : Rat) := by norm_cast
    rw [← e]; exact this
  have e1 : two i = two ((i - min i j).toNat : Int) * two (min i j) := by rw [← two_add]; congr 1; omega
  have e2 : two j = two ((j - min i j).toNat : Int) * two (min i j) := by rw [← two_add]; congr 1; omega
  have e3 : two (A + 1) = two A + two A := by rw [two_add]; have : two 1 = 2 := by decide +kernel
                                              rw [this]; grind
  rw [e1] at v1
  rw [e2] at v2
  rw [e3]
  have h2 := Rat.mul_le_mul_of_nonneg_right h1 (Rat.le_of_lt (two_pos (min i j)))
  grind
theorem bd_add {k : FloatKind} {x y : Nat} {A : Int} (hx : Bd k x A) (hy : Bd k y A) (hlo : lowE k ≤ A + 1) (hhi : A + 1 ≤ topE k) : Bd k (fbin .add k x y) (A + 1) := by
  obtain ⟨s, m, i, h1, v1⟩ := hx
  obtain ⟨t, n, j, h2, v2⟩ := hy
  have h1' : k.format.read x = _ := h1
  have h2' : k.format.read y = _ := h2
  cases hb : floatBits .add k x y with
  | none => simp [floatBits, Ieee.Format.add, h1', h2', Ieee.Datum.sum] at hb
  | some r =>
    have hf : fbin .add k x y = r := by simp [fbin, hb]
    rw [hf]
    refine bd_sum (s := s) (t := t) v1 v2 hlo hhi ?_
    simpa [floatBits, Ieee.Format.add, h1', h2'] using hb
theorem bd_sub {k : FloatKind} {x y : Nat} {A : Int} (hx : Bd k x A) (hy : Bd k y A) (hlo : lowE k ≤ A + 1) (hhi : A + 1 ≤ topE k) : Bd k (fbin .sub k x y) (A + 1) := by
  obtain ⟨s, m, i, h1, v1⟩ := hx
  obtain ⟨t, n, j, h2, v2⟩ := hy
  have h1' : k.format.read x = _ := h1
  have h2' : k.format.read y = _ := h2
  cases hb : floatBits .sub k x y with
  | none => simp [floatBits, Ieee.Format.sub, h1', h2', Ieee.Datum.opposite, Ieee.Datum.sum] at hb
  | some r =>
    have hf : fbin .sub k x y = r := by simp [fbin, hb]
    rw [hf]
    refine bd_sum (s := s) (t := !t) v1 v2 hlo hhi ?_
    simpa [floatBits, Ieee.Format.sub, h1', h2', Ieee.Datum.opposite] using hb
theorem bd_quo {k : FloatKind} {x y : Nat} {A C : Int} (hx : Bd k x A) (hy : Lb k y C) (hlo : lowE k ≤ A - C + 1) (hhi : A - C + 1 ≤ topE k) : Bd k (fbin .quo k x y) (A - C + 1) := by
  obtain ⟨s, m, i, h1, v1⟩ := hx
  obtain ⟨t, n, j, h2, v2⟩ := hy
  have h1' : k.format.read x = _ := h1
  have h2' : k.format.read y = _ := h2
  have hn : n ≠ 0 := by
    rintro rfl
    have := two_pos C
    have h0 : ((0 : Nat) : Rat) = 0 := rfl
    grind
  obtain ⟨D, hD⟩ : ∃ D, D = k.format.fractionBits + 2 := ⟨_, rfl⟩
  obtain ⟨more, hmore⟩ : ∃ more, more = D + n.log2 - m.log2 := ⟨_, rfl⟩
  have hb : floatBits .quo k x y = some (k.encode (.number (s ^^ t) (2 * ((m <<< more) / n) + ((m <<< more) % n != 0).toNat) (i - j - more - 1))) := by
    simp [floatBits, Ieee.Format.div, h1', h2', Ieee.Datum.quotient, hn, FloatKind.encode, ← hD, ← hmore]
  rw [show fbin .quo k x y = (floatBits .quo k x y).getD (qnan k) from rfl, hb, Option.getD_some]
  refine encode_bd k _ _ _ _ ?_ hlo hhi
  by_cases hm : m = 0
  · subst hm
    have : (0 : Nat) <<< more = 0 := by simp
    rw [this]
    have := two_pos (A - C + 1)
    have h0 : ((0 : Nat) : Rat) = 0 := rfl
    simp
    grind
  · have hq1 : 1 ≤ (m <<< more) / n := by
      rw [Nat.le_div_iff_mul_le (by omega), Nat.one_mul, Nat.shiftLeft_eq]
      have g1 : n < 2 ^ (n.log2 + 1) := Nat.lt_log2_self
      have g2 : 2 ^ m.log2 ≤ m := Nat.log2_self_le hm
      have g3 : 2 ^ (n.log2 + 1) ≤ 2 ^ m.log2 * 2 ^ more := by
        rw [← Nat.pow_add]; exact Nat.pow_le_pow_right (by omega) (by omega)
      have g4 := Nat.mul_le_mul_right (2 ^ more) g2
      omega
    have hq2 : (m <<< more) / n * n ≤ m * 2 ^ more := by rw [Nat.shiftLeft_eq]; exact Nat.div_mul_le_self _ _
    have hq3 : 2 * ((m <<< more) / n) + ((m <<< more) % n != 0).toNat ≤ 4 * ((m <<< more) / n) := by
      have := Bool.toNat_le ((m <<< more) % n != 0); omega
    generalize 2 * ((m <<< more) / n) + ((m <<< more) % n != 0).toNat = K at *
    generalize (m <<< more) / n = q at *
    have r1 : (K : Rat) ≤ 4 * (q : Rat) := by exact_mod_cast hq3
    have r2 : (q : Rat) * (n : Rat) ≤ (m : Rat) * two (more : Int) := by rw [two_nat]; exact_mod_cast hq2
    have e1 : two (i - j - more - 1) * 4 * two j * two (more : Int) = two i * 2 := by
      have a1 : (4 : Rat) = two 2 := by decide +kernel
      have a2 : (2 : Rat) = two 1 := by decide +kernel
      rw [a1, a2, ← two_add, ← two_add, ← two_add, ← two_add]; congr 1; omega
    have e2 : two (A - C + 1) * two C = two A * 2 := by
      have a2 : (2 : Rat) = two 1 := by decide +kernel
      rw [a2, ← two_add, ← two_add]; congr 1; omega
    have pj := two_pos j
    have pm := two_pos (more : Int)
    have pC := two_pos C
    have pp := two_pos (i - j - more - 1)
    have pn : (0 : Rat) < (n : Rat) := by exact_mod_cast (by omega : 0 < n)
    -- K * two p * n * two j * two more ≤ 4 q n two p two j two more ≤ ..
    have s1 : (K : Rat) * two (i - j - more - 1) ≤ 4 * (q : Rat) * two (i - j - more - 1) := Rat.mul_le_mul_of_nonneg_right r1 (Rat.le_of_lt pp)
    have s2 : 4 * (q : Rat) * two (i - j - more - 1) * ((n : Rat) * two j) ≤ two A * 2 := by
      have u1 := Rat.mul_le_mul_of_nonneg_right r2 (Rat.le_of_lt (Rat.mul_pos pp pj))
      have u2 : (m : Rat) * two (more : Int) * (two (i - j - more - 1) * two j) * 4 = (m : Rat) * two i * 2 := by
        have : (m : Rat) * two (more : Int) * (two (i - j - more - 1) * two j) * 4 = (m : Rat) * (two (i - j - more - 1) * 4 * two j * two (more : Int)) := by grind
        rw [this, e1]; grind
      have u3 : 4 * (q : Rat) * two (i - j - more - 1) * ((n : Rat) * two j) = (q : Rat) * (n : Rat) * (two (i - j - more - 1) * two j) * 4 := by grind
      rw [u3]
      grind
    have s3 : two (A - C + 1) * two C ≤ two (A - C + 1) * ((n : Rat) * two j) := Rat.mul_le_mul_of_nonneg_left v2 (Rat.le_of_lt (two_pos _))
    have s4 : 4 * (q : Rat) * two (i - j - more - 1) * ((n : Rat) * two j) ≤ two (A - C + 1) * ((n : Rat) * two j) := by
      rw [e2] at s3; exact Rat.le_trans s2 s3
    have s5 := Rat.le_of_mul_le_mul_right s4 (Rat.mul_pos pn pj)
    exact Rat.le_trans s1 s5
theorem bd_widen {x : Nat} (h : (FloatKind.decode .f32 x).isNaN = false) (hi : (FloatKind.decode .f32 x).isInfinity = false) : Bd .f64 (fconv .f32 x .f64) 128 := by
  cases hd : FloatKind.decode .f32 x with
  | nan => simp [hd, Ieee.Datum.isNaN] at h
  | infinity => simp [hd, Ieee.Datum.isInfinity] at hi
  | number s m e =>
    obtain ⟨h1, h2, h3⟩ := read_single x s m e hd
    have hn : isNaN .f32 x = false := h
    have hf : fconv .f32 x .f64 = FloatKind.encode .f64 (.number s m e) := by simp [fconv, hn, hd]
    rw [hf]
    refine encode_bd .f64 _ _ _ _ ?_ (by decide) (by decide)
    have a1 : (m : Rat) ≤ two 24 := by
      have : (24 : Int) = ((24 : Nat) : Int) := rfl
      rw [this, two_nat]; exact_mod_cast (by omega)
    have a2 : two 128 = two 24 * two 104 := by rw [← two_add]; rfl
    have a3 : two e ≤ two 104 := two_mono h3
    have b1 := Rat.mul_le_mul_of_nonneg_right a1 (Rat.le_of_lt (two_pos e))
    have b2 := Rat.mul_le_mul_of_nonneg_left a3 (Rat.le_of_lt (two_pos 24))
    rw [a2]; exact Rat.le_trans b1 b2
theorem convOk_narrow {x : Nat} {B : Int} (h : Bd .f64 x B) (hhi : B ≤ 126) : convOk .f64 x .f32 := by
  by_cases hlo : -149 ≤ B
  · obtain ⟨s, m, e, hd, hv⟩ := h
    obtain ⟨s', m', e', hd', _⟩ := encode_bd .f32 s m e B hv hlo hhi
    refine .inr (.inr ?_)
    rw [hd, hd']; rfl
  · obtain ⟨s, m, e, hd, hv⟩ := Bd.mono h (show B ≤ 0 by omega)
    obtain ⟨s', m', e', hd', _⟩ := encode_bd .f32 s m e 0 hv (by decide) (by decide)
    refine .inr (.inr ?_)
    rw [hd, hd']; rfl
theorem convOk_pick {s : FloatKind} {X t : Nat} {d : FloatKind} (h : convOk s X d) : convOk s (pick s X t) d := by
  cases hn : isNaN s X
  · rw [pick_num hn]; exact h
  · exact .inl (by rw [isNaN_pick, hn])
end Go.Proofs.Ytogmcinaoemnpab
