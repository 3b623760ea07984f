
/- The power of e of a number that is at most 0, made by twelve steps and eight squares: each is from 0 to 1, or, the last step, no further from 0. -/
import Derived.Test.YtogmcinaoemnpaaWid
import Derived.Test.YtogmcinaoemnpaaPos
namespace Go.Proofs.Ytogmcinaoemnpaa
open Go Go.RowKit

/-- x is a number that is not greater than 0, and at least -(2 to the power of B). -/
def Nb (x : Nat) (B : Int) : Prop := ∃ s m e, FloatKind.decode .f64 x = .number s m e ∧ (s = true ∨ m = 0) ∧ (m : Rat) * two e ≤ two B
theorem enc_zero (s : Bool) (e : Int) : FloatKind.decode .f64 (FloatKind.encode .f64 (.number s 0 e)) = .number s 0 (-1074) := by
  have : FloatKind.encode .f64 (.number s 0 e) = Ieee.double.word s 0 := nearest_zero Ieee.double s e
  rw [this]
  cases s <;> decide +kernel
theorem zero_val (B e : Int) : ((0 : Nat) : Rat) * two e ≤ two B := by
  have := two_pos B
  have h0 : ((0 : Nat) : Rat) = 0 := rfl
  grind
theorem enc_nb {s : Bool} {m : Nat} {e B : Int} (hs : s = true ∨ m = 0) (hv : (m : Rat) * two e ≤ two B) (hlo : -1074 ≤ B) (hhi : B ≤ 1022) : Nb (FloatKind.encode .f64 (.number s m e)) B := by
  by_cases hm : m = 0
  · subst hm
    exact ⟨s, 0, -1074, enc_zero s e, .inr rfl, zero_val _ _⟩
  · have h : s = true := hs.resolve_right hm
    subst h
    obtain ⟨m', e', h1, h2, _⟩ := encode_both true m e B hv hlo hhi
    exact ⟨true, m', e', h1, .inl rfl, h2⟩
theorem mul_val {x y : Nat} {s t : Bool} {m n : Nat} {i j : Int} (h1 : FloatKind.decode .f64 x = .number s m i) (h2 : FloatKind.decode .f64 y = .number t n j) : fbin .mul .f64 x y = FloatKind.encode .f64 (.number (s ^^ t) (m * n) (i + j)) := by
  have hb : floatBits .mul .f64 x y = some (FloatKind.encode .f64 (.number (s ^^ t) (m * n) (i + j))) := by
    have h1' : FloatKind.f64.format.read x = _ := h1
    have h2' : FloatKind.f64.format.read y = _ := h2
    simp [floatBits, Ieee.Format.mul, h1', h2', Ieee.Datum.product, FloatKind.encode]
  simp [fbin, hb]
theorem prod_val {m n : Nat} {i j A B : Int} (v1 : (m : Rat) * two i ≤ two A) (v2 : (n : Rat) * two j ≤ two B) : ((m * n : Nat) : Rat) * two (i + j) ≤ two (A + B) := by
  rw [natCast_mul, two_add, two_add]
  have e : (m : Rat) * (n : Rat) * (two i * two j) = ((m : Rat) * two i) * ((n : Rat) * two j) := by grind
  rw [e]
  have p1 : (0 : Rat) ≤ (n : Rat) * two j := Rat.mul_nonneg (natCast_nonneg n) (Rat.le_of_lt (two_pos j))
  exact Rat.le_trans (Rat.mul_le_mul_of_nonneg_right v1 p1) (Rat.mul_le_mul_of_nonneg_left v2 (Rat.le_of_lt (two_pos A)))
theorem nb_mul {x y : Nat} (hx : Nb x 0) (hy : Pb y 0) : Nb (fbin .mul .f64 x y) 0 := by
  obtain ⟨s, m, i, h1, hs, v1⟩ := hx
  obtain ⟨n, j, h2, v2⟩ := hy
  rw [mul_val h1 h2]
  refine enc_nb ?_ (prod_val v1 v2) (by decide) (by decide)
  rcases hs with h | h
  · exact .inl (by rw [h]; rfl)
  · exact .inr (by rw [h, Nat.zero_mul])
theorem sq_pb {x : Nat} (hx : Bd .f64 x 0) : Pb (fbin .mul .f64 x x) 0 := by
  obtain ⟨s, m, i, h1, v1⟩ := hx
  rw [mul_val h1 h1]
  have e : (s ^^ s) = false := by cases s <;> rfl
  rw [e]
  obtain ⟨m', e', hd, h, _⟩ := encode_both false _ _ _ (prod_val v1 v1) (by decide) (by decide)
  exact ⟨m', e', hd, h⟩
/-- A quotient is bounded by that of the bounds. -/
theorem quo_val {x y : Nat} {s t : Bool} {m n : Nat} {i j A C : Int} (h1 : FloatKind.decode .f64 x = .number s m i) (h2 : FloatKind.decode .f64 y = .number t n j) (v1 : (m : Rat) * two i ≤ two A) (v2 : two C ≤ (n : Rat) * two j) :
    ∃ (K : Nat) (p : Int), fbin .quo .f64 x y = FloatKind.encode .f64 (.number (s ^^ t) K p) ∧ (K : Rat) * two p ≤ two (A - C) ∧ (m = 0 → K = 0) := by
  have h1' : FloatKind.f64.format.read x = _ := h1
  have h2' : FloatKind.f64.format.read y = _ := h2
  have hn : n ≠ 0 := by
    rintro rfl
    have := two_pos C
    have h0 : ((0 : Nat) : Rat) = 0 := rfl
    grind
  obtain ⟨D, hD⟩ : ∃ D, D = FloatKind.f64.format.fractionBits + 2 := ⟨_, rfl⟩
  obtain ⟨more, hmore⟩ : ∃ more, more = D + n.log2 - m.log2 := ⟨_, rfl⟩
  have hb : floatBits .quo .f64 x y = some (FloatKind.encode .f64 (.number (s ^^ t) (2 * ((m <<< more) / n) + ((m <<< more) % n != 0).toNat) (i - j - more - 1))) := by
    simp [floatBits, Ieee.Format.div, h1', h2', Ieee.Datum.quotient, hn, FloatKind.encode, ← hD, ← hmore]
  refine ⟨_, _, by rw [show fbin .quo .f64 x y = (floatBits .quo .f64 x y).getD (qnan .f64) from rfl, hb, Option.getD_some], ?_, fun hm => by subst hm; simp⟩
  by_cases hm : m = 0
  · subst hm
    simp only [Nat.zero_shiftLeft, Nat.zero_div, Nat.mul_zero, Nat.zero_mod, bne_self_eq_false, Bool.toNat_false, Nat.add_zero]
    exact zero_val _ _
  · have hq1 : 1 ≤ (m <<< more) / n := by
      rw [Nat.le_div_iff_mul_le (by omega), Nat.one_mul, Nat.shiftLeft_eq]
      have g1 : n < 2 ^ (n.log2 + 1) := Nat.lt_log2_self
      have g2 : 2 ^ m.log2 ≤ m := Nat.log2_self_le hm
      have g3 : 2 ^ (n.log2 + 1) ≤ 2 ^ m.log2 * 2 ^ more := by
        rw [← Nat.pow_add]; exact Nat.pow_le_pow_right (by omega) (by omega)
      have g4 := Nat.mul_le_mul_right (2 ^ more) g2
      omega
    have hdm := Nat.div_add_mod (m <<< more) n
    have hml := Nat.mod_lt (m <<< more) (show 0 < n by omega)
    rw [Nat.shiftLeft_eq] at *
    generalize (m * 2 ^ more) / n = q at *
    generalize (m * 2 ^ more) % n = r at *
    -- m 2^more = n q + r
    have pn : (0 : Rat) < (n : Rat) := by exact_mod_cast (by omega : 0 < n)
    have pj := two_pos j
    have hR : (m : Rat) * two (more : Int) = (n : Rat) * (q : Rat) + (r : Rat) := by
      rw [two_nat]; exact_mod_cast hdm.symm
    obtain ⟨z, hz⟩ : ∃ z : Int, z = A - C - (i - j - more) := ⟨_, rfl⟩
    -- n q + r ≤ n two z
    have hle : (n : Rat) * (q : Rat) + (r : Rat) ≤ (n : Rat) * two z := by
      rw [← hR]
      have e1 : two (more : Int) * two A = two z * two C * two i * two (-j) := by
        rw [← two_add, ← two_add, ← two_add, ← two_add]; congr 1; omega
      have pC := two_pos C
      have pi := two_pos i
      have pm := two_pos (more : Int)
      have pz := two_pos z
      have pnj := two_pos (-j)
      have ej : two j * two (-j) = 1 := by rw [← two_add, show j + -j = 0 by omega, two_zero]
      -- m two i two more ≤ two A two more = two z two C two i two(-j) ≤ two z n two j two i two(-j) = two z n two i
      have u1 : (m : Rat) * two i * two (more : Int) ≤ two A * two (more : Int) := Rat.mul_le_mul_of_nonneg_right v1 (Rat.le_of_lt pm)
      have u2 : two C * (two z * two i * two (-j)) ≤ (n : Rat) * two j * (two z * two i * two (-j)) := Rat.mul_le_mul_of_nonneg_right v2 (Rat.le_of_lt (Rat.mul_pos (Rat.mul_pos pz pi) pnj))
      have u3 : (m : Rat) * two (more : Int) * two i ≤ (n : Rat) * two z * two i := by
        have w1 : (n : Rat) * two j * (two z * two i * two (-j)) = (n : Rat) * two z * two i * (two j * two (-j)) := by grind
        rw [w1, ej] at u2
        grind
      exact Rat.le_of_mul_le_mul_right u3 pi
    have rn : (0 : Rat) ≤ (r : Rat) := natCast_nonneg r
    have hq : (q : Rat) ≤ two z := by
      have : (q : Rat) * (n : Rat) ≤ two z * (n : Rat) := by grind
      exact Rat.le_of_mul_le_mul_right this pn
    have hz0 : 0 ≤ z := by
      by_cases hc : 0 ≤ z
      · exact hc
      · have h1 : two z ≤ two (-1) := two_mono (by omega)
        have h2 : two (-1) < 1 := by decide +kernel
        have h3 : (1 : Rat) ≤ (q : Rat) := by exact_mod_cast hq1
        grind
    obtain ⟨N, hN⟩ : ∃ N : Nat, two z = (N : Rat) := ⟨2 ^ z.toNat, by rw [← two_nat]; congr 1; omega⟩
    have hqN : n * q + r ≤ n * N := by rw [hN] at hle; exact_mod_cast hle
    have hK : 2 * q + (r != 0).toNat ≤ 2 * N := by
      by_cases h0 : r = 0
      · subst h0
        have : q ≤ N := by rw [hN] at hq; exact_mod_cast hq
        simp; omega
      · have hlt : q < N := by
          by_cases hc : q < N
          · exact hc
          · have := Nat.mul_le_mul_left n (show N ≤ q by omega)
            omega
        have : (r != 0) = true := by simpa using h0
        rw [this]; simp; omega
    have pp := two_pos (i - j - more - 1)
    have s1 : ((2 * q + (r != 0).toNat : Nat) : Rat) * two (i - j - more - 1) ≤ ((2 * N : Nat) : Rat) * two (i - j - more - 1) := Rat.mul_le_mul_of_nonneg_right (by exact_mod_cast hK) (Rat.le_of_lt pp)
    refine Rat.le_trans s1 ?_
    have e2 : ((2 * N : Nat) : Rat) * two (i - j - more - 1) = two (A - C) := by
      have a2 : ((2 : Nat) : Rat) = two 1 := by decide +kernel
      rw [natCast_mul, ← hN, a2, ← two_add, ← two_add]; congr 1; omega
    rw [e2]
    exact Rat.le_refl
theorem nb_quo {x y : Nat} {A C : Int} (hx : Nb x A) (hy : ∃ n j, FloatKind.decode .f64 y = .number false n j ∧ two C ≤ (n : Rat) * two j) (hlo : -1074 ≤ A - C) (hhi : A - C ≤ 1022) : Nb (fbin .quo .f64 x y) (A - C) := by
  obtain ⟨s, m, i, h1, hs, v1⟩ := hx
  obtain ⟨n, j, h2, v2⟩ := hy
  obtain ⟨K, p, hf, hv, h0⟩ := quo_val h1 h2 v1 v2
  rw [hf]
  refine enc_nb ?_ hv hlo hhi
  rcases hs with h | h
  · exact .inl (by rw [h]; rfl)
  · exact .inr (h0 h)
theorem add_one {y : Nat} (hy : Nb y 0) : Pb (fbin .add .f64 oneW y) 0 := by
  obtain ⟨s, n, j, h2, hs, v2⟩ := hy
  have h1 : FloatKind.decode .f64 oneW = .number false 4503599627370496 (-52) := by decide +kernel
  have h1' : FloatKind.f64.format.read oneW = _ := h1
  have h2' : FloatKind.f64.format.read y = _ := h2
  have hb : floatBits .add .f64 oneW y = some (FloatKind.encode .f64 (.number (if Ieee.signed false 4503599627370496 (-52 - min (-52) j).toNat + Ieee.signed s n (j - min (-52) j).toNat = 0 then false && s else decide (Ieee.signed false 4503599627370496 (-52 - min (-52) j).toNat + Ieee.signed s n (j - min (-52) j).toNat < 0)) (Ieee.signed false 4503599627370496 (-52 - min (-52) j).toNat + Ieee.signed s n (j - min (-52) j).toNat).natAbs (min (-52) j))) := by
    simp [floatBits, Ieee.Format.add, h1', h2', Ieee.Datum.sum, FloatKind.encode]
  rw [show fbin .add .f64 oneW y = (floatBits .add .f64 oneW y).getD (qnan .f64) from rfl, hb, Option.getD_some]
  clear hb
  have e1 := signed_val false 4503599627370496 (-52) (min (-52) j) (by omega)
  have e2 := signed_val s n j (min (-52) j) (by omega)
  generalize Ieee.signed false 4503599627370496 (-52 - min (-52) j).toNat = a at *
  generalize Ieee.signed s n (j - min (-52) j).toNat = b at *
  have hp := two_pos (min (-52) j)
  have o1 : sval false 4503599627370496 (-52) = 1 := by decide +kernel
  rw [o1] at e1
  have hsv : sval s n j ≤ 0 ∧ -1 ≤ sval s n j := by
    have nn := Rat.mul_nonneg (natCast_nonneg n) (Rat.le_of_lt (two_pos j))
    rw [two_zero] at v2
    rcases hs with h | h
    · subst h
      unfold sval
      simp only [if_true]
      grind
    · subst h
      have h0 : ((0 : Nat) : Rat) = 0 := rfl
      unfold sval
      cases s <;> simp only [Bool.false_eq_true, if_false, if_true, h0] <;> grind
  have hab : ((a + b : Int) : Rat) * two (min (-52) j) = 1 + sval s n j := by
    have : ((a + b : Int) : Rat) = (a : Rat) + (b : Rat) := by norm_cast
    rw [this, Rat.add_mul, e1, e2]
  have h0 : 0 ≤ a + b := by
    by_cases hc : 0 ≤ a + b
    · exact hc
    · have : ((a + b : Int) : Rat) < 0 := by exact_mod_cast (show a + b < 0 by omega)
      have h3 : ((a + b : Int) : Rat) * two (min (-52) j) < 0 * two (min (-52) j) := (Rat.mul_lt_mul_right hp).2 this
      grind
  have hsg : (if a + b = 0 then false && s else decide (a + b < 0)) = false := by
    split
    · rfl
    · exact decide_eq_false (by omega)
  rw [hsg]
  have hcast : (((a + b).natAbs : Nat) : Rat) = ((a + b : Int) : Rat) := by
    have : (((a + b).natAbs : Nat) : Int) = a + b := by omega
    exact_mod_cast this
  obtain ⟨m', e', hd, hv, _⟩ := encode_both false (a + b).natAbs (min (-52) j) 0 (by rw [hcast, hab, two_zero]; grind) (by decide) (by decide)
  exact ⟨m', e', hd, hv⟩
theorem int_div (k : Nat) (h1 : 1 ≤ k) (h2 : k ≤ 12) : ∃ n j, FloatKind.decode .f64 (floatOfInt .f64 (k : Int)) = .number false n j ∧ two 0 ≤ (n : Rat) * two j := by
  obtain ⟨s, m, e, hd, hv⟩ := floatOfInt_val (k : Int) (by omega)
  have h3 : (1 : Rat) ≤ (((k : Int)) : Rat) := by exact_mod_cast (show (1 : Int) ≤ (k : Int) by omega)
  have nn := Rat.mul_nonneg (natCast_nonneg m) (Rat.le_of_lt (two_pos e))
  cases s
  · refine ⟨m, e, hd, ?_⟩
    rw [two_zero]
    unfold sval at hv
    simp only [Bool.false_eq_true, if_false] at hv
    rw [hv]; exact h3
  · exfalso
    unfold sval at hv
    simp only [if_true] at hv
    grind
def pR (t : Nat) : Nat → Nat
  | 0 => oneW
  | k + 1 => fbin .add .f64 oneW (fbin .quo .f64 (fbin .mul .f64 t (pR t k)) (floatOfInt .f64 (12 - (k : Int))))
def sqP (p : Nat) : Nat → Nat
  | 0 => p
  | k + 1 => fbin .mul .f64 (sqP p k) (sqP p k)
theorem pR_pb {t : Nat} (ht : Nb t 0) : ∀ k, k ≤ 12 → Pb (pR t k) 0
  | 0, _ => ⟨4503599627370496, -52, show FloatKind.decode .f64 oneW = _ by decide +kernel, by decide +kernel⟩
  | k + 1, h => by
    have ih := pR_pb ht k (by omega)
    have e : (12 - (k : Int)) = ((12 - k : Nat) : Int) := by omega
    have q := nb_quo (C := 0) (nb_mul ht ih) (int_div (12 - k) (by omega) (by omega)) (by decide) (by decide)
    rw [← e] at q
    exact add_one q
theorem sqP_pb {p : Nat} (hp : Pb p 0) : ∀ k, Pb (sqP p k) 0
  | 0 => hp
  | k + 1 => sq_pb (sqP_pb hp k).bd
def expT (x : Nat) : Nat := fbin .quo .f64 (fconv .f32 x .f64) 4643211215818981376
def expWd (x : Nat) : Nat := sqP (pR (expT x) 12) 8
def expV (x : Nat) : Nat := fconv .f64 (expWd x) .f32
/-- A number that is not above 0, and not below -200, and its power. -/
theorem expNeg_ok {x : Nat} {s : Bool} {m : Nat} {e : Int} (hd : FloatKind.decode .f32 x = .number s m e) (hs : s = true ∨ m = 0) (hb : (m : Rat) * two e ≤ two 8) : Pb (expWd x) 0 := by
  obtain ⟨m', e', hd', hv⟩ := widen_val hd
  have hs' : s = true ∨ m' = 0 := by
    rcases hs with h | h
    · exact .inl h
    · refine .inr ?_
      subst h
      have h0 : ((0 : Nat) : Rat) = 0 := rfl
      rw [h0, Rat.zero_mul] at hv
      have pe := two_pos e'
      by_cases hc : m' = 0
      · exact hc
      · have : (0 : Rat) < (m' : Rat) := by exact_mod_cast (by omega : 0 < m')
        have := Rat.mul_pos this pe
        grind
  have h256 : ∃ n j, FloatKind.decode .f64 4643211215818981376 = .number false n j ∧ two 8 ≤ (n : Rat) * two j := ⟨4503599627370496, -44, by decide +kernel, by decide +kernel⟩
  have ht : Nb (expT x) 0 := nb_quo (A := 8) (C := 8) ⟨s, m', e', hd', hs', by rw [hv]; exact hb⟩ h256 (by decide) (by decide)
  exact sqP_pb (pR_pb ht 12 (by omega)) 8
/-- How a number that is not above 0 stands to 200 and to -200, in both kinds. -/
theorem exp_tests {x : Nat} {s : Bool} {m : Nat} {e : Int} (hd : FloatKind.decode .f32 x = .number s m e) (hs : s = true ∨ m = 0) :
    (FloatKind.f32.format.order x 1128792064 == some .gt) = false ∧ (FloatKind.f64.format.order (fconv .f32 x .f64) 4641240890982006784 == some .gt) = false ∧
    (FloatKind.f64.format.order (fconv .f32 x .f64) 13864612927836782592 == some .lt) = (FloatKind.f32.format.order x 3276275712 == some .lt) ∧
    ((FloatKind.f32.format.order x 3276275712 == some .lt) = false → (m : Rat) * two e ≤ two 8) := by
  obtain ⟨m', e', hd', hv⟩ := widen_val hd
  have hsv : sval s m' e' = sval s m e := by
    unfold sval
    cases s
    · simp only [Bool.false_eq_true, if_false]; exact hv
    · simp only [if_true]
      have p : ∀ (q : Nat) (e : Int), -(q : Rat) * two e = -((q : Rat) * two e) := fun q e => by grind
      rw [p, p, hv]
  have nn := Rat.mul_nonneg (natCast_nonneg m) (Rat.le_of_lt (two_pos e))
  have hle : sval s m e ≤ 0 ∧ (m : Rat) * two e = -sval s m e := by
    rcases hs with h | h
    · subst h
      unfold sval
      simp only [if_true]
      constructor <;> grind
    · subst h
      have h0 : ((0 : Nat) : Rat) = 0 := rfl
      unfold sval
      cases s <;> simp only [Bool.false_eq_true, if_false, if_true, h0] <;> constructor <;> grind
  have c1 : FloatKind.decode .f32 1128792064 = .number false 13107200 (-16) := by decide +kernel
  have c2 : FloatKind.decode .f64 4641240890982006784 = .number false 7036874417766400 (-45) := by decide +kernel
  have c3 : FloatKind.decode .f32 3276275712 = .number true 13107200 (-16) := by decide +kernel
  have c4 : FloatKind.decode .f64 13864612927836782592 = .number true 7036874417766400 (-45) := by decide +kernel
  have v1 : sval false 13107200 (-16) = 200 := by decide +kernel
  have v2 : sval false 7036874417766400 (-45) = 200 := by decide +kernel
  have v3 : sval true 13107200 (-16) = -200 := by decide +kernel
  have v4 : sval true 7036874417766400 (-45) = -200 := by decide +kernel
  have o1 := order_val hd c1
  have o2 := order_val hd' c2
  have o3 := order_val hd c3
  have o4 := order_val hd' c4
  rw [v1] at o1
  rw [hsv, v2] at o2
  rw [v3] at o3
  rw [hsv, v4] at o4
  have k8 : two 8 = 256 := by decide +kernel
  refine ⟨by rw [o1.1 (by grind)]; rfl, by rw [o2.1 (by grind)]; rfl, ?_, ?_⟩
  · by_cases h1 : sval s m e < -200
    · rw [o3.1 h1, o4.1 h1]
    · by_cases h2 : sval s m e = -200
      · rw [o3.2.1 h2, o4.2.1 h2]
      · rw [o3.2.2 (by grind), o4.2.2 (by grind)]
  · intro h
    rw [hle.2, k8]
    by_cases h1 : sval s m e < -200
    · rw [o3.1 h1] at h; cases h
    · grind
end Go.Proofs.Ytogmcinaoemnpaa
