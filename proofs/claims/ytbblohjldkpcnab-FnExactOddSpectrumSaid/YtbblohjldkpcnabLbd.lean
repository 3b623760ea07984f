/- Bounds from below of 32-bit results: squares, sums of what is not negative, and roots. -/
import Derived.Test.YtbblohjldkpcnabRoot
import Derived.Test.YtbblohjldkpcnabWid
import Derived.Test.YtbblohjldkpcnabBd
import Derived.Test.YtbblohjldkpcnabAbsW
import Derived.Test.YtbblohjldkpcnabRootC
import Derived.Test.YtbblohjldkpcnabNegQ
namespace Go.Proofs.Ytbblohjldkpcnab
open Go Go.RowKit

theorem fin_decL {x : Nat} (h : isFin .f32 x = true) : ∃ s m e, FloatKind.decode .f32 x = .number s m e := by
  unfold isFin at h
  cases hr : FloatKind.decode .f32 x with
  | nan s t => rw [hr] at h; cases h
  | infinity s => rw [hr] at h; cases h
  | number s m e => exact ⟨s, m, e, rfl⟩
theorem dec_finL {x : Nat} {s : Bool} {m : Nat} {e : Int} (h : FloatKind.decode .f32 x = .number s m e) : isFin .f32 x = true := by
  unfold isFin; rw [h]; rfl
/-- What is written of a number is no less than a power of two that is no greater than it, or an infinity. -/
theorem encode_lb (k : FloatKind) (s : Bool) (m : Nat) (e C : Int) (hC : k.format.leastPlace ≤ C) (hv : two C ≤ (m : Rat) * two e) :
    (∃ m' e', k.decode (k.encode (.number s m e)) = .number s m' e' ∧ two C ≤ (m' : Rat) * two e') ∨ k.decode (k.encode (.number s m e)) = .infinity s := by
  have hm : m ≠ 0 := by
    rintro rfl
    have := two_pos C
    have h0 : ((0 : Nat) : Rat) = 0 := rfl
    rw [h0] at hv
    grind
  obtain ⟨f, hf⟩ : ∃ f, f = k.format := ⟨_, rfl⟩
  have hinf : ∀ s, f.read (f.word s f.infRung) = .infinity s := by
    intro s; subst hf; cases k <;> cases s <;> decide +kernel
  show (∃ m' e', k.format.read (k.format.nearest s m e) = .number s m' e' ∧ two C ≤ (m' : Rat) * two e') ∨ k.format.read (k.format.nearest s m e) = .infinity s
  rw [← hf] at hC ⊢
  clear hf
  unfold Ieee.Format.nearest
  rw [if_neg hm]
  dsimp only
  obtain ⟨last, hlast⟩ : ∃ last, last = max (e + (m.log2 : Int) - f.fractionBits) f.leastPlace := ⟨_, rfl⟩
  rw [← hlast]
  obtain ⟨a, ha⟩ : ∃ a, a = (e - last).toNat := ⟨_, rfl⟩
  obtain ⟨d, hd⟩ : ∃ d, d = (last - e).toNat := ⟨_, rfl⟩
  obtain ⟨L, hL⟩ : ∃ L, L = (last - f.leastPlace).toNat := ⟨_, rfl⟩
  rw [← ha, ← hd, ← hL]
  have hn : m <<< a = m * 2 ^ a := Nat.shiftLeft_eq _ _
  have hbin : f.binade = 2 ^ f.fractionBits := rfl
  have hK1 : Ieee.Toward.even.cut s (m <<< a) d ≤ 2 * f.binade := by
    apply cut_le
    rw [hn, hbin]
    have h1 : m < 2 ^ (m.log2 + 1) := Nat.lt_log2_self
    have h2 : 2 ^ (m.log2 + 1) * 2 ^ a ≤ 2 * 2 ^ f.fractionBits * 2 ^ d := by
      rw [← Nat.pow_add, Nat.mul_comm 2, ← Nat.pow_succ, ← Nat.pow_add]
      exact Nat.pow_le_pow_right (by omega) (by omega)
    have h4 := Nat.mul_le_mul_right (2 ^ a) (Nat.le_of_lt h1)
    omega
  have hK2 : f.binade ≤ Ieee.Toward.even.cut s (m <<< a) d ∨ L = 0 := by
    by_cases hc : last = f.leastPlace
    · right; omega
    · left
      apply cut_ge
      rw [hn, hbin, ← Nat.pow_add]
      have e1 : f.fractionBits + d = m.log2 + a := by omega
      rw [e1, Nat.pow_add]
      exact Nat.mul_le_mul_right _ (Nat.log2_self_le hm)
  have hK4 : last ≤ C → 2 ^ (C - last).toNat ≤ Ieee.Toward.even.cut s (m <<< a) d := by
    intro hCl
    apply cut_ge
    have e1 : two last * two (a : Int) = two e * two (d : Int) := by rw [← two_add, ← two_add]; congr 1; omega
    have e2 : two C = two ((C - last).toNat : Int) * two last := by rw [← two_add]; congr 1; omega
    have e3 : ((m <<< a : Nat) : Rat) = (m : Rat) * two (a : Int) := by rw [hn, two_nat]; norm_cast
    have e4 : ((2 ^ (C - last).toNat * 2 ^ d : Nat) : Rat) = two ((C - last).toNat : Int) * two (d : Int) := by rw [two_nat, two_nat]; norm_cast
    have key : ((2 ^ (C - last).toNat * 2 ^ d : Nat) : Rat) * two last ≤ ((m <<< a : Nat) : Rat) * two last := by
      rw [e3, e4]
      have h1 := Rat.mul_le_mul_of_nonneg_right hv (Rat.le_of_lt (two_pos (d : Int)))
      have h2 : (m : Rat) * two (a : Int) * two last = (m : Rat) * two e * two (d : Int) := by
        rw [Rat.mul_assoc, Rat.mul_comm (two (a : Int)), e1, Rat.mul_assoc]
      have h3 : two ((C - last).toNat : Int) * two (d : Int) * two last = two C * two (d : Int) := by
        rw [e2, Rat.mul_assoc, Rat.mul_comm (two (d : Int)), Rat.mul_assoc]
      rw [h2, h3]
      exact h1
    have := Rat.le_of_mul_le_mul_right key (two_pos last)
    exact_mod_cast this
  generalize Ieee.Toward.even.cut s (m <<< a) d = K at *
  have hlL : f.leastPlace + L = last := by omega
  rcases Nat.lt_or_ge (L * f.binade + K) f.infRung with hr | hr
  · left
    rw [Nat.min_eq_left (Nat.le_of_lt hr)]
    obtain ⟨m', e', hrd, hval⟩ := read_rung f s L K hK1 hK2 hr
    refine ⟨m', e', hrd, ?_⟩
    rw [hval, hlL]
    by_cases hc : last ≤ C
    · have e2 : two C = two ((C - last).toNat : Int) * two last := by rw [← two_add]; congr 1; omega
      rw [e2, two_nat]
      have : ((2 ^ (C - last).toNat : Nat) : Rat) ≤ (K : Rat) := by exact_mod_cast hK4 hc
      exact Rat.mul_le_mul_of_nonneg_right this (Rat.le_of_lt (two_pos last))
    · have hb1 : 1 ≤ K := by
        rcases hK2 with h | h
        · have : 0 < f.binade := Nat.two_pow_pos _
          omega
        · omega
      have h1 : (1 : Rat) ≤ (K : Rat) := by exact_mod_cast hb1
      have h2 := Rat.mul_le_mul_of_nonneg_right h1 (Rat.le_of_lt (two_pos last))
      have h3 := two_lt (show C < last by omega)
      rw [Rat.one_mul] at h2
      exact Rat.le_trans (Rat.le_of_lt h3) h2
  · right
    rw [Nat.min_eq_right hr]
    exact hinf s
/-- Not negative, and no less than a power of two. -/
def Nl (x : Nat) (C : Int) : Prop := ∃ m e, FloatKind.decode .f32 x = .number false m e ∧ two C ≤ (m : Rat) * two e
def N0 (x : Nat) : Prop := ∃ m e, FloatKind.decode .f32 x = .number false m e
theorem Nl.n0 {x : Nat} {C : Int} (h : Nl x C) : N0 x := by obtain ⟨m, e, h, _⟩ := h; exact ⟨m, e, h⟩
theorem N0.fin {x : Nat} (h : N0 x) : isFin .f32 x = true := by obtain ⟨m, e, h⟩ := h; exact dec_finL h
theorem add_dec {x y : Nat} {m n : Nat} {i j : Int} (h1 : FloatKind.decode .f32 x = .number false m i) (h2 : FloatKind.decode .f32 y = .number false n j) :
    ∃ K : Nat, fbin .add .f32 x y = FloatKind.encode .f32 (.number false K (min i j)) ∧ (K : Rat) * two (min i j) = (m : Rat) * two i + (n : Rat) * two j := by
  have h1' : FloatKind.f32.format.read x = _ := h1
  have h2' : FloatKind.f32.format.read y = _ := h2
  refine ⟨m * 2 ^ (i - min i j).toNat + n * 2 ^ (j - min i j).toNat, ?_, ?_⟩
  · show (((FloatKind.f32.format.read x).sum (FloatKind.f32.format.read y)).map FloatKind.f32.format.write).getD (qnan .f32) = _
    rw [h1', h2']
    simp only [Ieee.Datum.sum, Ieee.signed, Bool.false_eq_true, if_false, Nat.shiftLeft_eq]
    have e : ((m * 2 ^ (i - min i j).toNat : Nat) : Int) + ((n * 2 ^ (j - min i j).toNat : Nat) : Int) = ((m * 2 ^ (i - min i j).toNat + n * 2 ^ (j - min i j).toNat : Nat) : Int) := by omega
    rw [e]
    generalize m * 2 ^ (i - min i j).toNat + n * 2 ^ (j - min i j).toNat = K
    have h2 : decide ((K : Int) < 0) = false := decide_eq_false (by omega)
    rw [h2]
    simp
    rfl
  · have e1 : two i = two ((i - min i j).toNat : Int) * two (min i j) := by rw [← two_add]; congr 1; omega
    have e2 : two j = two ((j - min i j).toNat : Int) * two (min i j) := by rw [← two_add]; congr 1; omega
    have e3 : ((m * 2 ^ (i - min i j).toNat + n * 2 ^ (j - min i j).toNat : Nat) : Rat) = (m : Rat) * two ((i - min i j).toNat : Int) + (n : Rat) * two ((j - min i j).toNat : Int) := by
      rw [two_nat, two_nat]; norm_cast
    rw [e3, e1, e2]
    generalize two ((i - min i j).toNat : Int) = p
    generalize two ((j - min i j).toNat : Int) = q
    generalize two (min i j) = r
    grind
theorem val_nonneg (m : Nat) (e : Int) : (0 : Rat) ≤ (m : Rat) * two e := Rat.mul_nonneg (natCast_nonneg m) (Rat.le_of_lt (two_pos e))
theorem leastP : FloatKind.f32.format.leastPlace = -149 := by decide
theorem dec_enc (s : Bool) (m : Nat) (e : Int) : (∃ m' e', FloatKind.decode .f32 (FloatKind.encode .f32 (.number s m e)) = .number s m' e') ∨ FloatKind.decode .f32 (FloatKind.encode .f32 (.number s m e)) = .infinity s := by
  have h0 : FloatKind.encode .f32 (.number s m e) = Ieee.single.word s (rungN m e) := nearest_word s m e
  have hle := rungN_le m e
  rw [h0, read_wordS s _ (by omega)]
  by_cases h1 : rungN m e < 8388608
  · rw [if_pos h1]; exact .inl ⟨_, _, rfl⟩
  · rw [if_neg h1]
    by_cases h2 : rungN m e < 2139095040
    · rw [if_pos h2]; exact .inl ⟨_, _, rfl⟩
    · rw [if_neg h2, if_pos (by omega)]; exact .inr rfl
theorem not_inf {x : Nat} {s : Bool} (h : isFin .f32 x = true) (hi : FloatKind.decode .f32 x = .infinity s) : False := by
  unfold isFin at h
  rw [hi] at h
  cases h
theorem n0_encode {m : Nat} {e : Int} (h : isFin .f32 (FloatKind.encode .f32 (.number false m e)) = true) : N0 (FloatKind.encode .f32 (.number false m e)) := by
  rcases dec_enc false m e with ⟨m', e', h1⟩ | h1
  · exact ⟨m', e', h1⟩
  · exact absurd h1 (fun h1 => not_inf h h1)
theorem nl_encode {m : Nat} {e C : Int} (hC : -149 ≤ C) (hv : two C ≤ (m : Rat) * two e) (h : isFin .f32 (FloatKind.encode .f32 (.number false m e)) = true) : Nl (FloatKind.encode .f32 (.number false m e)) C := by
  rcases encode_lb .f32 false m e C (by rw [leastP]; exact hC) hv with ⟨m', e', h1, h2⟩ | h1
  · exact ⟨m', e', h1, h2⟩
  · exact absurd h1 (fun h1 => not_inf h h1)
theorem n0_add {x y : Nat} (hx : N0 x) (hy : N0 y) (hf : isFin .f32 (fbin .add .f32 x y) = true) : N0 (fbin .add .f32 x y) := by
  obtain ⟨m, i, h1⟩ := hx
  obtain ⟨n, j, h2⟩ := hy
  obtain ⟨K, hK, _⟩ := add_dec h1 h2
  rw [hK] at hf ⊢
  exact n0_encode hf
theorem nl_add_l {x y : Nat} {C : Int} (hx : Nl x C) (hy : N0 y) (hC : -149 ≤ C) (hf : isFin .f32 (fbin .add .f32 x y) = true) : Nl (fbin .add .f32 x y) C := by
  obtain ⟨m, i, h1, hv⟩ := hx
  obtain ⟨n, j, h2⟩ := hy
  obtain ⟨K, hK, hv2⟩ := add_dec h1 h2
  rw [hK] at hf ⊢
  refine nl_encode hC ?_ hf
  rw [hv2]
  have := val_nonneg n j
  grind
theorem nl_add_r {x y : Nat} {C : Int} (hx : N0 x) (hy : Nl y C) (hC : -149 ≤ C) (hf : isFin .f32 (fbin .add .f32 x y) = true) : Nl (fbin .add .f32 x y) C := by
  obtain ⟨m, i, h1⟩ := hx
  obtain ⟨n, j, h2, hv⟩ := hy
  obtain ⟨K, hK, hv2⟩ := add_dec h1 h2
  rw [hK] at hf ⊢
  refine nl_encode hC ?_ hf
  rw [hv2]
  have := val_nonneg m i
  grind
theorem sq_dec {x : Nat} {s : Bool} {m : Nat} {e : Int} (h : FloatKind.decode .f32 x = .number s m e) : fbin .mul .f32 x x = FloatKind.encode .f32 (.number false (m * m) (e + e)) := by
  have h' : FloatKind.f32.format.read x = _ := h
  show (((FloatKind.f32.format.read x).product (FloatKind.f32.format.read x)).map FloatKind.f32.format.write).getD (qnan .f32) = _
  rw [h']
  simp only [Ieee.Datum.product, Bool.xor_self]
  rfl
theorem n0_sq {x : Nat} (hx : isFin .f32 x = true) (hf : isFin .f32 (fbin .mul .f32 x x) = true) : N0 (fbin .mul .f32 x x) := by
  obtain ⟨s, m, e, h⟩ := fin_decL hx
  rw [sq_dec h] at hf ⊢
  exact n0_encode hf
theorem nl_sq {x : Nat} {A : Int} (hx : Lb .f32 x A) (hA : -149 ≤ A + A) (hf : isFin .f32 (fbin .mul .f32 x x) = true) : Nl (fbin .mul .f32 x x) (A + A) := by
  obtain ⟨s, m, e, h, hv⟩ := hx
  rw [sq_dec h] at hf ⊢
  refine nl_encode hA ?_ hf
  rw [natCast_mul, two_add, two_add]
  have e1 : (m : Rat) * (m : Rat) * (two e * two e) = ((m : Rat) * two e) * ((m : Rat) * two e) := by grind
  rw [e1]
  have p := two_pos A
  have q1 := Rat.mul_le_mul_of_nonneg_right hv (Rat.le_of_lt p)
  have q2 := Rat.mul_le_mul_of_nonneg_left hv (val_nonneg m e)
  exact Rat.le_trans q1 q2
theorem rootFrom_ge (n r : Nat) (hr : r * r ≤ n) : ∀ (todo root : Nat), r < root + 2 ^ todo → r ≤ Ieee.Datum.rootFrom n todo root := by
  intro todo
  induction todo with
  | zero => intro root h; unfold Ieee.Datum.rootFrom; simp at h; omega
  | succ todo ih =>
    intro root h
    unfold Ieee.Datum.rootFrom
    dsimp only
    rw [Nat.shiftLeft_eq, Nat.one_mul]
    apply ih
    split
    · rw [Nat.pow_succ] at h; omega
    · rename_i hc
      rcases Nat.lt_or_ge r (root + 2 ^ todo) with h1 | h1
      · exact h1
      · exact absurd (Nat.le_trans (Nat.mul_le_mul h1 h1) hr) hc
theorem root_start {n r : Nat} (hr : r * r ≤ n) : r < 0 + 2 ^ (n.log2 / 2 + 1) := by
  rw [Nat.zero_add]
  rcases Nat.lt_or_ge r (2 ^ (n.log2 / 2 + 1)) with h1 | h1
  · exact h1
  · exfalso
    have h2 := Nat.mul_le_mul h1 h1
    rw [← Nat.pow_add] at h2
    have h3 : n < 2 ^ (n.log2 + 1) := Nat.lt_log2_self
    have h4 : 2 ^ (n.log2 + 1) ≤ 2 ^ (n.log2 / 2 + 1 + (n.log2 / 2 + 1)) := Nat.pow_le_pow_right (by omega) (by omega)
    omega
/-- The root of a number that is not less than two to an even power. -/
theorem lb_sqrt {x : Nat} {m : Nat} {i : Int} (hd : FloatKind.decode .f64 x = .number false m i) {H : Int} (hv : two (H + H) ≤ (m : Rat) * two i) (h0 : -1000 ≤ H) :
    (∃ m' e', FloatKind.decode .f64 (fsqrt x) = .number false m' e' ∧ two H ≤ (m' : Rat) * two e') ∨ FloatKind.decode .f64 (fsqrt x) = .infinity false := by
  have hm : m ≠ 0 := by
    rintro rfl
    have := two_pos (H + H)
    have h0 : ((0 : Nat) : Rat) = 0 := rfl
    rw [h0] at hv
    grind
  have hs' : Ieee.double.read x = _ := hd
  obtain ⟨more0, hm0⟩ : ∃ q, q = 2 * (Ieee.double.fractionBits + 2) - m.log2 := ⟨_, rfl⟩
  obtain ⟨more, hmo⟩ : ∃ q, q = more0 + ((i - more0) % 2).toNat := ⟨_, rfl⟩
  obtain ⟨wh, hw⟩ : ∃ q, q = Ieee.Datum.rootFrom (m <<< more) ((m <<< more).log2 / 2 + 1) 0 := ⟨_, rfl⟩
  have hval : fsqrt x = FloatKind.encode .f64 (.number false (2 * wh + (wh * wh != m <<< more).toNat) ((i - more) / 2 - 1)) := by
    simp only [fsqrt, Ieee.Format.sqrt, hs', Ieee.Datum.root, hm, if_false, Bool.false_eq_true, ← hm0, ← hmo, ← hw, Option.map_some, Option.getD_some]; rfl
  rw [hval]
  apply encode_lb .f64 false _ _ H (by show (-1074 : Int) ≤ H; omega)
  have hev : (i - more) / 2 + (i - more) / 2 = i - more := by omega
  obtain ⟨h, hh⟩ : ∃ h, h = (i - more) / 2 := ⟨_, rfl⟩
  rw [← hh] at hev ⊢
  have hn : m <<< more = m * 2 ^ more := Nat.shiftLeft_eq _ _
  have hn1 : 1 ≤ m * 2 ^ more := by have := Nat.two_pow_pos more; have := Nat.mul_le_mul (show 1 ≤ m by omega) (show 1 ≤ 2 ^ more by omega); omega
  have hge : ∀ r, r * r ≤ m * 2 ^ more → r ≤ wh := fun r hr => by
    rw [hw]
    rw [← hn] at hr
    exact rootFrom_ge _ _ hr _ _ (root_start hr)
  have hnv : (m : Rat) * two i = ((m * 2 ^ more : Nat) : Rat) * two (h + h) := by
    have e1 : two i = two (more : Int) * two (h + h) := by rw [← two_add]; congr 1; omega
    rw [e1, two_nat, natCast_mul, Rat.mul_assoc]
  rw [hnv] at hv
  have hfin : two H ≤ (wh : Rat) * two h := by
    by_cases hc : h ≤ H
    · have e2 : two H = two ((H - h).toNat : Int) * two h := by rw [← two_add]; congr 1; omega
      have e3 : two (H + H) = ((2 ^ (H - h).toNat * 2 ^ (H - h).toNat : Nat) : Rat) * two (h + h) := by
        rw [natCast_mul, ← two_nat, ← two_add, ← two_add]; congr 1; omega
      rw [e3] at hv
      have h5 := Rat.le_of_mul_le_mul_right hv (two_pos (h + h))
      have h6 : 2 ^ (H - h).toNat * 2 ^ (H - h).toNat ≤ m * 2 ^ more := by exact_mod_cast h5
      have h7 := hge _ h6
      rw [e2, two_nat]
      have : ((2 ^ (H - h).toNat : Nat) : Rat) ≤ (wh : Rat) := by exact_mod_cast h7
      exact Rat.mul_le_mul_of_nonneg_right this (Rat.le_of_lt (two_pos h))
    · have h7 := hge 1 (by omega)
      have h1 : (1 : Rat) ≤ (wh : Rat) := by exact_mod_cast h7
      have h2 := Rat.mul_le_mul_of_nonneg_right h1 (Rat.le_of_lt (two_pos h))
      have h3 := two_lt (show H < h by omega)
      rw [Rat.one_mul] at h2
      exact Rat.le_trans (Rat.le_of_lt h3) h2
  have hb : (2 * wh : Nat) ≤ 2 * wh + (wh * wh != m <<< more).toNat := Nat.le_add_right _ _
  generalize 2 * wh + (wh * wh != m <<< more).toNat = K at *
  have hK : 2 * (wh : Rat) ≤ (K : Rat) := by exact_mod_cast hb
  have e6 : two (h - 1) * 2 = two h := by
    have a2 : (2 : Rat) = two 1 := by decide +kernel
    rw [a2, ← two_add]; congr 1; omega
  have s1 := Rat.mul_le_mul_of_nonneg_right hK (Rat.le_of_lt (two_pos (h - 1)))
  have s2 : 2 * (wh : Rat) * two (h - 1) = (wh : Rat) * two h := by rw [← e6]; grind
  rw [s2] at s1
  exact Rat.le_trans hfin s1
theorem nl_root {S : Nat} {H : Int} (h : Nl S (H + H)) (hH : -149 ≤ H) : Nl (rootT S) H := by
  obtain ⟨m, e, hd, hv⟩ := h
  obtain ⟨m', e', hd', hv'⟩ := widen_val hd
  rw [← hv'] at hv
  have hc := convOk_root S
  unfold rootT
  rcases lb_sqrt hd' hv (by omega) with ⟨m2, e2, h2, hv2⟩ | h2
  · have hn : isNaN .f64 (fsqrt (fconv .f32 S .f64)) = false := by unfold isNaN; rw [h2]; rfl
    have he : fconv .f64 (fsqrt (fconv .f32 S .f64)) .f32 = FloatKind.encode .f32 (.number false m2 e2) := by
      unfold fconv at *
      rw [hn, if_neg (by simp), h2]
    rcases hc with hc | hc | hc
    · rw [hn] at hc; cases hc
    · rw [h2] at hc; cases hc
    · rw [h2] at hc
      rw [he]
      rcases encode_lb .f32 false m2 e2 H (by rw [leastP]; exact hH) hv2 with ⟨m3, e3, h3, hv3⟩ | h3
      · exact ⟨m3, e3, h3, hv3⟩
      · rw [h3] at hc; cases hc
  · exfalso
    have hn : isNaN .f32 S = false := by unfold isNaN; rw [hd]; rfl
    have hi : (FloatKind.decode .f32 S).isInfinity = false := by rw [hd]; rfl
    obtain ⟨s1, m1, e1, h1, hv1⟩ := bd_widen hn hi
    rw [hd'] at h1
    cases h1
    obtain ⟨_, _, _, h3, _⟩ := bd_sqrt (m := m') (i := e') (H := 64) (.inl hd') hv1 (by decide) (by decide)
    rw [h2] at h3
    cases h3
end Go.Proofs.Ytbblohjldkpcnab
