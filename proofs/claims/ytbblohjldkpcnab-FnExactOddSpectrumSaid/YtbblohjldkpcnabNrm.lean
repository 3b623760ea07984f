/- A list divided by the root of the sum of its squares: each number is at most 4, and sums of products of two such lists are finite. -/
import Derived.Test.YtbblohjldkpcnabLbd
import Derived.Test.YtbblohjldkpcnabNf
import Derived.Test.YtbblohjldkpcnabS7
import Derived.Test.YtbblohjldkpcnabPush
namespace Go.Proofs.Ytbblohjldkpcnab
open Go Go.RowKit

theorem fin_add {x y : Nat} (h : isFin .f32 (fbin .add .f32 x y) = true) : isFin .f32 x = true ∧ isFin .f32 y = true := by
  constructor
  · cases hx : isFin .f32 x
    · rw [nf_add_l hx] at h; cases h
    · rfl
  · cases hy : isFin .f32 y
    · rw [nf_add_r hy] at h; cases h
    · rfl
theorem fin_sq {x : Nat} (h : isFin .f32 (fbin .mul .f32 x x) = true) : isFin .f32 x = true := by
  cases hx : isFin .f32 x
  · rw [nf_sq hx] at h; cases h
  · rfl
theorem n0_dot (X : Nat → Nat) : ∀ n, isFin .f32 (dotW X X n) = true → N0 (dotW X X n) := by
  intro n
  induction n with
  | zero => intro _; exact ⟨0, -149, by show FloatKind.decode .f32 0 = _; decide +kernel⟩
  | succ n ih =>
    intro h
    have h1 := fin_add h
    exact n0_add (ih h1.1) (n0_sq (fin_sq h1.2) h1.2) h
theorem nl_dot {X : Nat → Nat} {j : Nat} {A : Int} (hx : Lb .f32 (X j) A) (hA : -149 ≤ A + A) : ∀ n, j < n → isFin .f32 (dotW X X n) = true → Nl (dotW X X n) (A + A) := by
  intro n
  induction n with
  | zero => intro h; omega
  | succ n ih =>
    intro hj h
    have h1 := fin_add h
    by_cases hjn : j = n
    · subst hjn
      exact nl_add_r (n0_dot X _ h1.1) (nl_sq hx hA h1.2) hA h
    · exact nl_add_l (ih (by omega) h1.1) (n0_sq (fin_sq h1.2) h1.2) hA h
theorem one_le {m : Nat} (hm : m ≠ 0) (e : Int) : two e ≤ (m : Rat) * two e := by
  have h1 : (1 : Rat) ≤ (m : Rat) := by exact_mod_cast (by omega : 1 ≤ m)
  have := Rat.mul_le_mul_of_nonneg_right h1 (Rat.le_of_lt (two_pos e))
  rw [Rat.one_mul] at this
  exact this
theorem isP_decN {x : Nat} (h : isP x = true) : ∃ m e, FloatKind.decode .f32 x = .number false m e ∧ m ≠ 0 := by
  unfold isP at h
  rw [Bool.and_eq_true] at h
  obtain ⟨s, m, e, hd⟩ := fin_decL h.1
  have hd' : FloatKind.f32.format.read x = _ := hd
  have h0 : FloatKind.f32.format.read 0 = .number false 0 (-149) := by decide +kernel
  have h2 := h.2
  unfold Ieee.Format.order at h2
  rw [hd', h0] at h2
  by_cases hm : m = 0
  · subst hm
    exfalso
    cases s <;> simp [Ieee.Datum.order, Ieee.signed] at h2
  · cases s
    · exact ⟨m, e, hd, hm⟩
    · exfalso
      simp only [Ieee.Datum.order, Ieee.signed, if_true, Bool.false_eq_true, if_false, Nat.zero_shiftLeft] at h2
      have : 0 < m <<< (e - min e (-149)).toNat := by
        rw [Nat.shiftLeft_eq]
        exact Nat.mul_pos (by omega) (Nat.two_pow_pos _)
      generalize m <<< (e - min e (-149)).toNat = K at *
      have hc : compare (-(K : Int)) ((0 : Nat) : Int) = .lt := by
        rw [Int.compare_eq_lt]; omega
      rw [hc] at h2
      cases h2
/-- A number of a list, divided by the root of the sum of the squares. -/
theorem norm_bd {X : Nat → Nat} {n j : Nat} (hp : isP (dotW X X n) = true) (hj : j < n) (hx : isFin .f32 (X j) = true) : Bd .f32 (fbin .quo .f32 (X j) (rootT (dotW X X n))) 2 := by
  have hf : isFin .f32 (dotW X X n) = true := by unfold isP at hp; rw [Bool.and_eq_true] at hp; exact hp.1
  obtain ⟨s, m, e, hd⟩ := fin_decL hx
  have small : Bd .f32 (X j) (-74) → Bd .f32 (fbin .quo .f32 (X j) (rootT (dotW X X n))) 2 := fun hb => by
    obtain ⟨M, E, hD, hM⟩ := isP_decN hp
    obtain ⟨_, hE, _⟩ := read_single _ _ _ _ hD
    have h1 : Nl (dotW X X n) (-75 + -75) := ⟨M, E, hD, Rat.le_trans (two_mono (by omega)) (one_le hM E)⟩
    obtain ⟨a, b, h2, hv2⟩ := nl_root h1 (by decide)
    exact bd_quo (A := -74) (C := -75) hb ⟨_, a, b, h2, hv2⟩ (by decide) (by decide)
  by_cases hm : m = 0
  · subst hm
    refine small ⟨s, 0, e, hd, ?_⟩
    have := two_pos (-74)
    have h0 : ((0 : Nat) : Rat) = 0 := rfl
    rw [h0, Rat.zero_mul]
    exact Rat.le_of_lt this
  · have hlo : two (e + m.log2) ≤ (m : Rat) * two e := by
      rw [Int.add_comm, two_add]
      exact Rat.mul_le_mul_of_nonneg_right (two_le_mul hm) (Rat.le_of_lt (two_pos e))
    have hhi : (m : Rat) * two e ≤ two (e + m.log2 + 1) := by
      have h1 := Rat.mul_lt_mul_of_pos_right (mul_lt_two m) (two_pos e)
      rw [← two_add] at h1
      have e1 : (m.log2 : Int) + 1 + e = e + m.log2 + 1 := by omega
      rw [e1] at h1
      exact Rat.le_of_lt h1
    obtain ⟨k, hk⟩ : ∃ k : Int, k = e + m.log2 := ⟨_, rfl⟩
    rw [← hk] at hlo hhi
    by_cases hc : -74 ≤ k
    · have h1 := nl_dot (X := X) (j := j) (A := k) ⟨s, m, e, hd, hlo⟩ (by omega) n hj hf
      obtain ⟨a, b, h2, hv2⟩ := nl_root h1 (by omega)
      have e9 : k + 1 - k + 1 = 2 := by omega
      have h3 := bd_quo (A := k + 1) (C := k) ⟨s, m, e, hd, hhi⟩ ⟨_, a, b, h2, hv2⟩ (by rw [e9]; decide) (by rw [e9]; decide)
      rw [e9] at h3
      exact h3
    · exact small ⟨s, m, e, hd, Rat.le_trans hhi (two_mono (by omega))⟩
theorem bd_finN {x : Nat} {B : Int} (h : Bd .f32 x B) : isFin .f32 x = true := by
  obtain ⟨s, m, e, h, _⟩ := h
  exact dec_finL h
/-- At most k times two to the power of 4. -/
def Bk (x k : Nat) : Prop := ∃ s m e, FloatKind.decode .f32 x = .number s m e ∧ (m : Rat) * two e ≤ (k : Rat) * two 4
theorem bk_add {x y k : Nat} (hk : k ≤ 1000) (hx : Bk x k) (hy : Bd .f32 y 4) : Bk (fbin .add .f32 x y) (k + 1) := by
  obtain ⟨s, m, i, h1, v1⟩ := hx
  obtain ⟨t, n, j, h2, v2⟩ := hy
  have h1' : FloatKind.f32.format.read x = _ := h1
  have h2' : FloatKind.f32.format.read y = _ := h2
  have hs := signed_abs s m (i - min i j).toNat t n (j - min i j).toNat
  obtain ⟨S, hS⟩ : ∃ S, S = Ieee.signed s m (i - min i j).toNat + Ieee.signed t n (j - min i j).toNat := ⟨_, rfl⟩
  have hb : ∃ sg, fbin .add .f32 x y = FloatKind.encode .f32 (.number sg S.natAbs (min i j)) := by
    refine ⟨if S = 0 then s && t else decide (S < 0), ?_⟩
    show (((FloatKind.f32.format.read x).sum (FloatKind.f32.format.read y)).map FloatKind.f32.format.write).getD (qnan .f32) = _
    rw [h1', h2']
    simp only [Ieee.Datum.sum, ← hS, Option.map_some, Option.getD_some]
    rfl
  obtain ⟨sg, hb⟩ := hb
  rw [hb]
  rw [← hS] at hs
  generalize S.natAbs = K at *
  have hval : (K : Rat) * two (min i j) ≤ ((k + 1 : Nat) : Rat) * two 4 := by
    have h1 : (K : Rat) ≤ (m : Rat) * two ((i - min i j).toNat : Int) + (n : Rat) * two ((j - min i j).toNat : Int) := by
      rw [two_nat, two_nat, ← natCast_mul, ← natCast_mul]
      have : (K : Rat) ≤ ((m * 2 ^ (i - min i j).toNat + n * 2 ^ (j - min i j).toNat : Nat) : Rat) := by exact_mod_cast hs
      have e : ((m * 2 ^ (i - min i j).toNat + n * 2 ^ (j - min i j).toNat : Nat) : Rat) = ((m * 2 ^ (i - min i j).toNat : Nat) : Rat) + ((n * 2 ^ (j - min i j).toNat : Nat) : Rat) := by norm_cast
      rw [← e]; exact this
    have e1 : two i = two ((i - min i j).toNat : Int) * two (min i j) := by rw [← two_add]; congr 1; omega
    have e2 : two j = two ((j - min i j).toNat : Int) * two (min i j) := by rw [← two_add]; congr 1; omega
    rw [e1] at v1
    rw [e2] at v2
    have h2 := Rat.mul_le_mul_of_nonneg_right h1 (Rat.le_of_lt (two_pos (min i j)))
    have e3 : ((k + 1 : Nat) : Rat) = (k : Rat) + 1 := by norm_cast
    rw [e3]
    grind
  by_cases hK : K = 0
  · subst hK
    have e0 : FloatKind.encode .f32 (.number sg 0 (min i j)) = FloatKind.f32.format.word sg 0 := nearest_zero FloatKind.f32.format sg (min i j)
    refine ⟨sg, 0, -149, by rw [e0]; cases sg <;> decide +kernel, ?_⟩
    have h0 : ((0 : Nat) : Rat) = 0 := rfl
    rw [h0, Rat.zero_mul]
    exact val_nonneg _ _
  · have hB : (K : Rat) * two (min i j) ≤ two 14 := by
      refine Rat.le_trans hval ?_
      have h1 : ((k + 1 : Nat) : Rat) ≤ ((2 ^ 10 : Nat) : Rat) := by exact_mod_cast (by omega : k + 1 ≤ 2 ^ 10)
      have h2 := Rat.mul_le_mul_of_nonneg_right h1 (Rat.le_of_lt (two_pos 4))
      rw [← two_nat, ← two_add] at h2
      exact h2
    obtain ⟨m', e', hr, _, _, h4⟩ := nearest_both FloatKind.f32.format sg K (min i j) 14 hK hB (by decide) (by decide) (by decide)
    exact ⟨sg, m', e', hr, h4 (k + 1) 4 (by decide) (by show k + 1 < 2 ^ (23 + 1); omega) hval⟩
theorem dot_bk {x y : Nat → Nat} : ∀ n, n ≤ 1000 → (∀ j, j < n → Bd .f32 (x j) 2 ∧ Bd .f32 (y j) 2) → Bk (dotW x y n) n := by
  intro n
  induction n with
  | zero =>
    intro _ _
    refine ⟨false, 0, -149, by show FloatKind.decode .f32 0 = _; decide +kernel, ?_⟩
    have h0 : ((0 : Nat) : Rat) = 0 := rfl
    rw [h0, Rat.zero_mul, Rat.zero_mul]
    exact Rat.le_refl
  | succ n ih =>
    intro hn h
    have h1 := h n (by omega)
    exact bk_add (by omega) (ih (by omega) (fun j hj => h j (by omega))) (bd_mul (A := 2) (B := 2) h1.1 h1.2 (by decide) (by decide))
theorem bk_fin {x k : Nat} (h : Bk x k) : isFin .f32 x = true := by
  obtain ⟨s, m, e, h, _⟩ := h
  exact dec_finL h
end Go.Proofs.Ytbblohjldkpcnab
