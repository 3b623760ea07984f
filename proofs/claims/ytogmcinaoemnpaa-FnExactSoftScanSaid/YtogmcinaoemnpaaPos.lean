
/- Numbers that are not negative, and bounds from below. -/
import Derived.Test.YtogmcinaoemnpaaNeg
namespace Go.Proofs.Ytogmcinaoemnpaa
open Go Go.RowKit

/-- x is a number with the sign +, no greater than two to the power of B. -/
def Pb (x : Nat) (B : Int) : Prop := ∃ m e, FloatKind.decode .f64 x = .number false m e ∧ (m : Rat) * two e ≤ two B
/-- .. and no less than two to the power of C. -/
def Pl (x : Nat) (B C : Int) : Prop := ∃ m e, FloatKind.decode .f64 x = .number false m e ∧ (m : Rat) * two e ≤ two B ∧ two C ≤ (m : Rat) * two e
theorem Pb.bd {x : Nat} {B : Int} (h : Pb x B) : Bd .f64 x B := by obtain ⟨m, e, h1, h2⟩ := h; exact ⟨_, m, e, h1, h2⟩
theorem Pl.pb {x : Nat} {B C : Int} (h : Pl x B C) : Pb x B := by obtain ⟨m, e, h1, h2, _⟩ := h; exact ⟨m, e, h1, h2⟩
theorem Pl.lb {x : Nat} {B C : Int} (h : Pl x B C) : Lb .f64 x C := by obtain ⟨m, e, h1, _, h2⟩ := h; exact ⟨_, m, e, h1, h2⟩
theorem Pb.mono {x : Nat} {B C : Int} (h : Pb x B) (hc : B ≤ C) : Pb x C := by obtain ⟨m, e, h1, h2⟩ := h; exact ⟨m, e, h1, Rat.le_trans h2 (two_mono hc)⟩
/-- What a number becomes: its sign stays, a bound above and one below. -/
theorem encode_both (s : Bool) (m : Nat) (e B : Int) (hv : (m : Rat) * two e ≤ two B) (hlo : -1074 ≤ B) (hhi : B ≤ 1022) :
    ∃ m' e', FloatKind.decode .f64 (FloatKind.encode .f64 (.number s m e)) = .number s m' e' ∧ (m' : Rat) * two e' ≤ two B ∧ (∀ C, -1074 ≤ C → two C ≤ (m : Rat) * two e → two C ≤ (m' : Rat) * two e') := by
  by_cases hm : m = 0
  · subst hm
    refine ⟨0, -1074, ?_, ?_, ?_⟩
    · have : FloatKind.encode .f64 (.number s 0 e) = Ieee.double.word s 0 := nearest_zero Ieee.double s e
      rw [this]
      cases s <;> decide +kernel
    · have := two_pos B
      have h0 : ((0 : Nat) : Rat) = 0 := rfl
      grind
    · intro C _ h
      have := two_pos C
      have h0 : ((0 : Nat) : Rat) = 0 := rfl
      grind
  · have h1 : Ieee.double.leastPlace = -1074 := by decide
    have e1 : (Ieee.double.fractionBits : Int) = 52 := rfl
    have e2 : ((2 ^ Ieee.double.exponentBits - 1 : Nat) : Int) = 2047 := by decide
    obtain ⟨m', e', hr, hv', hc⟩ := nearest_both Ieee.double s m e B hm hv (by omega) (by omega) (by decide)
    rw [h1] at hc
    exact ⟨m', e', hr, hv', hc.1⟩
theorem pb_mul {x y : Nat} {A B : Int} (hx : Pb x A) (hy : Pb y B) (hlo : -1074 ≤ A + B) (hhi : A + B ≤ 1022) : Pb (fbin .mul .f64 x y) (A + B) := by
  obtain ⟨m, i, h1, v1⟩ := hx
  obtain ⟨n, j, h2, v2⟩ := hy
  have hb : floatBits .mul .f64 x y = some (FloatKind.encode .f64 (.number false (m * n) (i + j))) := by
    have h1' : FloatKind.f64.format.read x = _ := h1
    have h2' : FloatKind.f64.format.read y = _ := h2
    simp [floatBits, Ieee.Format.mul, h1', h2', Ieee.Datum.product, FloatKind.encode]
  have hf : fbin .mul .f64 x y = FloatKind.encode .f64 (.number false (m * n) (i + j)) := by simp [fbin, hb]
  rw [hf]
  have hv : ((m * n : Nat) : Rat) * two (i + j) ≤ two (A + B) := by
    rw [natCast_mul, two_add, two_add]
    have e : (m : Rat) * (n : Rat) * (two i * two j) = ((m : Rat) * two i) * ((n : Rat) * two j) := by grind
    rw [e]
    have p1 : (0 : Rat) ≤ (n : Rat) * two j := Rat.mul_nonneg (natCast_nonneg n) (Rat.le_of_lt (two_pos j))
    exact Rat.le_trans (Rat.mul_le_mul_of_nonneg_right v1 p1) (Rat.mul_le_mul_of_nonneg_left v2 (Rat.le_of_lt (two_pos A)))
  obtain ⟨m', e', hd, h, _⟩ := encode_both false _ _ _ hv hlo hhi
  exact ⟨m', e', hd, h⟩
/-- A sum with a number that is at least two to the power of C. -/
theorem pl_add {x y : Nat} {A C : Int} (hx : Pl x A C) (hy : Pb y A) (hlo : -1074 ≤ A + 1) (hhi : A + 1 ≤ 1022) (hC : -1074 ≤ C) : Pl (fbin .add .f64 x y) (A + 1) C := by
  obtain ⟨m, i, h1, v1, w1⟩ := hx
  obtain ⟨n, j, h2, v2⟩ := hy
  have h1' : FloatKind.f64.format.read x = _ := h1
  have h2' : FloatKind.f64.format.read y = _ := h2
  obtain ⟨K, hK⟩ : ∃ K : Nat, K = m * 2 ^ (i - min i j).toNat + n * 2 ^ (j - min i j).toNat := ⟨_, rfl⟩
  have hs : Ieee.signed false m (i - min i j).toNat + Ieee.signed false n (j - min i j).toNat = (K : Int) := by
    simp only [Ieee.signed, Bool.false_eq_true, if_false, Nat.shiftLeft_eq]
    rw [hK]; norm_cast
  have hneg : (if (K : Int) = 0 then (false && false) else decide ((K : Int) < 0)) = false := by
    split
    · rfl
    · simp
  have hb : floatBits .add .f64 x y = some (FloatKind.encode .f64 (.number false K (min i j))) := by
    simp only [floatBits, Ieee.Format.add, h1', h2', Ieee.Datum.sum, hs, hneg, Option.map_some, Int.natAbs_natCast]; rfl
  have hf : fbin .add .f64 x y = FloatKind.encode .f64 (.number false K (min i j)) := by simp [fbin, hb]
  rw [hf]
  have e1 : two i = two ((i - min i j).toNat : Int) * two (min i j) := by rw [← two_add]; congr 1; omega
  have e2 : two j = two ((j - min i j).toNat : Int) * two (min i j) := by rw [← two_add]; congr 1; omega
  have hKr : (K : Rat) * two (min i j) = (m : Rat) * two i + (n : Rat) * two j := by
    have : (K : Rat) = (m : Rat) * two ((i - min i j).toNat : Int) + (n : Rat) * two ((j - min i j).toNat : Int) := by
      rw [two_nat, two_nat, ← natCast_mul, ← natCast_mul, hK]; norm_cast
    rw [this, e1, e2]
    generalize two ((i - min i j).toNat : Int) = p
    generalize two ((j - min i j).toNat : Int) = q
    generalize two (min i j) = r
    grind
  have e3 : two (A + 1) = two A + two A := by
    rw [two_add]; have : two 1 = 2 := by decide +kernel
    rw [this]; grind
  have hn := Rat.mul_nonneg (natCast_nonneg n) (Rat.le_of_lt (two_pos j))
  have hv : (K : Rat) * two (min i j) ≤ two (A + 1) := by rw [hKr, e3]; grind
  obtain ⟨m', e', hd, h, hc⟩ := encode_both false _ _ _ hv hlo hhi
  refine ⟨m', e', hd, h, hc C hC ?_⟩
  rw [hKr]; grind
end Go.Proofs.Ytogmcinaoemnpaa
