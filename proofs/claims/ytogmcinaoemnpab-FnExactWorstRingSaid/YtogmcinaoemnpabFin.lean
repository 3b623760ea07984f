
/- Finite numbers: what is taken from itself is zero; the absolute value is at most the greatest finite number. -/
import Derived.Test.YtogmcinaoemnpabFlWiden
namespace Go.Proofs.Ytogmcinaoemnpab
open Go Go.RowKit

def isFin (k : FloatKind) (b : Nat) : Bool := !(k.decode b).isNaN && !(k.decode b).isInfinity
theorem isFin_cases (k : FloatKind) (b : Nat) : (isNaN k b = true) ∨ (∃ s, k.format.read b = .infinity s) ∨ (∃ s m e, k.format.read b = .number s m e) := by
  cases h : k.format.read b with
  | nan s t => exact .inl (by simp [isNaN, FloatKind.decode, h, Ieee.Datum.isNaN])
  | infinity s => exact .inr (.inl ⟨s, rfl⟩)
  | number s m e => exact .inr (.inr ⟨s, m, e, rfl⟩)
theorem sub_self (k : FloatKind) (x : Nat) : (k.format.order (fbin .sub k x x) 0 == some .eq) = isFin k x := by
  rcases isFin_cases k x with h | ⟨s, h⟩ | ⟨s, m, e, h⟩
  · have : fbin .sub k x x = qnan k := by simp [fbin, floatBits_left h]
    rw [this, order_left (isNaN_qnan k)]
    have h' : (k.decode x).isNaN = true := h
    simp [isFin, h']
  · have hb : floatBits .sub k x x = none := by
      cases s <;> simp [floatBits, Ieee.Format.sub, h, Ieee.Datum.opposite, Ieee.Datum.sum]
    have : fbin .sub k x x = qnan k := by simp [fbin, hb]
    rw [this, order_left (isNaN_qnan k)]
    simp [isFin, FloatKind.decode, h, Ieee.Datum.isInfinity]
  · have hz : k.format.write (.number false 0 e) = 0 := by
      cases k <;> simp [Ieee.Format.write, nearest_zero, Ieee.Format.word]
    have hb : floatBits .sub k x x = some 0 := by
      have : Ieee.signed s m 0 + Ieee.signed (!s) m 0 = 0 := by cases s <;> simp [Ieee.signed] <;> omega
      simp [floatBits, Ieee.Format.sub, h, Ieee.Datum.opposite, Ieee.Datum.sum, this, hz]
    have : fbin .sub k x x = 0 := by simp [fbin, hb]
    rw [this]
    have ho : k.format.order 0 0 = some .eq := by cases k <;> decide +kernel
    rw [ho]
    simp [isFin, FloatKind.decode, h, Ieee.Datum.isNaN, Ieee.Datum.isInfinity]
/-- The sign struck. -/
def absw (x : Nat) : Nat := x % 9223372036854775808
theorem read_abs (x : Nat) : Ieee.double.read (absw x) = (match Ieee.double.read x with | .number _ m e => .number false m e | .infinity _ => .infinity false | .nan _ t => .nan false t) := by
  have hsw : Ieee.double.signWeight = 9223372036854775808 := rfl
  have h1 : absw x % 9223372036854775808 = x % 9223372036854775808 := Nat.mod_mod _ _
  have h2 : absw x / 9223372036854775808 % 2 = 0 := by unfold absw; omega
  unfold Ieee.Format.read
  rw [hsw, h1, h2]
  dsimp only
  by_cases c1 : x % 9223372036854775808 < Ieee.double.binade
  · rw [if_pos c1, if_pos c1]; rfl
  · rw [if_neg c1, if_neg c1]
    by_cases c2 : x % 9223372036854775808 < Ieee.double.infRung
    · rw [if_pos c2, if_pos c2]; rfl
    · rw [if_neg c2, if_neg c2]
      by_cases c3 : x % 9223372036854775808 = Ieee.double.infRung
      · rw [if_pos c3, if_pos c3]; rfl
      · rw [if_neg c3, if_neg c3]; rfl
theorem read_double (b : Nat) (s : Bool) (m : Nat) (e : Int) (h : Ieee.double.read b = .number s m e) : m < 9007199254740992 ∧ -1074 ≤ e ∧ e ≤ 971 := by
  have hsw : Ieee.double.signWeight = 9223372036854775808 := rfl
  have hbin : Ieee.double.binade = 4503599627370496 := rfl
  have hinf : Ieee.double.infRung = 9218868437227405312 := rfl
  have hlp : Ieee.double.leastPlace = -1074 := by decide
  unfold Ieee.Format.read at h
  rw [hsw, hbin, hinf, hlp] at h
  dsimp only at h
  have hlt : b % 9223372036854775808 < 9223372036854775808 := Nat.mod_lt _ (by omega)
  generalize b % 9223372036854775808 = r at *
  split at h
  · injection h with h1 h2 h3; omega
  · split at h
    · injection h with h1 h2 h3
      have : r % 4503599627370496 < 4503599627370496 := Nat.mod_lt _ (by omega)
      have : r / 4503599627370496 < 2047 := by omega
      omega
    · split at h <;> cases h
theorem read_maxfin : Ieee.double.read 9218868437227405311 = .number false 9007199254740991 971 := by decide +kernel
theorem order_abs_max (x : Nat) : (FloatKind.f64.format.order (absw x) 9218868437227405311 == some .gt) = (Ieee.double.read x).isInfinity := by
  show ((Ieee.double.read (absw x)).order (Ieee.double.read 9218868437227405311) == some .gt) = _
  rw [read_abs, read_maxfin]
  cases h : Ieee.double.read x with
  | nan => rfl
  | infinity s => rfl
  | number s m e =>
    obtain ⟨hm, hlo, hhi⟩ := read_double x s m e h
    have hmin : min e 971 = e := by omega
    simp only [Ieee.Datum.order, Ieee.Datum.isInfinity, hmin, Int.sub_self, Int.toNat_zero, Ieee.signed, Nat.shiftLeft_zero]
    have h1 : 1 ≤ 2 ^ (971 - e).toNat := Nat.one_le_two_pow
    have h2 : m ≤ 9007199254740991 <<< (971 - e).toNat := by
      rw [Nat.shiftLeft_eq]
      have := Nat.mul_le_mul_left 9007199254740991 h1
      omega
    generalize 9007199254740991 <<< (971 - e).toNat = K at *
    have : compare (m : Int) (K : Int) ≠ .gt := by
      rw [Ne, Int.compare_eq_gt]
      omega
    simp [this]
end Go.Proofs.Ytogmcinaoemnpab
