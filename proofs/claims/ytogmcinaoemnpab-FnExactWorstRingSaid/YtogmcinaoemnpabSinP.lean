
/- The sine of turns as a function of words, and that it is a number that a float32 can hold. -/
import Derived.Test.YtogmcinaoemnpabBd
import Derived.Test.YtogmcinaoemnpabFin
namespace Go.Proofs.Ytogmcinaoemnpab
open Go Go.RowKit

def sval (s : Bool) (m : Nat) (e : Int) : Rat := (if s then -(m : Rat) else (m : Rat)) * two e
theorem signed_val (s : Bool) (m : Nat) (e base : Int) (h : base ≤ e) : ((Ieee.signed s m (e - base).toNat : Int) : Rat) * two base = sval s m e := by
  have e1 : two e = two ((e - base).toNat : Int) * two base := by rw [← two_add]; congr 1; omega
  unfold sval Ieee.signed
  rw [e1, Nat.shiftLeft_eq, two_nat]
  cases s
  · simp only [Bool.false_eq_true, if_false]
    have : (((m * 2 ^ (e - base).toNat : Nat) : Int) : Rat) = (m : Rat) * ((2 ^ (e - base).toNat : Nat) : Rat) := by norm_cast
    rw [this]; grind
  · simp only [if_true]
    have : ((-((m * 2 ^ (e - base).toNat : Nat) : Int) : Int) : Rat) = -((m : Rat) * ((2 ^ (e - base).toNat : Nat) : Rat)) := by norm_cast
    rw [this]; grind
theorem rat_mul_lt {a b : Int} {c : Rat} (hc : 0 < c) : ((a : Rat) * c < (b : Rat) * c) ↔ a < b := by
  rw [Rat.mul_lt_mul_right hc]; norm_cast
/-- How two numbers stand to each other. -/
theorem order_val {k : FloatKind} {x y : Nat} {s t : Bool} {m n : Nat} {i j : Int} (hx : k.decode x = .number s m i) (hy : k.decode y = .number t n j) :
    (sval s m i < sval t n j → k.format.order x y = some .lt) ∧ (sval s m i = sval t n j → k.format.order x y = some .eq) ∧ (sval t n j < sval s m i → k.format.order x y = some .gt) := by
  have hx' : k.format.read x = _ := hx
  have hy' : k.format.read y = _ := hy
  unfold Ieee.Format.order
  rw [hx', hy']
  simp only [Ieee.Datum.order]
  have v1 := signed_val s m i (min i j) (by omega)
  have v2 := signed_val t n j (min i j) (by omega)
  generalize Ieee.signed s m (i - min i j).toNat = a at *
  generalize Ieee.signed t n (j - min i j).toNat = b at *
  rw [← v1, ← v2]
  have hp := two_pos (min i j)
  refine ⟨fun h => ?_, fun h => ?_, fun h => ?_⟩
  · rw [rat_mul_lt hp] at h; rw [Int.compare_eq_lt.2 h]
  · have h1 : ¬ a < b := fun hc => by have := (rat_mul_lt hp).2 hc; grind
    have h2 : ¬ b < a := fun hc => by have := (rat_mul_lt hp).2 hc; grind
    rw [Int.compare_eq_eq.2 (by omega)]
  · rw [rat_mul_lt hp] at h; rw [Int.compare_eq_gt.2 h]
theorem sval_abs (s : Bool) (m : Nat) (e : Int) (B : Rat) : ((m : Rat) * two e ≤ B) ↔ (-B ≤ sval s m e ∧ sval s m e ≤ B) := by
  have h := natCast_nonneg m
  have h2 := Rat.mul_nonneg h (Rat.le_of_lt (two_pos e))
  unfold sval
  cases s
  · simp only [Bool.false_eq_true, if_false]; grind
  · simp only [if_true]; grind
theorem sval_abs_lt (s : Bool) (m : Nat) (e : Int) (B : Rat) : ((m : Rat) * two e < B) ↔ (-B < sval s m e ∧ sval s m e < B) := by
  have h := natCast_nonneg m
  have h2 := Rat.mul_nonneg h (Rat.le_of_lt (two_pos e))
  unfold sval
  cases s
  · simp only [Bool.false_eq_true, if_false]; grind
  · simp only [if_true]; grind
/-- A sum whose exact value is small is small. -/
theorem bd_sum_exact {k : FloatKind} {s t : Bool} {m n : Nat} {i j B : Int} {r : Nat} (h1 : -two B ≤ sval s m i + sval t n j) (h2 : sval s m i + sval t n j ≤ two B) (hlo : lowE k ≤ B) (hhi : B ≤ topE k)
    (h : ((Ieee.Datum.number s m i).sum (.number t n j)).map k.format.write = some r) : Bd k r B := by
  simp only [Ieee.Datum.sum, Option.map_some, Option.some.injEq] at h
  subst h
  refine encode_bd k _ _ _ _ ?_ hlo hhi
  have v1 := signed_val s m i (min i j) (by omega)
  have v2 := signed_val t n j (min i j) (by omega)
  generalize Ieee.signed s m (i - min i j).toNat = a at *
  generalize Ieee.signed t n (j - min i j).toNat = b at *
  have hs : (((a + b : Int)) : Rat) * two (min i j) = sval s m i + sval t n j := by
    rw [← v1, ← v2]
    have : ((a + b : Int) : Rat) = (a : Rat) + (b : Rat) := by norm_cast
    rw [this]; grind
  rw [← hs] at h1 h2
  by_cases hc : 0 ≤ a + b
  · have e : (((a + b).natAbs : Nat) : Rat) = ((a + b : Int) : Rat) := by
      have : (((a + b).natAbs : Nat) : Int) = a + b := by omega
      rw [← Rat.intCast_natCast, this]
    rw [e]; exact h2
  · have e : (((a + b).natAbs : Nat) : Rat) = -((a + b : Int) : Rat) := by
      have : (((a + b).natAbs : Nat) : Int) = -(a + b) := by omega
      rw [← Rat.intCast_natCast, this]; norm_cast
    rw [e]; grind
theorem signed_at_zero (s : Bool) (m : Nat) : Ieee.signed s m 0 = if s then -(m : Int) else m := by cases s <;> simp [Ieee.signed]
def ipart (Y : Nat) : Int := ((FloatKind.decode .f64 Y).toInt .zero).getD 0
theorem zcut (s : Bool) (n d : Nat) : Ieee.Toward.zero.cut s n d = n / 2 ^ d := by
  unfold Ieee.Toward.cut
  dsimp only
  by_cases h : d ≤ n.log2 + 2
  · rw [Nat.min_eq_left h, Nat.shiftLeft_eq, Nat.one_mul]; rfl
  · rw [Nat.min_eq_right (by omega), Nat.shiftLeft_eq, Nat.one_mul]
    have hlt : n < 2 ^ (n.log2 + 1) := Nat.lt_log2_self
    have h1 : 2 ^ (n.log2 + 1) ≤ 2 ^ (n.log2 + 2) := Nat.pow_le_pow_right (by omega) (by omega)
    have h2 : 2 ^ (n.log2 + 1) ≤ 2 ^ d := Nat.pow_le_pow_right (by omega) (by omega)
    rw [Nat.div_eq_of_lt (by omega), Nat.div_eq_of_lt (by omega)]; rfl
/-- The whole part of a number that is less than two to the power of 52, cut towards zero: within its range, and how far the number is from it. -/
theorem ipart_val {Y : Nat} {s : Bool} {m : Nat} {e : Int} (hd : FloatKind.decode .f64 Y = .number s m e) (hlt : (m : Rat) * two e < two 52) :
    floatToIntVal .f64 Y .i64 = some (ipart Y) ∧ ∃ q : Nat, q < 4503599627370496 ∧ ipart Y = (if s then -(q : Int) else q) ∧ (q : Rat) ≤ (m : Rat) * two e ∧ (m : Rat) * two e < (q : Rat) + 1 := by
  have hi : (FloatKind.decode .f64 Y).toInt .zero = some (Ieee.signed s (Ieee.Toward.zero.cut s (m <<< e.toNat) (-e).toNat) 0) := by
    rw [hd]; rfl
  rw [zcut] at hi
  obtain ⟨q, hq⟩ : ∃ q, q = (m <<< e.toNat) / 2 ^ (-e).toNat := ⟨_, rfl⟩
  rw [← hq, signed_at_zero] at hi
  have e0 : two e * two ((-e).toNat : Int) = two (e.toNat : Int) := by rw [← two_add]; congr 1; omega
  have pd := two_pos ((-e).toNat : Int)
  have hq1 : q * 2 ^ (-e).toNat ≤ m * 2 ^ e.toNat := by rw [hq, Nat.shiftLeft_eq]; exact Nat.div_mul_le_self _ _
  have hq2 : m * 2 ^ e.toNat < (q + 1) * 2 ^ (-e).toNat := by
    rw [hq, Nat.shiftLeft_eq, Nat.add_mul, Nat.one_mul]
    have := Nat.div_add_mod (m * 2 ^ e.toNat) (2 ^ (-e).toNat)
    have h3 := Nat.mod_lt (m * 2 ^ e.toNat) (Nat.two_pow_pos (-e).toNat)
    rw [Nat.mul_comm] at this
    omega
  have r1 : (q : Rat) * two ((-e).toNat : Int) ≤ (m : Rat) * two e * two ((-e).toNat : Int) := by
    rw [Rat.mul_assoc, e0, two_nat, two_nat]; exact_mod_cast hq1
  have r2 : (m : Rat) * two e * two ((-e).toNat : Int) < ((q : Rat) + 1) * two ((-e).toNat : Int) := by
    rw [Rat.mul_assoc, e0, two_nat, two_nat]; exact_mod_cast hq2
  have r1' := Rat.le_of_mul_le_mul_right r1 pd
  have r2' := Rat.lt_of_mul_lt_mul_right r2 (Rat.le_of_lt pd)
  have hq52 : q < 4503599627370496 := by
    have h52 : two 52 = ((4503599627370496 : Nat) : Rat) := by
      have : (52 : Int) = ((52 : Nat) : Int) := rfl
      rw [this, two_nat]
    rw [h52] at hlt
    have : (q : Rat) < ((4503599627370496 : Nat) : Rat) := by grind
    exact_mod_cast this
  have hip : ipart Y = (if s then -(q : Int) else q) := by unfold ipart; rw [hi]; rfl
  refine ⟨?_, q, hq52, hip, r1', r2'⟩
  unfold floatToIntVal
  rw [hi]
  dsimp only
  have hmin : IntKind.i64.min = -9223372036854775808 := rfl
  have hmax : IntKind.i64.max = 9223372036854775807 := rfl
  rw [hmin, hmax, if_pos (by cases s <;> simp only [Bool.false_eq_true, if_false, if_true] <;> omega), hip]
end Go.Proofs.Ytogmcinaoemnpab
