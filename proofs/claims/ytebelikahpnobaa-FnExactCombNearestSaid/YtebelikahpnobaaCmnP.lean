/- The nearest tooth of a comb: the greatest integer that is not above a number, as the program reckons it and as the model does. -/
import Derived.Test.YtebelikahpnobaaSinQ
import Derived.Test.YtebelikahpnobaaAbsW
namespace Go.Proofs.Ytebelikahpnobaa
open Go Go.RowKit

theorem cut_down (s : Bool) (n d : Nat) : Ieee.Toward.down.cut s n d = n / 2 ^ d + if s = true ∧ n % 2 ^ d ≠ 0 then 1 else 0 := by
  have key : ∀ r : Nat, (s && r != 0).toNat = if s = true ∧ r ≠ 0 then 1 else 0 := by intro r; cases s <;> by_cases h : r = 0 <;> simp [h]
  unfold Ieee.Toward.cut
  dsimp only
  rw [key]
  by_cases h : d ≤ n.log2 + 2
  · rw [Nat.min_eq_left h, Nat.shiftLeft_eq, Nat.one_mul]
  · rw [Nat.min_eq_right (by omega), Nat.shiftLeft_eq, Nat.one_mul]
    have hlt : n < 2 ^ (n.log2 + 1) := Nat.lt_log2_self
    have h1 : 2 ^ (n.log2 + 1) ≤ 2 ^ (n.log2 + 2) := Nat.pow_le_pow_right (by omega) (by omega)
    have h2 : 2 ^ (n.log2 + 1) ≤ 2 ^ d := Nat.pow_le_pow_right (by omega) (by omega)
    rw [Nat.div_eq_of_lt (by omega), Nat.div_eq_of_lt (by omega), Nat.mod_eq_of_lt (by omega), Nat.mod_eq_of_lt (by omega)]
/-- The whole part of a number, and what is left over. -/
def fq (m : Nat) (e : Int) : Nat := (m <<< e.toNat) / 2 ^ (-e).toNat
def fz (m : Nat) (e : Int) : Nat := (m <<< e.toNat) % 2 ^ (-e).toNat
theorem fq_val (m : Nat) (e : Int) : (fq m e : Rat) ≤ (m : Rat) * two e ∧ (m : Rat) * two e < (fq m e : Rat) + 1 ∧ (fz m e = 0 ↔ (m : Rat) * two e = (fq m e : Rat)) := by
  obtain ⟨q, hq⟩ : ∃ q, q = fq m e := ⟨_, rfl⟩
  obtain ⟨r, hr⟩ : ∃ r, r = fz m e := ⟨_, rfl⟩
  rw [← hq, ← hr]
  unfold fq at hq
  unfold fz at hr
  have e0 : two e * two ((-e).toNat : Int) = two (e.toNat : Int) := by rw [← two_add]; congr 1; omega
  have pd := two_pos ((-e).toNat : Int)
  have hm : m * 2 ^ e.toNat = q * 2 ^ (-e).toNat + r := by
    rw [hq, hr, Nat.shiftLeft_eq, Nat.mul_comm (m * 2 ^ e.toNat / _)]
    exact (Nat.div_add_mod _ _).symm
  have hlt : r < 2 ^ (-e).toNat := by rw [hr]; exact Nat.mod_lt _ (Nat.two_pow_pos _)
  have hR : (m : Rat) * two e * two ((-e).toNat : Int) = (q : Rat) * two ((-e).toNat : Int) + (r : Rat) := by
    rw [Rat.mul_assoc, e0, two_nat, two_nat]; exact_mod_cast hm
  have hlt' : (r : Rat) < two ((-e).toNat : Int) := by rw [two_nat]; exact_mod_cast hlt
  have hr0 : (0 : Rat) ≤ (r : Rat) := natCast_nonneg r
  generalize two ((-e).toNat : Int) = D at *
  generalize (m : Rat) * two e = V at *
  refine ⟨?_, ?_, ?_, ?_⟩
  · exact Rat.le_of_mul_le_mul_right (by rw [hR]; grind) pd
  · exact Rat.lt_of_mul_lt_mul_right (by rw [hR]; grind) (Rat.le_of_lt pd)
  · intro h
    have h0 : (r : Rat) = 0 := by rw [h]; rfl
    rw [h0] at hR
    have : (V - q) * D = 0 := by grind
    rcases Rat.mul_eq_zero.1 this with h1 | h1
    · grind
    · exfalso; rw [h1] at pd; exact absurd pd (by decide)
  · intro h
    rw [h] at hR
    have : (r : Rat) = 0 := by grind
    exact_mod_cast this
def flN (s : Bool) (m : Nat) (e : Int) : Nat := fq m e + if s = true ∧ fz m e ≠ 0 then 1 else 0
def flZ (s : Bool) (m : Nat) (e : Int) : Int := if s = true then -(flN s m e : Int) else flN s m e
/-- The greatest integer that is not above a number, as a number. -/
def floorW (y : Nat) : Nat := FloatKind.encode .f64 ((FloatKind.decode .f64 y).integral .down)
theorem floorW_of {y : Nat} {s : Bool} {m : Nat} {e : Int} (hd : FloatKind.decode .f64 y = .number s m e) : floorW y = FloatKind.encode .f64 (.number s (flN s m e) 0) := by
  unfold floorW
  rw [hd]
  show FloatKind.encode .f64 (.number s (Ieee.Toward.down.cut s (m <<< e.toNat) (-e).toNat) 0) = _
  rw [cut_down]
  rfl
theorem enc_int (s : Bool) (c : Nat) (h : c < 9007199254740992) : ∃ a b, FloatKind.decode .f64 (FloatKind.encode .f64 (.number s c 0)) = .number s a b ∧ (a : Rat) * two b = (c : Rat) := by
  by_cases h0 : c = 0
  · subst h0
    refine ⟨0, -1074, ?_, ?_⟩
    · cases s <;> decide +kernel
    · have : ((0 : Nat) : Rat) = 0 := rfl
      rw [this, Rat.zero_mul]
  · have hl : c.log2 < 53 := (Nat.log2_lt h0).2 (by simpa using h)
    refine ⟨c <<< (52 - c.log2), (0 : Int) + c.log2 - 52, read_wide h0 (by simpa using h) (by omega) (by omega), ?_⟩
    rw [Nat.shiftLeft_eq, natCast_mul, ← two_nat, Rat.mul_assoc, ← two_add]
    have : (((52 - c.log2 : Nat) : Int) + ((0 : Int) + c.log2 - 52)) = 0 := by omega
    rw [this, two_zero, Rat.mul_one]
theorem enc_big (s : Bool) (c : Nat) (h : 9007199254740992 ≤ c) (hb : (c : Rat) ≤ two 130) : ∃ a b, FloatKind.decode .f64 (FloatKind.encode .f64 (.number s c 0)) = .number s a b ∧ two 53 ≤ (a : Rat) * two b := by
  have hv : (c : Rat) * two 0 ≤ two 130 := by rw [two_zero, Rat.mul_one]; exact hb
  obtain ⟨a, b, h1, _, h2, _⟩ := nearest_both Ieee.double s c 0 130 (by omega) hv (by decide) (by decide) (by decide)
  refine ⟨a, b, h1, h2 53 (by decide) ?_⟩
  rw [two_zero, Rat.mul_one]
  have h53 : two 53 = ((9007199254740992 : Nat) : Rat) := by decide +kernel
  rw [h53]
  exact_mod_cast h
def mio : Nat := 4696837146684686336
theorem dec_mio : FloatKind.decode .f64 mio = .number false 8589934592000000 (-33) := by decide +kernel
theorem mio_val : sval false 8589934592000000 (-33) = 1000000 := by decide +kernel
def leq64 (x y : Nat) : Bool := FloatKind.f64.format.order x y == some .lt || FloatKind.f64.format.order x y == some .eq
theorem leq_abs {F : Nat} {s : Bool} {a : Nat} {b : Int} (hd : FloatKind.decode .f64 F = .number s a b) : leq64 (absw F) mio = decide ((a : Rat) * two b ≤ 1000000) := by
  have hr : Ieee.double.read F = _ := hd
  have ha : FloatKind.decode .f64 (absw F) = .number false a b := by
    show Ieee.double.read (absw F) = _
    rw [read_abs, hr]
  obtain ⟨o1, o2, o3⟩ := order_val ha dec_mio
  have hs : sval false a b = (a : Rat) * two b := by simp [sval]
  rw [mio_val, hs] at o1 o2 o3
  unfold leq64
  by_cases c1 : (a : Rat) * two b < 1000000
  · rw [o1 c1]
    have : (a : Rat) * two b ≤ 1000000 := Rat.le_of_lt c1
    simp [this]
  · by_cases c2 : (a : Rat) * two b = 1000000
    · rw [o2 c2]; simp [c2]
    · have c3 : (1000000 : Rat) < (a : Rat) * two b := by grind
      rw [o3 c3]
      have : ¬ (a : Rat) * two b ≤ 1000000 := by grind
      simp [this]
/-- What the program asks of the integer. -/
theorem leq_floor {y : Nat} {s : Bool} {m : Nat} {e : Int} (hd : FloatKind.decode .f64 y = .number s m e) (hb : (flN s m e : Rat) ≤ two 130) : leq64 (absw (floorW y)) mio = decide (flN s m e ≤ 1000000) := by
  rw [floorW_of hd]
  have hm : ((1000000 : Nat) : Rat) = 1000000 := rfl
  rcases Nat.lt_or_ge (flN s m e) 9007199254740992 with h | h
  · obtain ⟨a, b, h1, h2⟩ := enc_int s _ h
    rw [leq_abs h1, h2]
    by_cases c : flN s m e ≤ 1000000
    · have : ((flN s m e : Nat) : Rat) ≤ 1000000 := by rw [← hm]; exact_mod_cast c
      simp [c, this]
    · have : ¬ ((flN s m e : Nat) : Rat) ≤ 1000000 := by rw [← hm]; exact_mod_cast c
      simp [c, this]
  · obtain ⟨a, b, h1, h2⟩ := enc_big s _ h hb
    rw [leq_abs h1]
    have h53 : (1000000 : Rat) < two 53 := by decide +kernel
    have : ¬ (a : Rat) * two b ≤ 1000000 := by grind
    have c : ¬ flN s m e ≤ 1000000 := by omega
    simp [c, this]
theorem int_floor {y : Nat} {s : Bool} {m : Nat} {e : Int} (hd : FloatKind.decode .f64 y = .number s m e) (h : flN s m e ≤ 1000000) : floatToIntVal .f64 (floorW y) .i64 = some (flZ s m e) := by
  rw [floorW_of hd]
  obtain ⟨a, b, h1, h2⟩ := enc_int s (flN s m e) (by omega)
  have h52 : two 52 = ((4503599627370496 : Nat) : Rat) := by decide +kernel
  obtain ⟨i1, q, _, i2, i3, i4⟩ := ipart_val h1 (by rw [h2, h52]; exact_mod_cast (by omega))
  rw [i1, i2]
  rw [h2] at i3 i4
  have j3 : q ≤ flN s m e := by exact_mod_cast i3
  have j4 : flN s m e < q + 1 := by exact_mod_cast i4
  have : q = flN s m e := by omega
  rw [this]
  rfl
/-- What the model asks of the number. -/
def inT (y : Nat) : Bool := (FloatKind.f64.format.order y 13920209192129396736 == some .gt) && (FloatKind.f64.format.order y 4696837155274620928 == some .lt)
theorem dec_lo : FloatKind.decode .f64 13920209192129396736 = .number true 8589943181934592 (-33) := by decide +kernel
theorem dec_hi : FloatKind.decode .f64 4696837155274620928 = .number false 8589943181934592 (-33) := by decide +kernel
theorem hi_val : sval false 8589943181934592 (-33) = 1000001 := by decide +kernel
theorem lo_val : sval true 8589943181934592 (-33) = -1000001 := by decide +kernel
theorem inT_num {y : Nat} {s : Bool} {m : Nat} {e : Int} (hd : FloatKind.decode .f64 y = .number s m e) : inT y = decide ((m : Rat) * two e < 1000001) := by
  obtain ⟨o1, o2, o3⟩ := order_val hd dec_lo
  obtain ⟨p1, p2, p3⟩ := order_val hd dec_hi
  rw [lo_val] at o1 o2 o3
  rw [hi_val] at p1 p2 p3
  have ha := sval_abs_lt s m e 1000001
  unfold inT
  by_cases c : (m : Rat) * two e < 1000001
  · obtain ⟨c1, c2⟩ := ha.1 c
    rw [o3 c1, p1 c2]
    simp [c]
  · have hn : ¬ (-1000001 < sval s m e ∧ sval s m e < 1000001) := fun h => c (ha.2 h)
    have hf : (FloatKind.f64.format.order y 13920209192129396736 == some .gt && (FloatKind.f64.format.order y 4696837155274620928 == some .lt)) = false := by
      by_cases d1 : -1000001 < sval s m e
      · have d2 : ¬ sval s m e < 1000001 := fun h => hn ⟨d1, h⟩
        by_cases d3 : sval s m e = 1000001
        · rw [p2 d3]; simp
        · rw [p3 (by grind)]; simp
      · by_cases d3 : sval s m e = -1000001
        · rw [o2 d3]; simp
        · rw [o1 (by grind)]; simp
    rw [hf]
    simp [c]
theorem flN_le {s : Bool} {m : Nat} {e : Int} (h : (m : Rat) * two e < 1000001) : flN s m e ≤ 1000001 := by
  have h1 := (fq_val m e).1
  have h2 : (fq m e : Rat) < ((1000001 : Nat) : Rat) := by
    have : ((1000001 : Nat) : Rat) = 1000001 := rfl
    rw [this]; grind
  have : fq m e < 1000001 := by exact_mod_cast h2
  unfold flN
  split <;> omega
theorem flN_ge {s : Bool} {m : Nat} {e : Int} (h : ¬ (m : Rat) * two e < 1000001) : 1000001 ≤ flN s m e := by
  have h1 := (fq_val m e).2.1
  have h2 : ((1000001 : Nat) : Rat) < ((fq m e + 1 : Nat) : Rat) := by
    have : ((1000001 : Nat) : Rat) = 1000001 := rfl
    have h3 : ((fq m e + 1 : Nat) : Rat) = (fq m e : Rat) + 1 := by norm_cast
    rw [this, h3]; grind
  have : 1000001 < fq m e + 1 := by exact_mod_cast h2
  unfold flN
  omega
/-- The model's integer: the one that is cut, less 1 if it is above the number. -/
theorem model_int {y : Nat} {s : Bool} {m : Nat} {e : Int} (hd : FloatKind.decode .f64 y = .number s m e) (h : (m : Rat) * two e < 1000001) :
    floatToIntVal .f64 y .i64 = some (ipart y) ∧ -1000001 ≤ ipart y ∧ ipart y ≤ 1000001 ∧ flZ s m e = if gt64 (floatOfInt .f64 (ipart y)) y = true then ipart y - 1 else ipart y := by
  have h52 : (1000001 : Rat) < two 52 := by decide +kernel
  obtain ⟨i1, q, i0, i2, i3, i4⟩ := ipart_val hd (by grind)
  obtain ⟨v1, v2, v3⟩ := fq_val m e
  have hq : q = fq m e := by
    have c1 : (q : Rat) < ((fq m e + 1 : Nat) : Rat) := by
      have h3 : ((fq m e + 1 : Nat) : Rat) = (fq m e : Rat) + 1 := by norm_cast
      rw [h3]; grind
    have c2 : (fq m e : Rat) < ((q + 1 : Nat) : Rat) := by
      have h3 : ((q + 1 : Nat) : Rat) = (q : Rat) + 1 := by norm_cast
      rw [h3]; grind
    have d1 : q < fq m e + 1 := by exact_mod_cast c1
    have d2 : fq m e < q + 1 := by exact_mod_cast c2
    omega
  have hq1 : q < 1000001 := by
    have : (q : Rat) < ((1000001 : Nat) : Rat) := by
      have : ((1000001 : Nat) : Rat) = 1000001 := rfl
      rw [this]; grind
    exact_mod_cast this
  refine ⟨i1, by rw [i2]; split <;> omega, by rw [i2]; split <;> omega, ?_⟩
  obtain ⟨s', m', e', hdt, hvt⟩ := floatOfInt_val (ipart y) (by rw [i2]; split <;> omega)
  obtain ⟨o1, o2, o3⟩ := order_val hdt hd
  rw [hvt] at o1 o2 o3
  have hg : gt64 (floatOfInt .f64 (ipart y)) y = true ↔ s = true ∧ fz m e ≠ 0 := by
    unfold gt64
    rw [i2] at o1 o2 o3 ⊢
    cases s with
    | false =>
      simp only [Bool.false_eq_true, if_false, false_and, iff_false]
      simp only [Bool.false_eq_true, if_false] at o1 o2
      have hs : sval false m e = (m : Rat) * two e := by simp [sval]
      have hqi : ((q : Int) : Rat) = (q : Rat) := rfl
      rw [hs, hqi] at o1 o2
      by_cases c : (q : Rat) < (m : Rat) * two e
      · rw [o1 c]; simp
      · rw [o2 (by grind)]; simp
    | true =>
      simp only [if_true, true_and]
      simp only [if_true] at o1 o2 o3
      have hs : sval true m e = -((m : Rat) * two e) := by unfold sval; simp only [if_true]; grind
      have hqi : ((-(q : Int) : Int) : Rat) = -(q : Rat) := by norm_cast
      rw [hs, hqi] at o2 o3
      by_cases c : fz m e = 0
      · have := v3.1 c
        rw [o2 (by rw [this, hq])]
        simp [c]
      · have hne : (m : Rat) * two e ≠ (q : Rat) := fun hc => c (v3.2 (by rw [hc, hq]))
        rw [o3 (by grind)]
        simp [c]
  by_cases c : s = true ∧ fz m e ≠ 0
  · rw [if_pos (hg.2 c), i2]
    unfold flZ flN
    rw [if_pos c, if_pos c.1, if_pos c.1, hq]
    try omega
  · rw [if_neg (fun h => c (hg.1 h)), i2]
    unfold flZ flN
    rw [if_neg c, hq, Nat.add_zero]
    all_goals (cases s <;> simp)
/-- The number that is asked for a tooth: finite and not too great, or infinite, or none. -/
def cmnY (Q : Nat) : Nat := fbin .add .f64 (fconv .f32 Q .f64) 4602678819172646912
theorem cmn_cases (Q : Nat) : isNaN .f64 (cmnY Q) = true ∨ (∃ s, FloatKind.decode .f64 (cmnY Q) = .infinity s) ∨ ∃ s m e, FloatKind.decode .f64 (cmnY Q) = .number s m e ∧ (m : Rat) * two e ≤ two 129 := by
  cases hd : FloatKind.decode .f32 Q with
  | nan s t =>
    left
    have hn : isNaN .f32 Q = true := by unfold isNaN; rw [hd]; rfl
    have hw : isNaN .f64 (fconv .f32 Q .f64) = true := by rw [isNaN_fconv, hn]
    unfold cmnY fbin
    rw [floatBits_left hw]
    exact isNaN_qnan _
  | infinity s =>
    right; left
    have hn : isNaN .f32 Q = false := by unfold isNaN; rw [hd]; rfl
    have hf : fconv .f32 Q .f64 = FloatKind.encode .f64 (.infinity s) := by unfold fconv; rw [if_neg (by rw [hn]; simp), hd]
    refine ⟨s, ?_⟩
    unfold cmnY
    rw [hf]
    cases s <;> decide +kernel
  | number s m e =>
    right; right
    have b1 : Bd .f64 (fconv .f32 Q .f64) 128 := bd_widen (by rw [hd]; rfl) (by rw [hd]; rfl)
    have b2 : Bd .f64 4602678819172646912 128 := ⟨false, 4503599627370496, -53, by decide +kernel, by decide +kernel⟩
    obtain ⟨s', m', e', h1, h2⟩ := bd_add b1 b2 (by decide) (by decide)
    exact ⟨s', m', e', h1, h2⟩
theorem inT_nan {y : Nat} (h : isNaN .f64 y = true) : inT y = false := by
  unfold inT
  rw [order_left h]
  rfl
theorem inT_inf {y : Nat} {s : Bool} (h : FloatKind.decode .f64 y = .infinity s) : inT y = false ∧ leq64 (absw (floorW y)) mio = false := by
  have hr : Ieee.double.read y = _ := h
  have hl : Ieee.double.read 13920209192129396736 = _ := dec_lo
  have hh : Ieee.double.read 4696837155274620928 = _ := dec_hi
  constructor
  · unfold inT
    show ((Ieee.double.read y).order (Ieee.double.read 13920209192129396736) == some .gt && ((Ieee.double.read y).order (Ieee.double.read 4696837155274620928) == some .lt)) = false
    rw [hr, hl, hh]
    cases s <;> rfl
  · have hf : floorW y = FloatKind.encode .f64 (.infinity s) := by
      unfold floorW
      rw [h]
      rfl
    rw [hf]
    cases s <;> decide +kernel
theorem flN_bd {s : Bool} {m : Nat} {e : Int} (h : (m : Rat) * two e ≤ two 129) : (flN s m e : Rat) ≤ two 130 := by
  have h1 := (fq_val m e).1
  have h2 : (flN s m e : Rat) ≤ (fq m e : Rat) + 1 := by
    have : flN s m e ≤ fq m e + 1 := by unfold flN; split <;> omega
    have h3 : ((fq m e + 1 : Nat) : Rat) = (fq m e : Rat) + 1 := by norm_cast
    rw [← h3]
    exact_mod_cast this
  have h3 : two 129 + 1 ≤ two 130 := by decide +kernel
  grind
/-- Outside of what the model asks for, the program says no. -/
theorem leq_no {Q : Nat} (hn : isNaN .f64 (cmnY Q) = false) (h : inT (cmnY Q) = false) : leq64 (absw (floorW (cmnY Q))) mio = false := by
  rcases cmn_cases Q with h1 | ⟨s, h1⟩ | ⟨s, m, e, h1, h2⟩
  · rw [h1] at hn; cases hn
  · exact (inT_inf h1).2
  · rw [leq_floor h1 (flN_bd h2)]
    rw [inT_num h1] at h
    have := flN_ge (s := s) (of_decide_eq_false h)
    exact decide_eq_false (by omega)
theorem cmn_yes {Q : Nat} (h : inT (cmnY Q) = true) : ∃ n : Int, floatToIntVal .f64 (cmnY Q) .i64 = some (ipart (cmnY Q)) ∧ -1000001 ≤ ipart (cmnY Q) ∧ ipart (cmnY Q) ≤ 1000001 ∧
    n = (if gt64 (floatOfInt .f64 (ipart (cmnY Q))) (cmnY Q) = true then ipart (cmnY Q) - 1 else ipart (cmnY Q)) ∧ leq64 (absw (floorW (cmnY Q))) mio = (decide (-1000000 ≤ n) && decide (n ≤ 1000000)) ∧
    (-1000000 ≤ n → n ≤ 1000000 → floatToIntVal .f64 (floorW (cmnY Q)) .i64 = some n) := by
  rcases cmn_cases Q with h1 | ⟨s, h1⟩ | ⟨s, m, e, h1, h2⟩
  · rw [inT_nan h1] at h; cases h
  · rw [(inT_inf h1).1] at h; cases h
  · rw [inT_num h1] at h
    have hv := of_decide_eq_true h
    obtain ⟨i1, i2, i3, i4⟩ := model_int h1 hv
    have hle := flN_le (s := s) hv
    have hz : (-1000000 ≤ flZ s m e ∧ flZ s m e ≤ 1000000) ↔ flN s m e ≤ 1000000 := by unfold flZ; split <;> omega
    refine ⟨flZ s m e, i1, i2, i3, i4, ?_, fun a b => int_floor h1 (hz.1 ⟨a, b⟩)⟩
    rw [leq_floor h1 (flN_bd h2), ← Bool.decide_and]
    exact decide_eq_decide.2 hz.symm
theorem floorW_lt (y : Nat) (hn : isNaN .f64 y = false) : floorW y < 18446744073709551616 := by
  have hq : ∀ d : Ieee.Datum, d.isNaN = false → FloatKind.encode .f64 d < 18446744073709551616 := by
    intro d hd
    have hword : ∀ (s : Bool) (r : Nat), r ≤ Ieee.double.infRung → Ieee.double.word s r < 18446744073709551616 := by
      intro s r hr
      have h1 : Ieee.double.infRung = 9218868437227405312 := rfl
      have h2 : Ieee.double.signWeight = 9223372036854775808 := rfl
      unfold Ieee.Format.word
      rw [h2]
      cases s <;> simp <;> omega
    cases d with
    | nan => cases hd
    | infinity s => exact hword s _ (Nat.le_refl _)
    | number s m e =>
      show Ieee.double.nearest s m e < _
      unfold Ieee.Format.nearest
      split
      · exact hword s 0 (Nat.zero_le _)
      · exact hword s _ (Nat.min_le_right _ _)
  apply hq
  unfold isNaN at hn
  cases hd : FloatKind.decode .f64 y with
  | nan => rw [hd] at hn; cases hn
  | infinity => rfl
  | number => rfl
end Go.Proofs.Ytebelikahpnobaa
