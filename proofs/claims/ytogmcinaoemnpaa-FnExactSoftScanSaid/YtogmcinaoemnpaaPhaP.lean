
/- The point of the unit circle at some turns, as a function of words: a quarter is taken away at most four times. -/
import Derived.Test.YtogmcinaoemnpaaNeg
namespace Go.Proofs.Ytogmcinaoemnpaa
open Go Go.RowKit

/-- x is a number, at most N times two to the power of E. -/
def Ub (x : Nat) (N : Nat) (E : Int) : Prop := ∃ s m e, FloatKind.decode .f64 x = .number s m e ∧ sval s m e ≤ (N : Rat) * two E
theorem sval_nonpos (m : Nat) (e : Int) : sval true m e ≤ 0 := by
  have := Rat.mul_nonneg (natCast_nonneg m) (Rat.le_of_lt (two_pos e))
  unfold sval; simp only [if_true]; grind
theorem rhs_nonneg (N : Nat) (E : Int) : (0 : Rat) ≤ (N : Rat) * two E := Rat.mul_nonneg (natCast_nonneg N) (Rat.le_of_lt (two_pos E))
/-- The word nearest to a number that is at most N times two to the power of E. -/
theorem encode_ub (s : Bool) (m : Nat) (e : Int) (N : Nat) (E : Int) (hE : -1074 ≤ E) (hN : N < 9007199254740992) (hb : (m : Rat) * two e ≤ two 100) (hv : sval s m e ≤ (N : Rat) * two E) : Ub (FloatKind.encode .f64 (.number s m e)) N E := by
  by_cases hm : m = 0
  · subst hm
    have : FloatKind.encode .f64 (.number s 0 e) = Ieee.double.word s 0 := nearest_zero Ieee.double s e
    rw [this]
    refine ⟨s, 0, -1074, by cases s <;> decide +kernel, ?_⟩
    have hz : sval s 0 (-1074) = 0 := by cases s <;> decide +kernel
    rw [hz]; exact rhs_nonneg N E
  · have h1 : Ieee.double.leastPlace = -1074 := by decide
    have e1 : (Ieee.double.fractionBits : Int) = 52 := rfl
    have e2 : ((2 ^ Ieee.double.exponentBits - 1 : Nat) : Int) = 2047 := by decide
    obtain ⟨m', e', hr, _, _, hc⟩ := nearest_both Ieee.double s m e 100 hm hb (by omega) (by omega) (by decide)
    refine ⟨s, m', e', hr, ?_⟩
    cases s with
    | true => exact Rat.le_trans (sval_nonpos m' e') (rhs_nonneg N E)
    | false =>
      have s1 : ∀ (m : Nat) (e : Int), sval false m e = (m : Rat) * two e := fun m e => by unfold sval; simp
      rw [s1] at hv ⊢
      have e3 : 2 ^ (Ieee.double.fractionBits + 1) = 9007199254740992 := by decide +kernel
      exact hc N E (by omega) (by omega) hv
theorem sum_ub {x y : Nat} {s t : Bool} {m n : Nat} {i j : Int} {r : Nat} {N : Nat} {E : Int} (hE : -1074 ≤ E) (hN : N < 9007199254740992)
    (b1 : (m : Rat) * two i ≤ two 60) (b2 : (n : Rat) * two j ≤ two 60) (hv : sval s m i + sval t n j ≤ (N : Rat) * two E)
    (h : ((Ieee.Datum.number s m i).sum (.number t n j)).map FloatKind.f64.format.write = some r) (_hx : x = y) : Ub r N E := by
  simp only [Ieee.Datum.sum, Option.map_some, Option.some.injEq] at h
  subst h
  have v1 := signed_val s m i (min i j) (by omega)
  have v2 := signed_val t n j (min i j) (by omega)
  have hs := signed_abs s m (i - min i j).toNat t n (j - min i j).toNat
  obtain ⟨a, ha⟩ : ∃ a, a = Ieee.signed s m (i - min i j).toNat := ⟨_, rfl⟩
  obtain ⟨b, hb⟩ : ∃ b, b = Ieee.signed t n (j - min i j).toNat := ⟨_, rfl⟩
  rw [← ha] at v1 hs ⊢
  rw [← hb] at v2 hs ⊢
  have hsum : (((a + b : Int)) : Rat) * two (min i j) = sval s m i + sval t n j := by
    rw [← v1, ← v2]
    have : ((a + b : Int) : Rat) = (a : Rat) + (b : Rat) := by norm_cast
    rw [this]; grind
  have hbd : (((a + b).natAbs : Nat) : Rat) * two (min i j) ≤ two 100 := by
    have e1 : two i = two ((i - min i j).toNat : Int) * two (min i j) := by rw [← two_add]; congr 1; omega
    have e2 : two j = two ((j - min i j).toNat : Int) * two (min i j) := by rw [← two_add]; congr 1; omega
    have h1 : (((a + b).natAbs : Nat) : Rat) ≤ (m : Rat) * two ((i - min i j).toNat : Int) + (n : Rat) * two ((j - min i j).toNat : Int) := by
      rw [two_nat, two_nat, ← natCast_mul, ← natCast_mul]
      have : (((a + b).natAbs : Nat) : Rat) ≤ ((m * 2 ^ (i - min i j).toNat + n * 2 ^ (j - min i j).toNat : Nat) : Rat) := by exact_mod_cast hs
      have e : ((m * 2 ^ (i - min i j).toNat + n * 2 ^ (j - min i j).toNat : Nat) : Rat) = ((m * 2 ^ (i - min i j).toNat : Nat) : Rat) + ((n * 2 ^ (j - min i j).toNat : Nat) : Rat) := by norm_cast
      rw [← e]; exact this
    have h2 := Rat.mul_le_mul_of_nonneg_right h1 (Rat.le_of_lt (two_pos (min i j)))
    rw [e1] at b1
    rw [e2] at b2
    have h60 : two 60 + two 60 ≤ two 100 := by decide +kernel
    grind
  refine encode_ub _ _ _ N E hE hN hbd ?_
  by_cases h0 : a + b = 0
  · rw [if_pos h0, h0]
    have hz : ∀ (q : Bool) (e : Int), sval q (Int.natAbs 0) e = 0 := by
      intro q e
      have h0 : ((Int.natAbs 0 : Nat) : Rat) = 0 := rfl
      unfold sval
      rw [h0]
      cases q
      · simp only [Bool.false_eq_true, if_false]; rw [Rat.zero_mul]
      · simp only [if_true]; grind
    rw [hz]; exact rhs_nonneg N E
  · rw [if_neg h0]
    by_cases hneg : a + b < 0
    · simp only [hneg, decide_true]
      exact Rat.le_trans (sval_nonpos _ _) (rhs_nonneg N E)
    · simp only [hneg, decide_false]
      have e : (((a + b).natAbs : Nat) : Rat) = ((a + b : Int) : Rat) := by
        have : (((a + b).natAbs : Nat) : Int) = a + b := by omega
        rw [← Rat.intCast_natCast, this]
      have s1 : sval false (a + b).natAbs (min i j) = (((a + b).natAbs : Nat) : Rat) * two (min i j) := by unfold sval; simp
      rw [s1, e, hsum]
      exact hv
theorem dec_quar : FloatKind.decode .f64 quarW = .number false 4503599627370496 (-54) := by decide +kernel
theorem dec_one : FloatKind.decode .f64 oneW = .number false 4503599627370496 (-52) := by decide +kernel
theorem bd_le60 {x : Nat} {B : Int} (h : Bd .f64 x B) (hB : B ≤ 60) : ∃ s m e, FloatKind.decode .f64 x = .number s m e ∧ (m : Rat) * two e ≤ two 60 := (h.mono hB)
theorem ub_sub {x : Nat} {B : Int} (hx : Bd .f64 x B) (hB : B ≤ 60) {N M : Nat} (hu : Ub x N (-2)) (hM : M + 1 = N) (hN : N ≤ 4) : Ub (fbin .sub .f64 x quarW) M (-2) := by
  obtain ⟨s, m, e, hd, hb⟩ := bd_le60 hx hB
  obtain ⟨s', m', e', hd', hv⟩ := hu
  rw [hd] at hd'
  cases hd'
  have h1 : FloatKind.f64.format.read x = _ := hd
  have h2 : FloatKind.f64.format.read quarW = _ := dec_quar
  have hq : sval true 4503599627370496 (-54) = -(two (-2)) := by decide +kernel
  cases hbits : floatBits .sub .f64 x quarW with
  | none => simp [floatBits, Ieee.Format.sub, h1, h2, Ieee.Datum.opposite, Ieee.Datum.sum] at hbits
  | some r =>
    have hf : fbin .sub .f64 x quarW = r := by simp [fbin, hbits]
    rw [hf]
    refine sum_ub (x := 0) (y := 0) (s := s) (t := true) (m := m) (n := 4503599627370496) (i := e) (j := -54) (by decide) (by omega) hb (by decide +kernel) ?_ ?_ rfl
    · rw [hq]
      have : (N : Rat) = (M : Rat) + 1 := by rw [← hM]; norm_cast
      rw [this] at hv
      have p := two_pos (-2)
      generalize two (-2) = q at *
      grind
    · simpa [floatBits, Ieee.Format.sub, h1, h2, Ieee.Datum.opposite] using hbits
theorem ub_fr {Y : Nat} {s : Bool} {m : Nat} {e : Int} (hd : FloatKind.decode .f64 Y = .number s m e) (hlt : (m : Rat) * two e < two 52) : Ub (fr Y) 4 (-2) := by
  have h0 := bd_fr0 hd hlt
  obtain ⟨s0, m0, e0, hd0, hv0⟩ := h0
  have h4 : ((4 : Nat) : Rat) * two (-2) = two 0 := by decide +kernel
  unfold fr
  split
  · rename_i hc
    obtain ⟨o1, o2, o3⟩ := order_val hd0 (show FloatKind.decode .f64 0 = .number false 0 (-1074) by decide +kernel)
    have z2 : sval false 0 (-1074) = 0 := by decide +kernel
    rw [z2] at o1 o2 o3
    have hneg : sval s0 m0 e0 < 0 := by
      by_cases c1 : sval s0 m0 e0 < 0
      · exact c1
      · exfalso
        unfold lt64 at hc
        by_cases c2 : sval s0 m0 e0 = 0
        · rw [o2 c2] at hc; cases hc
        · rw [o3 (by grind)] at hc; cases hc
    have h1 : FloatKind.f64.format.read (fr0 Y) = _ := hd0
    have h2 : FloatKind.f64.format.read oneW = _ := dec_one
    have hq : sval false 4503599627370496 (-52) = two 0 := by decide +kernel
    cases hbits : floatBits .add .f64 (fr0 Y) oneW with
    | none => simp [floatBits, Ieee.Format.add, h1, h2, Ieee.Datum.sum] at hbits
    | some r =>
      have hf : fbin .add .f64 (fr0 Y) oneW = r := by simp [fbin, hbits]
      rw [hf]
      refine sum_ub (x := 0) (y := 0) (s := s0) (t := false) (m := m0) (n := 4503599627370496) (i := e0) (j := -52) (by decide) (by decide) (Rat.le_trans hv0 (two_mono (by decide))) (by decide +kernel) ?_ ?_ rfl
      · rw [hq, h4]; grind
      · simpa [floatBits, Ieee.Format.add, h1, h2] using hbits
  · refine ⟨s0, m0, e0, hd0, ?_⟩
    rw [h4]
    exact ((sval_abs s0 m0 e0 (two 0)).1 hv0).2
theorem bd_quar' : Bd .f64 quarW 0 := ⟨false, 4503599627370496, -54, by decide +kernel, by decide +kernel⟩
def fq (f : Nat) : Nat → Nat
  | 0 => f
  | k + 1 => fbin .sub .f64 (fq f k) quarW
theorem bd_fq {f : Nat} (h : Bd .f64 f 1) : Bd .f64 (fq f 1) 2 ∧ Bd .f64 (fq f 2) 3 ∧ Bd .f64 (fq f 3) 4 ∧ Bd .f64 (fq f 4) 5 := by
  have q := bd_quar'
  have b1 : Bd .f64 (fq f 1) 2 := bd_sub h (q.mono (by decide)) (by decide) (by decide)
  have b2 : Bd .f64 (fq f 2) 3 := bd_sub b1 (q.mono (by decide)) (by decide) (by decide)
  have b3 : Bd .f64 (fq f 3) 4 := bd_sub b2 (q.mono (by decide)) (by decide) (by decide)
  exact ⟨b1, b2, b3, bd_sub b3 (q.mono (by decide)) (by decide) (by decide)⟩
/-- Behind four quarters nothing is left that is a quarter. -/
theorem fq_four {f : Nat} (h : Bd .f64 f 1) (hu : Ub f 4 (-2)) : ge64 (fq f 4) quarW = false := by
  obtain ⟨b1, b2, b3, b4⟩ := bd_fq h
  have u1 : Ub (fq f 1) 3 (-2) := ub_sub h (by decide) hu rfl (by decide)
  have u2 : Ub (fq f 2) 2 (-2) := ub_sub b1 (by decide) u1 rfl (by decide)
  have u3 : Ub (fq f 3) 1 (-2) := ub_sub b2 (by decide) u2 rfl (by decide)
  have u4 : Ub (fq f 4) 0 (-2) := ub_sub b3 (by decide) u3 rfl (by decide)
  obtain ⟨s, m, e, hd, hv⟩ := u4
  obtain ⟨o1, _, _⟩ := order_val hd dec_quar
  have hq : sval false 4503599627370496 (-54) = two (-2) := by decide +kernel
  have h0 : ((0 : Nat) : Rat) * two (-2) = 0 := by decide +kernel
  rw [h0] at hv
  have p := two_pos (-2)
  unfold ge64
  rw [o1 (by rw [hq]; grind)]
  rfl
/-- What the sine asks of its number. -/
theorem sine_ready {x : Nat} {B : Int} (h : Bd .f64 x B) (hB : B ≤ 51) : floatToIntVal .f64 x .i64 = some (ipart x) ∧ Bd .f64 (fr x) 1 ∧
    (FloatKind.f64.format.order (fbin .sub .f64 x x) 0 != some .eq) = false ∧ (FloatKind.f64.format.order x 4841369599423283200 == some .gt || FloatKind.f64.format.order x 4841369599423283200 == some .eq) = false ∧
    (FloatKind.f64.format.order x 14064741636278059008 == some .lt || FloatKind.f64.format.order x 14064741636278059008 == some .eq) = false := by
  obtain ⟨s, m, e, hd, hv⟩ := h
  have hlt : (m : Rat) * two e < two 52 := by
    have := two_lt (show B < 52 by omega)
    grind
  have hfin : isFin .f64 x = true := by simp [isFin, hd, Ieee.Datum.isNaN, Ieee.Datum.isInfinity]
  have hg := sub_self .f64 x
  rw [hfin] at hg
  simp only [beq_iff_eq] at hg
  rcases small_or_big hd with ⟨_, g1, g2, _⟩ | ⟨hge, _⟩
  · exact ⟨(ipart_val hd hlt).1, bd_fr hd hlt, by rw [hg]; rfl, g1, g2⟩
  · exfalso; grind
end Go.Proofs.Ytogmcinaoemnpaa
