
/- The sine of turns, as a function of words, is a number that a float32 can hold. -/
import Derived.Test.YtogmcinaoemnpabSinP
namespace Go.Proofs.Ytogmcinaoemnpab
open Go Go.RowKit

theorem floatOfInt_val (n : Int) (h : n.natAbs < 9007199254740992) : ∃ s m e, FloatKind.decode .f64 (floatOfInt .f64 n) = .number s m e ∧ sval s m e = (n : Rat) := by
  by_cases h0 : n.natAbs = 0
  · have : n = 0 := by omega
    subst this
    exact ⟨false, 0, -1074, by decide +kernel, by decide +kernel⟩
  · have hl : n.natAbs.log2 < 53 := (Nat.log2_lt h0).2 (by simpa using h)
    have hr : FloatKind.decode .f64 (floatOfInt .f64 n) = .number (n < 0) (n.natAbs <<< (52 - n.natAbs.log2)) ((0 : Int) + n.natAbs.log2 - 52) :=
      read_wide h0 (by simpa using h) (by omega) (by omega)
    refine ⟨_, _, _, hr, ?_⟩
    have e1 : (((n.natAbs <<< (52 - n.natAbs.log2) : Nat)) : Rat) * two ((0 : Int) + n.natAbs.log2 - 52) = (n.natAbs : Rat) := by
      rw [Nat.shiftLeft_eq, natCast_mul, ← two_nat, Rat.mul_assoc, ← two_add]
      have : (((52 - n.natAbs.log2 : Nat) : Int) + ((0 : Int) + n.natAbs.log2 - 52)) = 0 := by omega
      rw [this, two_zero, Rat.mul_one]
    unfold sval
    by_cases hn : n < 0
    · have e2 : (n.natAbs : Rat) = -(n : Rat) := by
        have : ((n.natAbs : Nat) : Int) = -n := by omega
        rw [← Rat.intCast_natCast, this]; norm_cast
      simp only [hn, decide_true, if_true]
      rw [e2] at e1
      grind
    · have e2 : (n.natAbs : Rat) = (n : Rat) := by
        have : ((n.natAbs : Nat) : Int) = n := by omega
        rw [← Rat.intCast_natCast, this]
      simp only [hn, decide_false, Bool.false_eq_true, if_false]
      rw [← e2]; exact e1
theorem lb_int (n : Nat) (C : Nat) (h1 : 2 ^ C ≤ n) (h2 : n < 9007199254740992) : Lb .f64 (floatOfInt .f64 n) C := by
  obtain ⟨s, m, e, hd, hv⟩ := floatOfInt_val n (by omega)
  refine ⟨s, m, e, hd, ?_⟩
  rw [two_nat]
  have hc : ((2 ^ C : Nat) : Rat) ≤ (n : Rat) := by exact_mod_cast h1
  have hz := Rat.mul_nonneg (natCast_nonneg m) (Rat.le_of_lt (two_pos e))
  have hn : ((n : Int) : Rat) = (n : Rat) := rfl
  rw [hn] at hv
  have hp : (0 : Rat) ≤ (n : Rat) := natCast_nonneg n
  have hp2 : (0 : Rat) < ((2 ^ C : Nat) : Rat) := by exact_mod_cast Nat.two_pow_pos C
  unfold sval at hv
  cases s
  · simp only [Bool.false_eq_true, if_false] at hv; grind
  · simp only [if_true] at hv; grind
def oneW : Nat := 4607182418800017408
def halfW : Nat := 4602678819172646912
def quarW : Nat := 4598175219545276416
def tauW : Nat := 4618760256179416344
def lt64 (x y : Nat) : Bool := FloatKind.f64.format.order x y == some .lt
def gt64 (x y : Nat) : Bool := FloatKind.f64.format.order x y == some .gt
def ge64 (x y : Nat) : Bool := FloatKind.f64.format.order x y == some .gt || FloatKind.f64.format.order x y == some .eq
def fr0 (Y : Nat) : Nat := fbin .sub .f64 Y (floatOfInt .f64 (ipart Y))
def fr (Y : Nat) : Nat := if lt64 (fr0 Y) 0 = true then fbin .add .f64 (fr0 Y) oneW else fr0 Y
def sineG (f : Nat) : Nat := if ge64 f halfW = true then fbin .sub .f64 f halfW else f
def sineH (g : Nat) : Nat := if gt64 g quarW = true then fbin .sub .f64 halfW g else g
def sineZ (f : Nat) : Nat := fbin .mul .f64 (sineH (sineG f)) tauW
def sstep (u c p : Nat) : Nat := fbin .sub .f64 oneW (fbin .quo .f64 (fbin .mul .f64 u p) c)
def sineR (u : Nat) : Nat :=
  sstep u (floatOfInt .f64 6) (sstep u (floatOfInt .f64 20) (sstep u (floatOfInt .f64 42) (sstep u (floatOfInt .f64 72) (sstep u (floatOfInt .f64 110) (sstep u (floatOfInt .f64 156) (sstep u (floatOfInt .f64 210) (sstep u (floatOfInt .f64 272) oneW)))))))
def sineM (f : Nat) : Nat := fbin .mul .f64 (sineZ f) (sineR (fbin .mul .f64 (sineZ f) (sineZ f)))
def sineF (f : Nat) : Nat := if ge64 f halfW = true then fneg .f64 (sineM f) else sineM f
theorem bd_one : Bd .f64 oneW 0 := ⟨false, 4503599627370496, -52, by decide +kernel, by decide +kernel⟩
theorem bd_half : Bd .f64 halfW 0 := ⟨false, 4503599627370496, -53, by decide +kernel, by decide +kernel⟩
theorem bd_tau : Bd .f64 tauW 3 := ⟨false, 7074237752028440, -50, by decide +kernel, by decide +kernel⟩
theorem two_0 : two 0 = 1 := two_zero
/-- What is left when the whole part is taken away is less than one. -/
theorem bd_fr0 {Y : Nat} {s : Bool} {m : Nat} {e : Int} (hd : FloatKind.decode .f64 Y = .number s m e) (hlt : (m : Rat) * two e < two 52) : Bd .f64 (fr0 Y) 0 := by
  obtain ⟨_, q, hq, hip, r1, r2⟩ := ipart_val hd hlt
  obtain ⟨t, n, j, hT, hv⟩ := floatOfInt_val (ipart Y) (by rw [hip]; cases s <;> simp only [Bool.false_eq_true, if_false, if_true] <;> omega)
  have hd' : FloatKind.f64.format.read Y = _ := hd
  have hT' : FloatKind.f64.format.read (floatOfInt .f64 (ipart Y)) = _ := hT
  unfold fr0
  have hneg : sval (!t) n j = -sval t n j := by unfold sval; cases t <;> simp only [Bool.not_false, Bool.not_true, Bool.false_eq_true, if_false, if_true] <;> grind
  have hexact : -two 0 ≤ sval s m e + sval (!t) n j ∧ sval s m e + sval (!t) n j ≤ two 0 := by
    rw [hneg, hv, hip, two_0]
    unfold sval
    cases s
    · simp only [Bool.false_eq_true, if_false]
      have : (((q : Nat) : Int) : Rat) = (q : Rat) := rfl
      rw [this]; grind
    · simp only [if_true]
      have : ((-((q : Nat) : Int) : Int) : Rat) = -(q : Rat) := by norm_cast
      rw [this]; grind
  cases hb : floatBits .sub .f64 Y (floatOfInt .f64 (ipart Y)) with
  | none => simp [floatBits, Ieee.Format.sub, hd', hT', Ieee.Datum.opposite, Ieee.Datum.sum] at hb
  | some r =>
    have hf : fbin .sub .f64 Y (floatOfInt .f64 (ipart Y)) = r := by simp [fbin, hb]
    rw [hf]
    refine bd_sum_exact (s := s) (t := !t) hexact.1 hexact.2 (by decide) (by decide) ?_
    simpa [floatBits, Ieee.Format.sub, hd', hT', Ieee.Datum.opposite] using hb
theorem bd_fr {Y : Nat} {s : Bool} {m : Nat} {e : Int} (hd : FloatKind.decode .f64 Y = .number s m e) (hlt : (m : Rat) * two e < two 52) : Bd .f64 (fr Y) 1 := by
  have h := bd_fr0 hd hlt
  unfold fr
  split
  · exact bd_add h bd_one (by decide) (by decide)
  · exact h.mono (by decide)
theorem bd_sstep {u c p : Nat} {A B C : Int} (hu : Bd .f64 u A) (hp : Bd .f64 p B) (hc : Lb .f64 c C) (h0 : 0 ≤ A + B) (h1 : A + B ≤ 1000) (h2 : 0 ≤ A + B - C + 1) (h3 : A + B - C + 1 ≤ 1000) : Bd .f64 (sstep u c p) (A + B - C + 2) := by
  have b1 := bd_mul hu hp (by simp only [lowE]; omega) (by simp only [topE]; omega)
  have b2 := bd_quo b1 hc (by simp only [lowE]; omega) (by simp only [topE]; omega)
  have b3 := bd_sub (bd_one.mono h2) b2 (by simp only [lowE]; omega) (by simp only [topE]; omega)
  exact b3.mono (by omega)
theorem bd_sineR {u : Nat} (hu : Bd .f64 u 12) : Bd .f64 (sineR u) 67 := by
  unfold sineR
  have p1 := bd_sstep hu bd_one (lb_int 272 8 (by decide) (by decide)) (by decide) (by decide) (by decide) (by decide)
  have p2 := bd_sstep hu p1 (lb_int 210 7 (by decide) (by decide)) (by decide) (by decide) (by decide) (by decide)
  have p3 := bd_sstep hu p2 (lb_int 156 7 (by decide) (by decide)) (by decide) (by decide) (by decide) (by decide)
  have p4 := bd_sstep hu p3 (lb_int 110 6 (by decide) (by decide)) (by decide) (by decide) (by decide) (by decide)
  have p5 := bd_sstep hu p4 (lb_int 72 6 (by decide) (by decide)) (by decide) (by decide) (by decide) (by decide)
  have p6 := bd_sstep hu p5 (lb_int 42 5 (by decide) (by decide)) (by decide) (by decide) (by decide) (by decide)
  have p7 := bd_sstep hu p6 (lb_int 20 4 (by decide) (by decide)) (by decide) (by decide) (by decide) (by decide)
  have p8 := bd_sstep hu p7 (lb_int 6 2 (by decide) (by decide)) (by decide) (by decide) (by decide) (by decide)
  exact p8.mono (by decide)
theorem bd_sineM {f : Nat} {A : Int} (hf : Bd .f64 f A) (h : A = 1) : Bd .f64 (sineM f) 73 := by
  subst h
  have hg : Bd .f64 (sineG f) 2 := by
    unfold sineG
    split
    · exact bd_sub hf (bd_half.mono (by decide)) (by decide) (by decide)
    · exact hf.mono (by decide)
  have hh : Bd .f64 (sineH (sineG f)) 3 := by
    unfold sineH
    split
    · exact bd_sub (bd_half.mono (by decide)) hg (by decide) (by decide)
    · exact hg.mono (by decide)
  have hz : Bd .f64 (sineZ f) 6 := bd_mul hh bd_tau (by decide) (by decide)
  have hu : Bd .f64 (fbin .mul .f64 (sineZ f) (sineZ f)) 12 := bd_mul hz hz (by decide) (by decide)
  exact bd_mul hz (bd_sineR hu) (by decide) (by decide)
end Go.Proofs.Ytogmcinaoemnpab
