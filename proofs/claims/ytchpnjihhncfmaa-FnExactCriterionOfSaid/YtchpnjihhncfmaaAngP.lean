/- The angle of a point as a function of words, and that it is a number that a float32 can hold. -/
import Derived.Test.YtchpnjihhncfmaaWid
import Derived.Test.YtchpnjihhncfmaaPos
import Derived.Test.YtchpnjihhncfmaaRoot
namespace Go.Proofs.Ytchpnjihhncfmaa
open Go Go.RowKit

theorem read_word_sign (f : Ieee.Format) (s : Bool) (r : Nat) (h : r < f.signWeight) {t : Bool} {m : Nat} {e : Int} (hd : f.read (f.word s r) = .number t m e) : t = s := by
  have hs : (f.word s r / f.signWeight % 2 == 1) = s := by
    have hp : 0 < f.signWeight := Nat.two_pow_pos _
    unfold Ieee.Format.word
    cases s
    · simp [Nat.div_eq_of_lt h]
    · simp [Nat.add_div_left _ hp, Nat.div_eq_of_lt h]
  unfold Ieee.Format.read at hd
  dsimp only at hd
  rw [hs] at hd
  by_cases c1 : f.word s r % f.signWeight < f.binade
  · rw [if_pos c1] at hd; injection hd with h1; exact h1.symm
  · rw [if_neg c1] at hd
    by_cases c2 : f.word s r % f.signWeight < f.infRung
    · rw [if_pos c2] at hd; injection hd with h1; exact h1.symm
    · rw [if_neg c2] at hd
      by_cases c3 : f.word s r % f.signWeight = f.infRung
      · rw [if_pos c3] at hd; cases hd
      · rw [if_neg c3] at hd; cases hd
theorem enc_sign {s t : Bool} {m m' : Nat} {e e' : Int} (hd : FloatKind.decode .f64 (FloatKind.encode .f64 (.number s m e)) = .number t m' e') : t = s := by
  have hd' : Ieee.double.read (Ieee.double.nearest s m e) = _ := hd
  unfold Ieee.Format.nearest at hd'
  dsimp only at hd'
  split at hd'
  · exact read_word_sign _ _ _ (Nat.two_pow_pos _) hd'
  · exact read_word_sign _ _ _ (Nat.lt_of_le_of_lt (Nat.min_le_right ..) Ieee.double.infRung_lt) hd'
theorem pb_of_bd {x : Nat} {B : Int} (h : Bd .f64 x B) (hx : ∃ m e, x = FloatKind.encode .f64 (.number false m e)) : Pb x B := by
  obtain ⟨s, m, e, hd, hv⟩ := h
  obtain ⟨m', e', rfl⟩ := hx
  have := enc_sign hd
  subst this
  exact ⟨m, e, hd, hv⟩
theorem pb_quo {x y : Nat} {A B C : Int} (hx : Pb x A) (hy : Pl y B C) (hlo : -1074 ≤ A - C + 1) (hhi : A - C + 1 ≤ 1022) : Pb (fbin .quo .f64 x y) (A - C + 1) := by
  refine pb_of_bd (bd_quo hx.bd hy.lb hlo hhi) ?_
  obtain ⟨m, i, h1, _⟩ := hx
  obtain ⟨n, j, h2, _, w2⟩ := hy
  have h1' : FloatKind.f64.format.read x = _ := h1
  have h2' : FloatKind.f64.format.read y = _ := h2
  have hn : n ≠ 0 := by
    rintro rfl
    have := two_pos C
    have h0 : ((0 : Nat) : Rat) = 0 := rfl
    grind
  simp only [fbin, floatBits, Ieee.Format.div, h1', h2', Ieee.Datum.quotient, hn, if_false, Option.map_some, Option.getD_some]
  exact ⟨_, _, rfl⟩
theorem pb_sqrt {x : Nat} {A H : Int} (hx : Pb x A) (hA : A ≤ H + H) (h0 : 0 ≤ H) (h1 : H ≤ 1000) : Pb (fsqrt x) (H + 1) := by
  obtain ⟨m, i, hd, hv⟩ := hx
  refine pb_of_bd (bd_sqrt (.inl hd) (Rat.le_trans hv (two_mono hA)) h0 h1) ?_
  have hd' : Ieee.double.read x = _ := hd
  by_cases hm : m = 0
  · subst hm
    exact ⟨0, i, by simp [fsqrt, Ieee.Format.sqrt, hd', Ieee.Datum.root]; rfl⟩
  · simp only [fsqrt, Ieee.Format.sqrt, hd', Ieee.Datum.root, hm, if_false, Bool.false_eq_true, Option.map_some, Option.getD_some]
    exact ⟨_, _, rfl⟩
def eightW : Nat := 4620693217682128896
def flatStep (t : Nat) : Nat := fbin .quo .f64 t (fbin .add .f64 oneW (fsqrt (fbin .add .f64 oneW (fbin .mul .f64 t t))))
def flatT (t : Nat) : Nat := flatStep (flatStep (flatStep t))
def astep (u c p : Nat) : Nat := fbin .sub .f64 (fbin .quo .f64 oneW c) (fbin .mul .f64 u p)
def flatR (u : Nat) : Nat :=
  astep u (floatOfInt .f64 1) (astep u (floatOfInt .f64 3) (astep u (floatOfInt .f64 5) (astep u (floatOfInt .f64 7) (astep u (floatOfInt .f64 9) (astep u (floatOfInt .f64 11) (astep u (floatOfInt .f64 13) (astep u (floatOfInt .f64 15) 0)))))))
def flatB (T : Nat) : Nat := fbin .quo .f64 (fbin .mul .f64 eightW (fbin .mul .f64 T (flatR (fbin .mul .f64 T T)))) tauW
def flatA (t : Nat) : Nat := flatB (flatT t)
def steepA (a b : Nat) : Nat := if gt64 a b = true then fbin .sub .f64 quarW (flatA (fbin .quo .f64 b a)) else flatA (fbin .quo .f64 a b)
theorem pl_one {A : Int} (h : 0 ≤ A) : Pl oneW A 0 := ⟨4503599627370496, -52, by decide +kernel, Rat.le_trans (show ((4503599627370496 : Nat) : Rat) * two (-52) ≤ two 0 by decide +kernel) (two_mono h), by decide +kernel⟩
theorem pb_flatStep {t : Nat} {A H : Int} (ht : Pb t A) (h0 : 0 ≤ A) (hA : A + A + 1 ≤ H + H) (hH : H ≤ 500) : Pb (flatStep t) (A + 1) := by
  have s1 := pb_mul ht ht (by omega) (by omega)
  have s2 := pl_add (pl_one (show 0 ≤ A + A by omega)) s1 (by omega) (by omega) (by omega)
  have s3 := pb_sqrt s2.pb hA (by omega) (by omega)
  have s4 := pl_add (pl_one (show 0 ≤ H + 1 by omega)) s3 (by omega) (by omega) (by omega)
  have s5 := pb_quo ht s4 (by omega) (by omega)
  exact s5.mono (by omega)
theorem bd_astep {u p : Nat} {A B : Int} {c : Nat} (hu : Bd .f64 u A) (hp : Bd .f64 p B) (hc : Lb .f64 c 0) (h0 : 1 ≤ A + B) (h1 : A + B ≤ 1000) : Bd .f64 (astep u c p) (A + B + 1) := by
  have b1 := bd_mul hu hp (by simp only [lowE]; omega) (by simp only [topE]; omega)
  have b2 := bd_quo bd_one hc (by decide) (by decide)
  exact bd_sub (b2.mono (by omega)) b1 (by simp only [lowE]; omega) (by simp only [topE]; omega)
theorem bd_zero : Bd .f64 0 0 := ⟨false, 0, -1074, by decide +kernel, by decide +kernel⟩
theorem bd_flatR {u : Nat} (hu : Bd .f64 u 10) : Bd .f64 (flatR u) 88 := by
  unfold flatR
  have p1 := bd_astep hu bd_zero (lb_int 15 0 (by decide) (by decide)) (by decide) (by decide)
  have p2 := bd_astep hu p1 (lb_int 13 0 (by decide) (by decide)) (by decide) (by decide)
  have p3 := bd_astep hu p2 (lb_int 11 0 (by decide) (by decide)) (by decide) (by decide)
  have p4 := bd_astep hu p3 (lb_int 9 0 (by decide) (by decide)) (by decide) (by decide)
  have p5 := bd_astep hu p4 (lb_int 7 0 (by decide) (by decide)) (by decide) (by decide)
  have p6 := bd_astep hu p5 (lb_int 5 0 (by decide) (by decide)) (by decide) (by decide)
  have p7 := bd_astep hu p6 (lb_int 3 0 (by decide) (by decide)) (by decide) (by decide)
  have p8 := bd_astep hu p7 (lb_int 1 0 (by decide) (by decide)) (by decide) (by decide)
  exact p8.mono (by decide)
theorem bd_eight : Bd .f64 eightW 3 := ⟨false, 4503599627370496, -49, by decide +kernel, by decide +kernel⟩
theorem lb_tau : Lb .f64 tauW 2 := ⟨false, 7074237752028440, -50, by decide +kernel, by decide +kernel⟩
theorem bd_quar : Bd .f64 quarW 0 := ⟨false, 4503599627370496, -54, by decide +kernel, by decide +kernel⟩
theorem bd_flatA {t : Nat} (ht : Pb t 2) : Bd .f64 (flatA t) 95 := by
  have t1 := pb_flatStep (H := 3) ht (by decide) (by decide) (by decide)
  have t2 := pb_flatStep (H := 4) t1 (by decide) (by decide) (by decide)
  have t3 := pb_flatStep (H := 5) t2 (by decide) (by decide) (by decide)
  have hT : Bd .f64 (flatT t) 5 := t3.bd
  unfold flatA flatB
  have hu := bd_mul hT hT (by decide) (by decide)
  have hp := bd_mul hT (bd_flatR hu) (by decide) (by decide)
  have h8 := bd_mul bd_eight hp (by decide) (by decide)
  exact bd_quo h8 lb_tau (by decide) (by decide)
/-- The quotient of a number by one that is not less. -/
theorem pb_ratio {a b : Nat} {m n : Nat} {i j : Int} (ha : FloatKind.decode .f64 a = .number false m i) (hb : FloatKind.decode .f64 b = .number false n j) (hn : n ≠ 0) (hle : (m : Rat) * two i ≤ (n : Rat) * two j) : Pb (fbin .quo .f64 a b) 2 := by
  have u : (n : Rat) * two j ≤ two (j + n.log2 + 1) := by
    have : (j + (n.log2 : Int) + 1) = ((n.log2 : Int) + 1) + j := by omega
    rw [this, two_add]
    exact Rat.mul_le_mul_of_nonneg_right (Rat.le_of_lt (mul_lt_two n)) (Rat.le_of_lt (two_pos j))
  have l : two (j + n.log2) ≤ (n : Rat) * two j := by
    rw [Int.add_comm, two_add]
    exact Rat.mul_le_mul_of_nonneg_right (two_le_mul hn) (Rat.le_of_lt (two_pos j))
  have h := pb_quo (A := j + n.log2 + 1) (B := j + n.log2 + 1) (C := j + n.log2) ⟨m, i, ha, Rat.le_trans hle u⟩ ⟨n, j, hb, u, l⟩ (by omega) (by omega)
  have e : j + (n.log2 : Int) + 1 - (j + n.log2) + 1 = 2 := by omega
  rw [e] at h
  exact h
theorem bd_steepA {a b : Nat} {m n : Nat} {i j : Int} (ha : FloatKind.decode .f64 a = .number false m i) (hb : FloatKind.decode .f64 b = .number false n j) (h : m ≠ 0 ∨ n ≠ 0) : Bd .f64 (steepA a b) 96 := by
  obtain ⟨o1, o2, o3⟩ := order_val ha hb
  have sv : ∀ (m : Nat) (i : Int), sval false m i = (m : Rat) * two i := fun m i => by unfold sval; simp
  rw [sv, sv] at o1 o2 o3
  have hm := Rat.mul_nonneg (natCast_nonneg m) (Rat.le_of_lt (two_pos i))
  have hn := Rat.mul_nonneg (natCast_nonneg n) (Rat.le_of_lt (two_pos j))
  have pos : ∀ (q : Nat) (e : Int), q ≠ 0 → 0 < (q : Rat) * two e := fun q e hq => Rat.mul_pos (by exact_mod_cast (by omega : 0 < q)) (two_pos e)
  have zero : ∀ (e : Int), ((0 : Nat) : Rat) * two e = 0 := by
    intro e
    have h0 : ((0 : Nat) : Rat) = 0 := rfl
    rw [h0, Rat.zero_mul]
  unfold steepA gt64
  by_cases hc : (n : Rat) * two j < (m : Rat) * two i
  · rw [o3 hc]
    have hm0 : m ≠ 0 := by rintro rfl; rw [zero] at hc; grind
    exact bd_sub (bd_quar.mono (by decide)) (bd_flatA (pb_ratio hb ha hm0 (Rat.le_of_lt hc))) (by decide) (by decide)
  · have hle : (m : Rat) * two i ≤ (n : Rat) * two j := by grind
    have hn0 : n ≠ 0 := by
      rintro rfl
      rcases h with h | h
      · have := pos m i h; rw [zero] at hle; grind
      · exact h rfl
    have ho : FloatKind.f64.format.order a b = some .lt ∨ FloatKind.f64.format.order a b = some .eq := by
      by_cases he : (m : Rat) * two i = (n : Rat) * two j
      · exact .inr (o2 he)
      · exact .inl (o1 (by grind))
    have hg : (FloatKind.f64.format.order a b == some .gt) = false := by rcases ho with h | h <;> rw [h] <;> rfl
    rw [hg]
    exact (bd_flatA (pb_ratio ha hb hn0 hle)).mono (by decide)
def angX (x1 : Bool) (A : Nat) : Nat := if x1 = true then fbin .sub .f64 halfW A else A
def angY (y1 : Bool) (A : Nat) : Nat := if y1 = true then fneg .f64 A else A
theorem bd_angX {A : Nat} (h : Bd .f64 A 96) (x1 : Bool) : Bd .f64 (angX x1 A) 97 := by
  unfold angX
  split
  · exact bd_sub (bd_half.mono (by decide)) h (by decide) (by decide)
  · exact h.mono (by decide)
end Go.Proofs.Ytchpnjihhncfmaa
