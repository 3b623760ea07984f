
import Derived.Test.YtmpcalpapkedhaaRowKit
import Derived.Test.YtmpcalpapkedhaaBd
import Derived.Test.YtmpcalpapkedhaaWid
import Derived.Test.YtmpcalpapkedhaaPos
import Derived.Test.YtmpcalpapkedhaaAbsW
import Derived.Test.YtmpcalpapkedhaaFlWiden
namespace Go.Proofs.Ytmpcalpapkedhaa
open Go Go.ChangeShapes Go.WideShapes Go.ChangeAt Go.RowKit
/- The square root as a function of words. -/
open Go Go.RowKit
def fsqrt (x : Nat) : Nat := (Ieee.double.sqrt x).getD (qnan .f64)
theorem fsqrt_congr {x y : Nat} (h : canon .f64 x = canon .f64 y) : fsqrt x = fsqrt y := by
  have hn : isNaN .f64 x = isNaN .f64 y := by rw [← isNaN_canon .f64 x, h, isNaN_canon]
  cases hx : isNaN .f64 x
  · rw [canon_num hx, canon_num (by rw [← hn, hx])] at h; rw [h]
  · obtain ⟨s, t, e⟩ := nan_of hx
    obtain ⟨s', t', e'⟩ := nan_of (show isNaN .f64 y = true by rw [← hn, hx])
    have e1 : Ieee.double.read x = _ := e
    have e2 : Ieee.double.read y = _ := e'
    simp [fsqrt, Ieee.Format.sqrt, e1, e2, Ieee.Datum.root]
theorem fsqrt_pick (x s : Nat) : fsqrt (pick .f64 x s) = fsqrt x := fsqrt_congr (canon_pick ..)
theorem sqrt_num {x r : Nat} (h : Ieee.double.sqrt x = some r) : isNaN .f64 r = false := map_num (k := .f64) (fun _ e => root_num e) h
theorem run_sqrt {P : Program} (w : World) (x : Nat) : ∃ s n, (Extern.MathSqrt.sqrt #[.float .f64 x]).run P w = .ok (.float .f64 (pick .f64 (fsqrt x) s)) (w.drewN n) := by
  cases hb : Ieee.double.sqrt x with
  | some r =>
    refine ⟨0, 0, ?_⟩
    have hf : fsqrt x = r := by simp [fsqrt, hb]
    rw [hf, pick_num (sqrt_num hb)]
    have hb' : FloatKind.f64.format.sqrt x = some r := hb
    show Sem.run P (match FloatKind.f64.format.sqrt x with | some r => pure (Value.float .f64 r) | none => (choose (.nanBits .f64 x x)) >>= fun n => pure (.float .f64 n)) w = _
    rw [hb']
    rfl
  | none =>
    refine ⟨w.tape w.drawn (.nanBits .f64 x x), 1, ?_⟩
    have hf : fsqrt x = qnan .f64 := by simp [fsqrt, hb]
    rw [hf, pick_nan (isNaN_qnan .f64)]
    have hr : (choose (.nanBits .f64 x x)).run P w = .ok (nanw .f64 (w.tape w.drawn (.nanBits .f64 x x))) (w.drewN 1) := by rw [← nanw_bits .f64 x x]; rfl
    have hb' : FloatKind.f64.format.sqrt x = none := hb
    show Sem.run P (match FloatKind.f64.format.sqrt x with | some r => pure (Value.float .f64 r) | none => (choose (.nanBits .f64 x x)) >>= fun n => pure (.float .f64 n)) w = _
    rw [hb']
    simp [hr, -run_choose, -run_choose_drew]
theorem rootFrom_le (n : Nat) : ∀ (todo root : Nat), root * root ≤ n → Ieee.Datum.rootFrom n todo root * Ieee.Datum.rootFrom n todo root ≤ n := by
  intro todo
  induction todo with
  | zero => intro root h; exact h
  | succ t ih =>
    intro root h
    unfold Ieee.Datum.rootFrom
    dsimp only
    split
    · rename_i hc; exact ih _ hc
    · exact ih _ h
theorem sq_le {a b : Rat} (_ha : 0 ≤ a) (hb : 0 ≤ b) (h : a * a ≤ b * b) : a ≤ b := by
  by_cases hc : a ≤ b
  · exact hc
  · exfalso
    have h1 : b < a := by grind
    have h2 := Rat.mul_le_mul_of_nonneg_left (Rat.le_of_lt h1) hb
    have h3 : b * a < a * a := Rat.mul_lt_mul_of_pos_right h1 (by grind)
    grind
/-- The root of a number that is not negative and no greater than two to an even power. -/
theorem bd_sqrt {x : Nat} {m : Nat} {i : Int} (hd : FloatKind.decode .f64 x = .number false m i ∨ m = 0 ∧ FloatKind.decode .f64 x = .number true m i) {H : Int} (hv : (m : Rat) * two i ≤ two (H + H)) (h0 : 0 ≤ H) (h1 : H ≤ 1000) : Bd .f64 (fsqrt x) (H + 1) := by
  by_cases hm : m = 0
  · subst hm
    have hz : ∃ s, FloatKind.decode .f64 x = .number s 0 i := by
      rcases hd with h | ⟨_, h⟩
      · exact ⟨_, h⟩
      · exact ⟨_, h⟩
    obtain ⟨s, hs⟩ := hz
    have hs' : Ieee.double.read x = _ := hs
    have : fsqrt x = FloatKind.encode .f64 (.number s 0 i) := by simp [fsqrt, Ieee.Format.sqrt, hs', Ieee.Datum.root]; rfl
    rw [this]
    refine encode_bd .f64 _ _ _ _ ?_ (by simp only [lowE]; omega) (by simp only [topE]; omega)
    have := two_pos (H + 1)
    have h0 : ((0 : Nat) : Rat) = 0 := rfl
    grind
  · have hs : FloatKind.decode .f64 x = .number false m i := by
      rcases hd with h | ⟨h, _⟩
      · exact h
      · exact absurd h hm
    have hs' : Ieee.double.read x = _ := hs
    obtain ⟨more0, hm0⟩ : ∃ q, q = 2 * (Ieee.double.fractionBits + 2) - m.log2 := ⟨_, rfl⟩
    obtain ⟨more, hmo⟩ : ∃ q, q = more0 + ((i - more0) % 2).toNat := ⟨_, rfl⟩
    obtain ⟨wh, hw⟩ : ∃ q, q = Ieee.Datum.rootFrom (m <<< more) ((m <<< more).log2 / 2 + 1) 0 := ⟨_, rfl⟩
    have hval : fsqrt x = FloatKind.encode .f64 (.number false (2 * wh + (wh * wh != m <<< more).toNat) ((i - more) / 2 - 1)) := by
      simp only [fsqrt, Ieee.Format.sqrt, hs', Ieee.Datum.root, hm, if_false, Bool.false_eq_true, ← hm0, ← hmo, ← hw, Option.map_some, Option.getD_some]; rfl
    rw [hval]
    refine encode_bd .f64 _ _ _ _ ?_ (by simp only [lowE]; omega) (by simp only [topE]; omega)
    have hsq : wh * wh ≤ m * 2 ^ more := by rw [hw, ← Nat.shiftLeft_eq]; exact rootFrom_le _ _ _ (by simp)
    have hev : (i - more) / 2 + (i - more) / 2 = i - more := by omega
    have hn1 : 1 ≤ m * 2 ^ more := by have := Nat.two_pow_pos more; have := Nat.mul_le_mul (show 1 ≤ m by omega) (show 1 ≤ 2 ^ more by omega); omega
    -- wh is at least 1, or what is written is at most one half of the last place
    have r1 : ((wh : Rat) * two ((i - more) / 2)) * ((wh : Rat) * two ((i - more) / 2)) ≤ two H * two H := by
      have e1 : ((wh : Rat) * two ((i - more) / 2)) * ((wh : Rat) * two ((i - more) / 2)) = (wh : Rat) * (wh : Rat) * two (i - more) := by
        have : two (i - more) = two ((i - more) / 2) * two ((i - more) / 2) := by rw [← two_add, hev]
        rw [this]; grind
      have e2 : ((wh : Rat) * (wh : Rat)) ≤ (m : Rat) * two (more : Int) := by rw [two_nat]; exact_mod_cast hsq
      have e3 : two (more : Int) * two (i - more) = two i := by rw [← two_add]; congr 1; omega
      have e4 := Rat.mul_le_mul_of_nonneg_right e2 (Rat.le_of_lt (two_pos (i - more)))
      rw [e1, ← two_add]
      have e5 : (m : Rat) * two (more : Int) * two (i - more) = (m : Rat) * two i := by rw [Rat.mul_assoc, e3]
      rw [e5] at e4
      exact Rat.le_trans e4 hv
    have r2 := sq_le (Rat.mul_nonneg (natCast_nonneg wh) (Rat.le_of_lt (two_pos _))) (Rat.le_of_lt (two_pos H)) r1
    have hone : (1 : Rat) * two ((i - more) / 2) ≤ two H := by
      have e1 : ((1 : Rat) * two ((i - more) / 2)) * ((1 : Rat) * two ((i - more) / 2)) ≤ two H * two H := by
        have a1 : ((1 : Rat) * two ((i - more) / 2)) * ((1 : Rat) * two ((i - more) / 2)) = two (i - more) := by
          have : two (i - more) = two ((i - more) / 2) * two ((i - more) / 2) := by rw [← two_add, hev]
          rw [this]; grind
        have a2 : (1 : Rat) ≤ (m : Rat) * two (more : Int) := by rw [two_nat]; exact_mod_cast hn1
        have a3 : two (more : Int) * two (i - more) = two i := by rw [← two_add]; congr 1; omega
        have a4 := Rat.mul_le_mul_of_nonneg_right a2 (Rat.le_of_lt (two_pos (i - more)))
        have a5 : (m : Rat) * two (more : Int) * two (i - more) = (m : Rat) * two i := by rw [Rat.mul_assoc, a3]
        rw [a1, ← two_add]
        grind
      exact sq_le (by have := two_pos ((i - more) / 2); grind) (Rat.le_of_lt (two_pos H)) e1
    have hb : (2 * wh + (wh * wh != m <<< more).toNat : Nat) ≤ 2 * wh + 1 := by have := Bool.toNat_le (wh * wh != m <<< more); omega
    generalize 2 * wh + (wh * wh != m <<< more).toNat = K at *
    have hK : (K : Rat) ≤ 2 * (wh : Rat) + 1 := by exact_mod_cast hb
    have e6 : two ((i - more) / 2 - 1) * 2 = two ((i - more) / 2) := by
      have a2 : (2 : Rat) = two 1 := by decide +kernel
      rw [a2, ← two_add]; congr 1; omega
    have e7 : two (H + 1) = two H * 2 := by
      have a2 : (2 : Rat) = two 1 := by decide +kernel
      rw [a2, ← two_add]
    have pp := two_pos ((i - more) / 2 - 1)
    have s1 := Rat.mul_le_mul_of_nonneg_right hK (Rat.le_of_lt pp)
    rw [e7]
    have s2 : (2 * (wh : Rat) + 1) * two ((i - more) / 2 - 1) = (wh : Rat) * (two ((i - more) / 2 - 1) * 2) + two ((i - more) / 2 - 1) := by
      generalize two ((i - more) / 2 - 1) = p
      grind
    rw [s2, e6] at s1
    rw [Rat.one_mul] at hone
    generalize (wh : Rat) * two ((i - more) / 2) = A at *
    generalize two ((i - more) / 2) = B at *
    generalize two ((i - more) / 2 - 1) = C at *
    generalize two H = D at *
    generalize (K : Rat) * C = E at *
    clear hK hb hval hev hsq hw hmo hm0 hs' hs hd hv
    grind

/- The angle of a point as a function of words, and that it is a number that a float32 can hold. -/
open Go Go.RowKit

theorem read_word_sign (f : Ieee.Format) (s : Bool) (r : Nat) (h : r < f.signWeight) {t : Bool} {m : Nat} {e : Int} (hd : f.read (f.word s r) = .number t m e) : t = s := by
  have hs : (f.word s r / f.signWeight % 2 == 1) = s := by
    have hp : 0 < f.signWeight := Nat.two_pow_pos _
    unfold Ieee.Format.word
    cases s
    · simp [Nat.div_eq_of_lt h]
    · simp [Nat.add_div_left _ hp, Nat.div_eq_of_lt h]
  unfold Ieee.Format.read at hd
  dsimp only at hd
  rw [hs] at hd
  by_cases c1 : f.word s r % f.signWeight < f.binade
  · rw [if_pos c1] at hd; injection hd with h1; exact h1.symm
  · rw [if_neg c1] at hd
    by_cases c2 : f.word s r % f.signWeight < f.infRung
    · rw [if_pos c2] at hd; injection hd with h1; exact h1.symm
    · rw [if_neg c2] at hd
      by_cases c3 : f.word s r % f.signWeight = f.infRung
      · rw [if_pos c3] at hd; cases hd
      · rw [if_neg c3] at hd; cases hd
theorem enc_sign {s t : Bool} {m m' : Nat} {e e' : Int} (hd : FloatKind.decode .f64 (FloatKind.encode .f64 (.number s m e)) = .number t m' e') : t = s := by
  have hd' : Ieee.double.read (Ieee.double.nearest s m e) = _ := hd
  unfold Ieee.Format.nearest at hd'
  dsimp only at hd'
  split at hd'
  · exact read_word_sign _ _ _ (Nat.two_pow_pos _) hd'
  · exact read_word_sign _ _ _ (Nat.lt_of_le_of_lt (Nat.min_le_right ..) Ieee.double.infRung_lt) hd'
theorem pb_of_bd {x : Nat} {B : Int} (h : Bd .f64 x B) (hx : ∃ m e, x = FloatKind.encode .f64 (.number false m e)) : Pb x B := by
  obtain ⟨s, m, e, hd, hv⟩ := h
  obtain ⟨m', e', rfl⟩ := hx
  have := enc_sign hd
  subst this
  exact ⟨m, e, hd, hv⟩
theorem pb_quo {x y : Nat} {A B C : Int} (hx : Pb x A) (hy : Pl y B C) (hlo : -1074 ≤ A - C + 1) (hhi : A - C + 1 ≤ 1022) : Pb (fbin .quo .f64 x y) (A - C + 1) := by
  refine pb_of_bd (bd_quo hx.bd hy.lb hlo hhi) ?_
  obtain ⟨m, i, h1, _⟩ := hx
  obtain ⟨n, j, h2, _, w2⟩ := hy
  have h1' : FloatKind.f64.format.read x = _ := h1
  have h2' : FloatKind.f64.format.read y = _ := h2
  have hn : n ≠ 0 := by
    rintro rfl
    have := two_pos C
    have h0 : ((0 : Nat) : Rat) = 0 := rfl
    grind
  simp only [fbin, floatBits, Ieee.Format.div, h1', h2', Ieee.Datum.quotient, hn, if_false, Option.map_some, Option.getD_some]
  exact ⟨_, _, rfl⟩
theorem pb_sqrt {x : Nat} {A H : Int} (hx : Pb x A) (hA : A ≤ H + H) (h0 : 0 ≤ H) (h1 : H ≤ 1000) : Pb (fsqrt x) (H + 1) := by
  obtain ⟨m, i, hd, hv⟩ := hx
  refine pb_of_bd (bd_sqrt (.inl hd) (Rat.le_trans hv (two_mono hA)) h0 h1) ?_
  have hd' : Ieee.double.read x = _ := hd
  by_cases hm : m = 0
  · subst hm
    exact ⟨0, i, by simp [fsqrt, Ieee.Format.sqrt, hd', Ieee.Datum.root]; rfl⟩
  · simp only [fsqrt, Ieee.Format.sqrt, hd', Ieee.Datum.root, hm, if_false, Bool.false_eq_true, Option.map_some, Option.getD_some]
    exact ⟨_, _, rfl⟩
def eightW : Nat := 4620693217682128896
def flatStep (t : Nat) : Nat := fbin .quo .f64 t (fbin .add .f64 oneW (fsqrt (fbin .add .f64 oneW (fbin .mul .f64 t t))))
def flatT (t : Nat) : Nat := flatStep (flatStep (flatStep t))
def astep (u c p : Nat) : Nat := fbin .sub .f64 (fbin .quo .f64 oneW c) (fbin .mul .f64 u p)
def flatR (u : Nat) : Nat :=
  astep u (floatOfInt .f64 1) (astep u (floatOfInt .f64 3) (astep u (floatOfInt .f64 5) (astep u (floatOfInt .f64 7) (astep u (floatOfInt .f64 9) (astep u (floatOfInt .f64 11) (astep u (floatOfInt .f64 13) (astep u (floatOfInt .f64 15) 0)))))))
def flatB (T : Nat) : Nat := fbin .quo .f64 (fbin .mul .f64 eightW (fbin .mul .f64 T (flatR (fbin .mul .f64 T T)))) tauW
def flatA (t : Nat) : Nat := flatB (flatT t)
def steepA (a b : Nat) : Nat := if gt64 a b = true then fbin .sub .f64 quarW (flatA (fbin .quo .f64 b a)) else flatA (fbin .quo .f64 a b)
theorem pl_one {A : Int} (h : 0 ≤ A) : Pl oneW A 0 := ⟨4503599627370496, -52, by decide +kernel, Rat.le_trans (show ((4503599627370496 : Nat) : Rat) * two (-52) ≤ two 0 by decide +kernel) (two_mono h), by decide +kernel⟩
theorem pb_flatStep {t : Nat} {A H : Int} (ht : Pb t A) (h0 : 0 ≤ A) (hA : A + A + 1 ≤ H + H) (hH : H ≤ 500) : Pb (flatStep t) (A + 1) := by
  have s1 := pb_mul ht ht (by omega) (by omega)
  have s2 := pl_add (pl_one (show 0 ≤ A + A by omega)) s1 (by omega) (by omega) (by omega)
  have s3 := pb_sqrt s2.pb hA (by omega) (by omega)
  have s4 := pl_add (pl_one (show 0 ≤ H + 1 by omega)) s3 (by omega) (by omega) (by omega)
  have s5 := pb_quo ht s4 (by omega) (by omega)
  exact s5.mono (by omega)
theorem bd_astep {u p : Nat} {A B : Int} {c : Nat} (hu : Bd .f64 u A) (hp : Bd .f64 p B) (hc : Lb .f64 c 0) (h0 : 1 ≤ A + B) (h1 : A + B ≤ 1000) : Bd .f64 (astep u c p) (A + B + 1) := by
  have b1 := bd_mul hu hp (by simp only [lowE]; omega) (by simp only [topE]; omega)
  have b2 := bd_quo bd_one hc (by decide) (by decide)
  exact bd_sub (b2.mono (by omega)) b1 (by simp only [lowE]; omega) (by simp only [topE]; omega)
theorem bd_zero : Bd .f64 0 0 := ⟨false, 0, -1074, by decide +kernel, by decide +kernel⟩
theorem bd_flatR {u : Nat} (hu : Bd .f64 u 10) : Bd .f64 (flatR u) 88 := by
  unfold flatR
  have p1 := bd_astep hu bd_zero (lb_int 15 0 (by decide) (by decide)) (by decide) (by decide)
  have p2 := bd_astep hu p1 (lb_int 13 0 (by decide) (by decide)) (by decide) (by decide)
  have p3 := bd_astep hu p2 (lb_int 11 0 (by decide) (by decide)) (by decide) (by decide)
  have p4 := bd_astep hu p3 (lb_int 9 0 (by decide) (by decide)) (by decide) (by decide)
  have p5 := bd_astep hu p4 (lb_int 7 0 (by decide) (by decide)) (by decide) (by decide)
  have p6 := bd_astep hu p5 (lb_int 5 0 (by decide) (by decide)) (by decide) (by decide)
  have p7 := bd_astep hu p6 (lb_int 3 0 (by decide) (by decide)) (by decide) (by decide)
  have p8 := bd_astep hu p7 (lb_int 1 0 (by decide) (by decide)) (by decide) (by decide)
  exact p8.mono (by decide)
theorem bd_eight : Bd .f64 eightW 3 := ⟨false, 4503599627370496, -49, by decide +kernel, by decide +kernel⟩
theorem lb_tau : Lb .f64 tauW 2 := ⟨false, 7074237752028440, -50, by decide +kernel, by decide +kernel⟩
theorem bd_quar : Bd .f64 quarW 0 := ⟨false, 4503599627370496, -54, by decide +kernel, by decide +kernel⟩
theorem bd_flatA {t : Nat} (ht : Pb t 2) : Bd .f64 (flatA t) 95 := by
  have t1 := pb_flatStep (H := 3) ht (by decide) (by decide) (by decide)
  have t2 := pb_flatStep (H := 4) t1 (by decide) (by decide) (by decide)
  have t3 := pb_flatStep (H := 5) t2 (by decide) (by decide) (by decide)
  have hT : Bd .f64 (flatT t) 5 := t3.bd
  unfold flatA flatB
  have hu := bd_mul hT hT (by decide) (by decide)
  have hp := bd_mul hT (bd_flatR hu) (by decide) (by decide)
  have h8 := bd_mul bd_eight hp (by decide) (by decide)
  exact bd_quo h8 lb_tau (by decide) (by decide)
/-- The quotient of a number by one that is not less. -/
theorem pb_ratio {a b : Nat} {m n : Nat} {i j : Int} (ha : FloatKind.decode .f64 a = .number false m i) (hb : FloatKind.decode .f64 b = .number false n j) (hn : n ≠ 0) (hle : (m : Rat) * two i ≤ (n : Rat) * two j) : Pb (fbin .quo .f64 a b) 2 := by
  have u : (n : Rat) * two j ≤ two (j + n.log2 + 1) := by
    have : (j + (n.log2 : Int) + 1) = ((n.log2 : Int) + 1) + j := by omega
    rw [this, two_add]
    exact Rat.mul_le_mul_of_nonneg_right (Rat.le_of_lt (mul_lt_two n)) (Rat.le_of_lt (two_pos j))
  have l : two (j + n.log2) ≤ (n : Rat) * two j := by
    rw [Int.add_comm, two_add]
    exact Rat.mul_le_mul_of_nonneg_right (two_le_mul hn) (Rat.le_of_lt (two_pos j))
  have h := pb_quo (A := j + n.log2 + 1) (B := j + n.log2 + 1) (C := j + n.log2) ⟨m, i, ha, Rat.le_trans hle u⟩ ⟨n, j, hb, u, l⟩ (by omega) (by omega)
  have e : j + (n.log2 : Int) + 1 - (j + n.log2) + 1 = 2 := by omega
  rw [e] at h
  exact h
theorem bd_steepA {a b : Nat} {m n : Nat} {i j : Int} (ha : FloatKind.decode .f64 a = .number false m i) (hb : FloatKind.decode .f64 b = .number false n j) (h : m ≠ 0 ∨ n ≠ 0) : Bd .f64 (steepA a b) 96 := by
  obtain ⟨o1, o2, o3⟩ := order_val ha hb
  have sv : ∀ (m : Nat) (i : Int), sval false m i = (m : Rat) * two i := fun m i => by unfold sval; simp
  rw [sv, sv] at o1 o2 o3
  have hm := Rat.mul_nonneg (natCast_nonneg m) (Rat.le_of_lt (two_pos i))
  have hn := Rat.mul_nonneg (natCast_nonneg n) (Rat.le_of_lt (two_pos j))
  have pos : ∀ (q : Nat) (e : Int), q ≠ 0 → 0 < (q : Rat) * two e := fun q e hq => Rat.mul_pos (by exact_mod_cast (by omega : 0 < q)) (two_pos e)
  have zero : ∀ (e : Int), ((0 : Nat) : Rat) * two e = 0 := by
    intro e
    have h0 : ((0 : Nat) : Rat) = 0 := rfl
    rw [h0, Rat.zero_mul]
  unfold steepA gt64
  by_cases hc : (n : Rat) * two j < (m : Rat) * two i
  · rw [o3 hc]
    have hm0 : m ≠ 0 := by rintro rfl; rw [zero] at hc; grind
    exact bd_sub (bd_quar.mono (by decide)) (bd_flatA (pb_ratio hb ha hm0 (Rat.le_of_lt hc))) (by decide) (by decide)
  · have hle : (m : Rat) * two i ≤ (n : Rat) * two j := by grind
    have hn0 : n ≠ 0 := by
      rintro rfl
      rcases h with h | h
      · have := pos m i h; rw [zero] at hle; grind
      · exact h rfl
    have ho : FloatKind.f64.format.order a b = some .lt ∨ FloatKind.f64.format.order a b = some .eq := by
      by_cases he : (m : Rat) * two i = (n : Rat) * two j
      · exact .inr (o2 he)
      · exact .inl (o1 (by grind))
    have hg : (FloatKind.f64.format.order a b == some .gt) = false := by rcases ho with h | h <;> rw [h] <;> rfl
    rw [hg]
    exact (bd_flatA (pb_ratio ha hb hn0 hle)).mono (by decide)
def angX (x1 : Bool) (A : Nat) : Nat := if x1 = true then fbin .sub .f64 halfW A else A
def angY (y1 : Bool) (A : Nat) : Nat := if y1 = true then fneg .f64 A else A
theorem bd_angX {A : Nat} (h : Bd .f64 A 96) (x1 : Bool) : Bd .f64 (angX x1 A) 97 := by
  unfold angX
  split
  · exact bd_sub (bd_half.mono (by decide)) h (by decide) (by decide)
  · exact h.mono (by decide)

/- The logarithm as a function of words: how often its number is halved or doubled, and that it is a number that a float32 can hold. -/
open Go Go.RowKit

def c15W : Nat := 4609434218613702656
def c75W : Nat := 4604930618986332160
def twoW : Nat := 4611686018427387904
def ln2W : Nat := 4604418534313441775
def hv (Y : Nat) : Nat → Nat
  | 0 => Y
  | j + 1 => fbin .quo .f64 (hv Y j) twoW
def db (Z : Nat) : Nat → Nat
  | 0 => Z
  | i + 1 => fbin .mul .f64 (db Z i) twoW
/-- x is a number with the sign +, at most two to the power of B, and not zero: at least two to the power of C. -/
theorem dec_two : FloatKind.decode .f64 twoW = .number false 4503599627370496 (-51) := by decide +kernel
theorem quo_two {x m : Nat} {i : Int} (hd : FloatKind.decode .f64 x = .number false m i) (hm : m ≠ 0) :
    ∃ K p, fbin .quo .f64 x twoW = FloatKind.encode .f64 (.number false K p) ∧ (K : Rat) * two p = (m : Rat) * two (i - 1) := by
  obtain ⟨hm53, _, _⟩ := read_double x false m i hd
  have hl : m.log2 < 53 := (Nat.log2_lt hm).2 (by simpa using hm53)
  have h1 : FloatKind.f64.format.read x = _ := hd
  have h2 : FloatKind.f64.format.read twoW = _ := dec_two
  have hn2 : Nat.log2 4503599627370496 = 52 := by decide +kernel
  have hfb : FloatKind.f64.format.fractionBits + 2 = 54 := rfl
  obtain ⟨more, hmo⟩ : ∃ q, q = 54 + 52 - m.log2 := ⟨_, rfl⟩
  have hdvd : (m <<< more) = 4503599627370496 * (m * 2 ^ (more - 52)) := by
    rw [Nat.shiftLeft_eq]
    have : 2 ^ more = 4503599627370496 * 2 ^ (more - 52) := by
      have e : more = 52 + (more - 52) := by omega
      rw [e, Nat.pow_add]
      have : 52 + (more - 52) - 52 = more - 52 := by omega
      rw [this]
    rw [this, Nat.mul_left_comm]
  have hq : (m <<< more) / 4503599627370496 = m * 2 ^ (more - 52) := by rw [hdvd, Nat.mul_div_cancel_left _ (by decide)]
  have hr : (m <<< more) % 4503599627370496 = 0 := by rw [hdvd, Nat.mul_mod_right]
  refine ⟨2 * (m * 2 ^ (more - 52)), i - (-51) - more - 1, ?_, ?_⟩
  · have hb : floatBits .quo .f64 x twoW = some (FloatKind.encode .f64 (.number false (2 * (m * 2 ^ (more - 52))) (i - (-51) - more - 1))) := by
      simp only [floatBits, Ieee.Format.div, h1, h2, Ieee.Datum.quotient, hfb, hn2, ← hmo, hq, hr]
      rfl
    simp [fbin, hb]
  · have e1 : ((2 * (m * 2 ^ (more - 52)) : Nat) : Rat) = (m : Rat) * two ((more - 52 : Nat) : Int) * 2 := by
      rw [natCast_mul, natCast_mul, two_nat]
      have : ((2 : Nat) : Rat) = 2 := rfl
      rw [this]; grind
    have e2 : (2 : Rat) = two 1 := by decide +kernel
    rw [e1, e2, Rat.mul_assoc, Rat.mul_assoc, ← two_add, ← two_add]
    congr 2
    omega
/-- Halving. -/
theorem pl_half {x : Nat} {B C : Int} (h : Pl x B C) (hB : -1000 ≤ B - 1) (hB2 : B ≤ 1000) (hC : -1000 ≤ C - 1) : Pl (fbin .quo .f64 x twoW) (B - 1) (C - 1) := by
  obtain ⟨m, i, hd, hv, hw⟩ := h
  have hm : m ≠ 0 := by
    rintro rfl
    have := two_pos C
    have h0 : ((0 : Nat) : Rat) = 0 := rfl
    grind
  obtain ⟨K, p, hf, hK⟩ := quo_two hd hm
  rw [hf]
  have e0 : two (i - 1) * 2 = two i := by
    have a2 : (2 : Rat) = two 1 := by decide +kernel
    rw [a2, ← two_add]; congr 1; omega
  have e1 : two (B - 1) * 2 = two B := by
    have a2 : (2 : Rat) = two 1 := by decide +kernel
    rw [a2, ← two_add]; congr 1; omega
  have e2 : two (C - 1) * 2 = two C := by
    have a2 : (2 : Rat) = two 1 := by decide +kernel
    rw [a2, ← two_add]; congr 1; omega
  have u1 : (m : Rat) * two i = (m : Rat) * two (i - 1) * 2 := by rw [← e0]; grind
  have v : (K : Rat) * two p ≤ two (B - 1) := by rw [hK]; grind
  have w : two (C - 1) ≤ (K : Rat) * two p := by rw [hK]; grind
  obtain ⟨m', e', hd', h1, h2⟩ := encode_both false K p (B - 1) v (by omega) (by omega)
  exact ⟨m', e', hd', h1, h2 (C - 1) (by omega) w⟩
/-- Doubling. -/
theorem pl_double {x : Nat} {B C : Int} (h : Pl x B C) (hB : -1000 ≤ B) (hB2 : B ≤ 1000) (hC : -1000 ≤ C) : Pl (fbin .mul .f64 x twoW) (B + 1) (C + 1) := by
  obtain ⟨m, i, hd, hv, hw⟩ := h
  obtain ⟨n, j, hd2, hn2⟩ : ∃ n j, FloatKind.decode .f64 twoW = .number false n j ∧ (n : Rat) * two j = 2 := ⟨_, _, dec_two, by decide +kernel⟩
  have h1' : FloatKind.f64.format.read x = _ := hd
  have h2' : FloatKind.f64.format.read twoW = _ := hd2
  have hb : floatBits .mul .f64 x twoW = some (FloatKind.encode .f64 (.number false (m * n) (i + j))) := by
    simp [floatBits, Ieee.Format.mul, h1', h2', Ieee.Datum.product, FloatKind.encode]
  have hf : fbin .mul .f64 x twoW = FloatKind.encode .f64 (.number false (m * n) (i + j)) := by simp [fbin, hb]
  rw [hf]
  have hK : ((m * n : Nat) : Rat) * two (i + j) = (m : Rat) * two i * 2 := by
    rw [natCast_mul, two_add]
    have : (m : Rat) * (n : Rat) * (two i * two j) = (m : Rat) * two i * ((n : Rat) * two j) := by grind
    rw [this, hn2]
  have e1 : two (B + 1) = two B * 2 := by
    have a2 : (2 : Rat) = two 1 := by decide +kernel
    rw [a2, ← two_add]
  have e2 : two (C + 1) = two C * 2 := by
    have a2 : (2 : Rat) = two 1 := by decide +kernel
    rw [a2, ← two_add]
  have v : ((m * n : Nat) : Rat) * two (i + j) ≤ two (B + 1) := by rw [hK, e1]; grind
  have w : two (C + 1) ≤ ((m * n : Nat) : Rat) * two (i + j) := by rw [hK, e2]; grind
  obtain ⟨m', e', hd', h1, h2⟩ := encode_both false _ _ (B + 1) v (by omega) (by omega)
  exact ⟨m', e', hd', h1, h2 (C + 1) (by omega) w⟩
theorem dec_c15 : FloatKind.decode .f64 c15W = .number false 6755399441055744 (-52) := by decide +kernel
theorem dec_c75 : FloatKind.decode .f64 c75W = .number false 6755399441055744 (-53) := by decide +kernel
theorem sval_false (m : Nat) (e : Int) : sval false m e = (m : Rat) * two e := by unfold sval; simp
/-- A number of at least one and a half is more than one; one that is less is at most two. -/
theorem ge15 {x : Nat} {B C : Int} (h : Pl x B C) : (ge64 x c15W = true → 1 ≤ B ∧ Pl x B 0) ∧ (ge64 x c15W = false → Pl x 1 C) := by
  obtain ⟨m, e, hd, hv, hw⟩ := h
  obtain ⟨o1, o2, o3⟩ := order_val hd dec_c15
  rw [sval_false, sval_false] at o1 o2 o3
  have k1 : two 0 < ((6755399441055744 : Nat) : Rat) * two (-52) := by decide +kernel
  have k2 : ((6755399441055744 : Nat) : Rat) * two (-52) ≤ two 1 := by decide +kernel
  unfold ge64
  by_cases c1 : (m : Rat) * two e < ((6755399441055744 : Nat) : Rat) * two (-52)
  · rw [o1 c1]
    exact ⟨(fun h => by cases h), fun _ => ⟨m, e, hd, Rat.le_trans (Rat.le_of_lt c1) k2, hw⟩⟩
  · have hge : ((6755399441055744 : Nat) : Rat) * two (-52) ≤ (m : Rat) * two e := by grind
    have ho : FloatKind.f64.format.order x c15W = some .gt ∨ FloatKind.f64.format.order x c15W = some .eq := by
      by_cases c2 : (m : Rat) * two e = ((6755399441055744 : Nat) : Rat) * two (-52)
      · exact .inr (o2 c2)
      · exact .inl (o3 (by grind))
    refine ⟨fun _ => ⟨?_, m, e, hd, hv, by grind⟩, fun h => ?_⟩
    · by_cases hB : 1 ≤ B
      · exact hB
      · exfalso
        have := two_mono (show B ≤ 0 by omega)
        grind
    · rcases ho with h' | h' <;> rw [h'] at h <;> cases h
theorem lt75 {x : Nat} {B C : Int} (h : Pl x B C) : (lt64 x c75W = true → C ≤ -1 ∧ Pl x 0 C) := by
  obtain ⟨m, e, hd, hv, hw⟩ := h
  obtain ⟨o1, o2, o3⟩ := order_val hd dec_c75
  rw [sval_false, sval_false] at o1 o2 o3
  have k1 : ((6755399441055744 : Nat) : Rat) * two (-53) < two 0 := by decide +kernel
  intro h
  unfold lt64 at h
  by_cases c1 : (m : Rat) * two e < ((6755399441055744 : Nat) : Rat) * two (-53)
  · refine ⟨?_, m, e, hd, by grind, hw⟩
    by_cases hC : C ≤ -1
    · exact hC
    · exfalso
      have := two_mono (show 0 ≤ C by omega)
      grind
  · exfalso
    by_cases c2 : (m : Rat) * two e = ((6755399441055744 : Nat) : Rat) * two (-53)
    · rw [o2 c2] at h; cases h
    · rw [o3 (by grind)] at h; cases h
/-- It is halved j times: as long as it is one and a half or more. -/
def First1 (Y j : Nat) : Prop := ge64 (hv Y j) c15W = false ∧ ∀ k, k < j → ge64 (hv Y k) c15W = true
def First2 (Z i : Nat) : Prop := lt64 (db Z i) c75W = false ∧ ∀ k, k < i → lt64 (db Z k) c75W = true
theorem First1.uniq {Y j k : Nat} (h : First1 Y j) (h' : First1 Y k) : j = k := by
  rcases Nat.lt_trichotomy j k with c | c | c
  · have := h'.2 j c; rw [h.1] at this; cases this
  · exact c
  · have := h.2 k c; rw [h'.1] at this; cases this
theorem First2.uniq {Y j k : Nat} (h : First2 Y j) (h' : First2 Y k) : j = k := by
  rcases Nat.lt_trichotomy j k with c | c | c
  · have := h'.2 j c; rw [h.1] at this; cases this
  · exact c
  · have := h.2 k c; rw [h'.1] at this; cases this
def logS (x : Nat) : Nat := fbin .quo .f64 (fbin .sub .f64 x oneW) (fbin .add .f64 x oneW)
def lstep (u c q : Nat) : Nat := fbin .add .f64 (fbin .quo .f64 oneW c) (fbin .mul .f64 u q)
def logR (u : Nat) : Nat :=
  lstep u (floatOfInt .f64 1) (lstep u (floatOfInt .f64 3) (lstep u (floatOfInt .f64 5) (lstep u (floatOfInt .f64 7) (lstep u (floatOfInt .f64 9) (lstep u (floatOfInt .f64 11) (lstep u (floatOfInt .f64 13) (lstep u (floatOfInt .f64 15)
    (lstep u (floatOfInt .f64 17) (lstep u (floatOfInt .f64 19) (lstep u (floatOfInt .f64 21) (lstep u (floatOfInt .f64 23) (lstep u (floatOfInt .f64 25) 0))))))))))))
def logQ (x : Nat) (e : Int) : Nat := fbin .add .f64 (fbin .mul .f64 twoW (fbin .mul .f64 (logS x) (logR (fbin .mul .f64 (logS x) (logS x))))) (fbin .mul .f64 (floatOfInt .f64 e) ln2W)
theorem bd_lstep {u p : Nat} {A B : Int} {c : Nat} (hu : Bd .f64 u A) (hp : Bd .f64 p B) (hc : Lb .f64 c 0) (h0 : 1 ≤ A + B) (h1 : A + B ≤ 1000) : Bd .f64 (lstep u c p) (A + B + 1) := by
  have b1 := bd_mul hu hp (by simp only [lowE]; omega) (by simp only [topE]; omega)
  have b2 := bd_quo bd_one hc (by decide) (by decide)
  exact bd_add (b2.mono (by omega)) b1 (by simp only [lowE]; omega) (by simp only [topE]; omega)
theorem bd_logR {u : Nat} (hu : Bd .f64 u 6) : Bd .f64 (logR u) 91 := by
  unfold logR
  have p1 := bd_lstep hu bd_zero (lb_int 25 0 (by decide) (by decide)) (by decide) (by decide)
  have p2 := bd_lstep hu p1 (lb_int 23 0 (by decide) (by decide)) (by decide) (by decide)
  have p3 := bd_lstep hu p2 (lb_int 21 0 (by decide) (by decide)) (by decide) (by decide)
  have p4 := bd_lstep hu p3 (lb_int 19 0 (by decide) (by decide)) (by decide) (by decide)
  have p5 := bd_lstep hu p4 (lb_int 17 0 (by decide) (by decide)) (by decide) (by decide)
  have p6 := bd_lstep hu p5 (lb_int 15 0 (by decide) (by decide)) (by decide) (by decide)
  have p7 := bd_lstep hu p6 (lb_int 13 0 (by decide) (by decide)) (by decide) (by decide)
  have p8 := bd_lstep hu p7 (lb_int 11 0 (by decide) (by decide)) (by decide) (by decide)
  have p9 := bd_lstep hu p8 (lb_int 9 0 (by decide) (by decide)) (by decide) (by decide)
  have p10 := bd_lstep hu p9 (lb_int 7 0 (by decide) (by decide)) (by decide) (by decide)
  have p11 := bd_lstep hu p10 (lb_int 5 0 (by decide) (by decide)) (by decide) (by decide)
  have p12 := bd_lstep hu p11 (lb_int 3 0 (by decide) (by decide)) (by decide) (by decide)
  have p13 := bd_lstep hu p12 (lb_int 1 0 (by decide) (by decide)) (by decide) (by decide)
  exact p13.mono (by decide)
theorem bd_two : Bd .f64 twoW 1 := ⟨false, 4503599627370496, -51, by decide +kernel, by decide +kernel⟩
theorem bd_ln2 : Bd .f64 ln2W 0 := ⟨false, 6243314768165359, -53, by decide +kernel, by decide +kernel⟩
theorem bd_int (n : Int) (C : Nat) (h : n.natAbs ≤ 2 ^ C) (hC : C ≤ 52) : Bd .f64 (floatOfInt .f64 n) C := by
  have h53 : n.natAbs < 9007199254740992 := by
    have : 2 ^ C ≤ 2 ^ 52 := Nat.pow_le_pow_right (by omega) hC
    simp only [Nat.reducePow] at this
    omega
  obtain ⟨s, m, e, hd, hv⟩ := floatOfInt_val n h53
  refine ⟨s, m, e, hd, ?_⟩
  rw [sval_abs s m e (two C), hv, two_nat]
  have h1 : n ≤ ((2 ^ C : Nat) : Int) := by omega
  have h2 : -((2 ^ C : Nat) : Int) ≤ n := by omega
  refine ⟨?_, by exact_mod_cast h1⟩
  have : ((-((2 ^ C : Nat) : Int) : Int) : Rat) = -((2 ^ C : Nat) : Rat) := by norm_cast
  rw [← this]
  exact_mod_cast h2
theorem bd_logQ {x : Nat} {C : Int} (hx : Pl x 1 C) {e : Int} (he : e.natAbs ≤ 512) : Bd .f64 (logQ x e) 97 := by
  have s1 : Bd .f64 (fbin .sub .f64 x oneW) 2 := bd_sub hx.pb.bd (bd_one.mono (by decide)) (by decide) (by decide)
  have hadd : fbin .add .f64 x oneW = fbin .add .f64 oneW x := by
    obtain ⟨m, i, hd, _, _⟩ := hx
    have h1 : FloatKind.f64.format.read x = _ := hd
    have h2 : FloatKind.f64.format.read oneW = .number false 4503599627370496 (-52) := by decide +kernel
    have hs : ∀ (m n : Nat) (i j : Int), (Ieee.Datum.number false m i).sum (.number false n j) = (Ieee.Datum.number false n j).sum (.number false m i) := by
      intro m n i j
      simp only [Ieee.Datum.sum, Bool.and_self]
      rw [Int.min_comm i j, Int.add_comm]
    simp only [fbin, floatBits, Ieee.Format.add, h1, h2, hs]
  have s2 : Pl (fbin .add .f64 x oneW) 2 0 := by rw [hadd]; exact pl_add (pl_one (by decide)) hx.pb (by decide) (by decide) (by decide)
  have s3 : Bd .f64 (logS x) 3 := bd_quo s1 s2.lb (by decide) (by decide)
  have s4 := bd_mul s3 s3 (by decide) (by decide)
  have s5 := bd_mul s3 (bd_logR s4) (by decide) (by decide)
  have s6 := bd_mul bd_two s5 (by decide) (by decide)
  have s7 := bd_mul (bd_int e 9 (by simpa using he) (by decide)) bd_ln2 (by decide) (by decide)
  exact (bd_add s6 (s7.mono (by decide)) (by decide) (by decide)).mono (by decide)

/- The walks of the logarithm. -/
open Go Go.RowKit

def RetLog (Y : Nat) (w : World) (e : Ending) (w' : World) : Prop :=
  ∃ j i s n : Nat, First1 Y j ∧ First2 (hv Y j) i ∧ e = .returned (.float .f64 (pick .f64 (logQ (db (hv Y j) i) ((j : Int) - i)) s)) ∧ w' = w.drewN n ∧ j ≤ 200 ∧ i ≤ 200 ∧ Pl (db (hv Y j) i) 1 (-149)
def LogInv1 (Y j : Nat) : Prop := Pl (hv Y j) (128 - j) (-149) ∧ ∀ k, k < j → ge64 (hv Y k) c15W = true
def LogInv2 (Z i : Nat) : Prop := Pl (db Z i) 1 (-149 + i) ∧ ∀ k, k < i → lt64 (db Z k) c75W = true
theorem Pl.weak {x : Nat} {B C D : Int} (h : Pl x B C) (hc : D ≤ C) : Pl x B D := by
  obtain ⟨m, e, h1, h2, h3⟩ := h; exact ⟨m, e, h1, h2, Rat.le_trans (two_mono hc) h3⟩
theorem Pl.wide {x : Nat} {B C D : Int} (h : Pl x B C) (hb : B ≤ D) : Pl x D C := by
  obtain ⟨m, e, h1, h2, h3⟩ := h; exact ⟨m, e, h1, Rat.le_trans h2 (two_mono hb), h3⟩
theorem logInv1_start {Y : Nat} (h : Pl Y 128 (-149)) : LogInv1 Y 0 := ⟨h, fun _ hk => absurd hk (by omega)⟩
theorem logInv1_end {Y j : Nat} (h : LogInv1 Y j) (hg : ge64 (hv Y j) c15W = false) : First1 Y j ∧ Pl (hv Y j) 1 (-149) := ⟨⟨hg, h.2⟩, (ge15 h.1).2 hg⟩
theorem logInv1_step {Y j : Nat} (h : LogInv1 Y j) (hj : j ≤ 128) (hg : ge64 (hv Y j) c15W = true) : isNaN .f64 (hv Y (j + 1)) = false ∧ j + 1 ≤ 128 ∧ LogInv1 Y (j + 1) := by
  obtain ⟨h1, h2⟩ := (ge15 h.1).1 hg
  have h3 := pl_half h2 (by omega) (by omega) (by omega)
  have h4 : Pl (hv Y (j + 1)) (128 - ((j + 1 : Nat) : Int)) (-149) := by
    have e : (128 : Int) - j - 1 = 128 - ((j + 1 : Nat) : Int) := by omega
    rw [e] at h3
    exact h3.weak (by omega)
  refine ⟨h4.pb.bd.num, by omega, h4, fun k hk => ?_⟩
  by_cases hc : k = j
  · rw [hc]; exact hg
  · exact h.2 k (by omega)
theorem logInv2_start {Z : Nat} (h : Pl Z 1 (-149)) : LogInv2 Z 0 := ⟨h, fun _ hk => absurd hk (by omega)⟩
theorem logInv2_end {Z i : Nat} (h : LogInv2 Z i) (hg : lt64 (db Z i) c75W = false) : First2 Z i ∧ Pl (db Z i) 1 (-149) := ⟨⟨hg, h.2⟩, h.1.weak (by omega)⟩
theorem logInv2_step {Z i : Nat} (h : LogInv2 Z i) (hi : i ≤ 149) (hg : lt64 (db Z i) c75W = true) : isNaN .f64 (db Z (i + 1)) = false ∧ i + 1 ≤ 149 ∧ LogInv2 Z (i + 1) := by
  obtain ⟨h1, h2⟩ := lt75 h.1 hg
  have h3 := pl_double h2 (by omega) (by omega) (by omega)
  have h4 : Pl (db Z (i + 1)) 1 (-149 + ((i + 1 : Nat) : Int)) := by
    have e : (-149 : Int) + i + 1 = -149 + ((i + 1 : Nat) : Int) := by omega
    rw [e] at h3
    exact h3
  refine ⟨h4.pb.bd.num, by omega, h4, fun k hk => ?_⟩
  by_cases hc : k = i
  · rw [hc]; exact hg
  · exact h.2 k (by omega)

set_option maxHeartbeats 2000000 in
theorem wideLog_any (Y : Nat) (hY : Pl Y 128 (-149)) (w : World) : Calls Try.prog 233 #[.float .f64 Y] w (RetLog Y w) := by
  have hl := fun op => fbin_pick_l op .f64
  have hr := fun op => fbin_pick_r op .f64
  have hp := order_pick_l .f64
  have HY := Lib.hid hY
  clear hY
  go_enter Try.func233, Try.ntmps233
  go_wp2
  go_loopw [0, 3] (fun x e wr => ∃ j n : Nat, j ≤ 128 ∧ x = .float .f64 (hv Y j) ∧ e = .int .i64 j ∧ LogInv1 Y j ∧ wr = w.drewN n) (fun _ e _ => 200 - (intOf e).toNat)
  case atStart => exact ⟨0, 0, by omega, rfl, rfl, logInv1_start HY.out, rfl⟩
  case round =>
    obtain ⟨j, n1, hj, rfl, rfl, hI, rfl⟩ := hrel
    cases hg : ge64 (hv Y j) c15W
    · have HF := Lib.hid (logInv1_end hI hg)
      have t1 : (FloatKind.f64.format.order (hv Y j) 4609434218613702656 == some .gt || FloatKind.f64.format.order (hv Y j) 4609434218613702656 == some .eq) = false := hg
      clear hI hg
      obtain ⟨Z, hZ⟩ : ∃ Z, Z = hv Y j := ⟨_, rfl⟩
      have HZ := Lib.hid hZ
      rw [← hZ] at t1 ⊢
      clear hZ
      go_wp2
      go_loopw [0, 3] (fun x e wr => ∃ i n : Nat, i ≤ 149 ∧ x = .float .f64 (db Z i) ∧ e = .int .i64 ((j : Int) - i) ∧ LogInv2 Z i ∧ wr = w.drewN n) (fun _ e _ => (intOf e + 400 - j).toNat)
      case atStart => exact ⟨0, n1, by omega, rfl, by simp, logInv2_start (by rw [HZ.out]; exact HF.out.2), rfl⟩
      case round =>
        obtain ⟨i, n2, hi, rfl, rfl, hI, rfl⟩ := hrel
        cases hg : lt64 (db Z i) c75W
        · have HG := Lib.hid (logInv2_end hI hg)
          have t2 : (FloatKind.f64.format.order (db Z i) 4604930618986332160 == some .lt) = false := hg
          clear hI hg
          have hQ : logQ (db Z i) ((j : Int) - i) = fbin .add .f64 (fbin .mul .f64 twoW (fbin .mul .f64 (logS (db Z i)) (logR (fbin .mul .f64 (logS (db Z i)) (logS (db Z i)))))) (fbin .mul .f64 (floatOfInt .f64 ((j : Int) - i)) ln2W) := rfl
          obtain ⟨X, hX⟩ : ∃ X, X = db Z i := ⟨_, rfl⟩
          have HX := Lib.hid hX
          rw [← hX] at t2 hQ ⊢
          clear hX
          obtain ⟨S, hS⟩ : ∃ S, fbin .quo .f64 (fbin .sub .f64 X 4607182418800017408) (fbin .add .f64 X 4607182418800017408) = S := ⟨_, rfl⟩
          obtain ⟨U, hU⟩ : ∃ U, fbin .mul .f64 S S = U := ⟨_, rfl⟩
          have e1 : logS X = S := hS
          rw [e1, hU] at hQ
          have HQ := Lib.hid hQ
          clear hQ e1
          go_wp2_with ((with_reducible refine wpL_fbin ?_); refine ⟨_, _, _, rfl, rfl, rfl, fun s n => ?_⟩)
          refine wp_loop_rounds 14 ?_
          repeat (rw [rounds_succ]; go_wp2_with ((with_reducible refine wpL_fbin ?_); refine ⟨_, _, _, rfl, rfl, rfl, fun s n => ?_⟩))
          go_ret
          exact ⟨j, i, _, _, HF.out.1, by rw [← HZ.out]; exact HG.out.1, by rw [← HZ.out, ← HX.out, HQ.out]; rfl, rfl, by omega, by omega, by rw [← HZ.out]; exact HG.out.2⟩
        · obtain ⟨hn, hi2, hI2⟩ := logInv2_step hI hi hg
          have HI := Lib.hid hI2
          have t2 : (FloatKind.f64.format.order (db Z i) 4604930618986332160 == some .lt) = true := hg
          have hpk : ∀ s, pick .f64 (fbin .mul .f64 (db Z i) 4611686018427387904) s = db Z (i + 1) := fun s => pick_num hn s
          clear hI hg hn hI2
          go_wp2_with ((with_reducible refine wpL_fbin ?_); refine ⟨_, _, _, rfl, rfl, rfl, fun s n => ?_⟩)
          go_roundw
          case rel => exact ⟨i + 1, _, by omega, rfl, by go_num, HI.out, rfl⟩
          case measure => simp [intOf]; omega
    · obtain ⟨hn, hj2, hI2⟩ := logInv1_step hI hj hg
      have HI := Lib.hid hI2
      have t1 : (FloatKind.f64.format.order (hv Y j) 4609434218613702656 == some .gt || FloatKind.f64.format.order (hv Y j) 4609434218613702656 == some .eq) = true := hg
      have hpk : ∀ s, pick .f64 (fbin .quo .f64 (hv Y j) 4611686018427387904) s = hv Y (j + 1) := fun s => pick_num hn s
      clear hI hg hn hI2
      go_wp2_with ((with_reducible refine wpL_fbin ?_); refine ⟨_, _, _, rfl, rfl, rfl, fun s n => ?_⟩)
      go_roundw
      case rel => exact ⟨j + 1, _, by omega, rfl, by go_num, HI.out, rfl⟩
      case measure => simp [intOf]; omega

/- Subnormal numbers: told by the bits and by comparing. -/
open Go Go.RowKit

theorem read32 (x : Nat) : FloatKind.f32.format.read x =
    if x % 2147483648 < 8388608 then .number (x / 2147483648 % 2 == 1) (x % 2147483648) (-149)
    else if x % 2147483648 < 2139095040 then .number (x / 2147483648 % 2 == 1) (8388608 + x % 2147483648 % 8388608) (-149 + ((x % 2147483648 / 8388608 - 1 : Nat) : Int))
    else if x % 2147483648 = 2139095040 then .infinity (x / 2147483648 % 2 == 1) else .nan (x / 2147483648 % 2 == 1) (x % 2147483648 - 2139095040) := by
  have hsw : Ieee.single.signWeight = 2147483648 := rfl
  have hbin : Ieee.single.binade = 8388608 := rfl
  have hinf : Ieee.single.infRung = 2139095040 := rfl
  have hlp : Ieee.single.leastPlace = -149 := by decide
  show Ieee.single.read x = _
  unfold Ieee.Format.read
  rw [hsw, hbin, hinf, hlp]
theorem isNaN32 (x : Nat) : isNaN .f32 x = decide (2139095040 < x % 2147483648) := by
  unfold isNaN FloatKind.decode
  rw [read32]
  by_cases h1 : x % 2147483648 < 8388608
  · rw [if_pos h1]; have : ¬ 2139095040 < x % 2147483648 := by omega
    simp [this, Ieee.Datum.isNaN]
  · rw [if_neg h1]
    by_cases h2 : x % 2147483648 < 2139095040
    · rw [if_pos h2]; have : ¬ 2139095040 < x % 2147483648 := by omega
      simp [this, Ieee.Datum.isNaN]
    · rw [if_neg h2]
      by_cases h3 : x % 2147483648 = 2139095040
      · rw [if_pos h3]; have : ¬ 2139095040 < x % 2147483648 := by omega
        simp [this, Ieee.Datum.isNaN]
      · rw [if_neg h3]; have : 2139095040 < x % 2147483648 := by omega
        simp [this, Ieee.Datum.isNaN]
theorem read_0 : FloatKind.f32.format.read 0 = .number false 0 (-149) := by decide +kernel
theorem read_least : FloatKind.f32.format.read 8388608 = .number false 8388608 (-149) := by decide +kernel
theorem read_mleast : FloatKind.f32.format.read 2155872256 = .number true 8388608 (-149) := by decide +kernel
theorem cmp_lt {a b : Int} (h : a < b) : compare a b = .lt := by rw [Int.compare_eq_lt]; exact h
theorem cmp_gt {a b : Int} (h : b < a) : compare a b = .gt := by rw [Int.compare_eq_gt]; exact h
theorem cmp_eq {a b : Int} (h : a = b) : compare a b = .eq := by rw [Int.compare_eq_eq]; exact h
theorem signed_zero (s : Bool) (m : Nat) : Ieee.signed s m 0 = if s then -(m : Int) else m := by cases s <;> simp [Ieee.signed]
theorem signed_false (m k : Nat) : Ieee.signed false m k = ((m <<< k : Nat) : Int) := by simp [Ieee.signed]
theorem signed_true (m k : Nat) : Ieee.signed true m k = -((m <<< k : Nat) : Int) := by simp [Ieee.signed]
theorem shl_ge (m k : Nat) : m ≤ m <<< k := by
  rw [Nat.shiftLeft_eq]; have := Nat.mul_le_mul_left m (Nat.one_le_two_pow (n := k)); omega
/-- How x stands to 0, and to the least normal number and its opposite. -/
theorem order_zero_small (x : Nat) (h : x % 2147483648 = 0) : FloatKind.f32.format.order x 0 = some .eq := by
  unfold Ieee.Format.order
  rw [read32, if_pos (by omega), read_0, h]
  generalize (x / 2147483648 % 2 == 1) = s
  cases s <;> rfl
theorem order_small (x : Nat) (h0 : 0 < x % 2147483648) (h1 : x % 2147483648 < 8388608) :
    (FloatKind.f32.format.order x 0 != some .eq) = true ∧ (FloatKind.f32.format.order x 8388608 == some .lt) = true ∧ (FloatKind.f32.format.order x 2155872256 == some .gt) = true := by
  unfold Ieee.Format.order
  rw [read32, if_pos h1, read_0, read_least, read_mleast]
  generalize (x / 2147483648 % 2 == 1) = s
  generalize x % 2147483648 = r at *
  simp only [Ieee.Datum.order, Int.min_self, Int.sub_self, Int.toNat_zero, signed_zero]
  cases s
  · simp only [Bool.false_eq_true, if_false, if_true]
    rw [cmp_gt (by omega), cmp_lt (by omega), cmp_gt (by omega)]
    exact ⟨rfl, rfl, rfl⟩
  · simp only [Bool.false_eq_true, if_false, if_true]
    rw [cmp_lt (by omega), cmp_lt (by omega), cmp_gt (by omega)]
    exact ⟨rfl, rfl, rfl⟩
theorem order_big (x : Nat) (h1 : ¬ x % 2147483648 < 8388608) :
    (FloatKind.f32.format.order x 0 != some .eq) = true ∧ ((FloatKind.f32.format.order x 8388608 == some .lt) = false ∨ ((FloatKind.f32.format.order x 8388608 == some .lt) = true ∧ (FloatKind.f32.format.order x 2155872256 == some .gt) = false)) := by
  unfold Ieee.Format.order
  rw [read32, if_neg h1, read_0, read_least, read_mleast]
  generalize (x / 2147483648 % 2 == 1) = s
  by_cases h2 : x % 2147483648 < 2139095040
  · rw [if_pos h2]
    generalize x % 2147483648 % 8388608 = f
    generalize (x % 2147483648 / 8388608 - 1) = k
    have hm : min (-149 + (k : Int)) (-149) = -149 := by omega
    have hm2 : (-149 + (k : Int) - -149).toNat = k := by omega
    have hg := shl_ge (8388608 + f) k
    cases s
    · simp only [Ieee.Datum.order, hm, hm2, Int.sub_self, Int.toNat_zero, signed_false, signed_true, Nat.shiftLeft_zero]
      generalize (8388608 + f) <<< k = K at *
      rw [cmp_gt (by omega)]
      refine ⟨rfl, .inl ?_⟩
      by_cases hk : K = 8388608
      · rw [cmp_eq (by omega)]; rfl
      · rw [cmp_gt (by omega)]; rfl
    · simp only [Ieee.Datum.order, hm, hm2, Int.sub_self, Int.toNat_zero, signed_false, signed_true, Nat.shiftLeft_zero]
      generalize (8388608 + f) <<< k = K at *
      rw [cmp_lt (by omega), cmp_lt (by omega)]
      refine ⟨rfl, .inr ⟨rfl, ?_⟩⟩
      by_cases hk : K = 8388608
      · rw [cmp_eq (by omega)]; rfl
      · rw [cmp_lt (by omega)]; rfl
  · rw [if_neg h2]
    by_cases h3 : x % 2147483648 = 2139095040
    · rw [if_pos h3]
      cases s
      · exact ⟨rfl, .inl rfl⟩
      · exact ⟨rfl, .inr ⟨rfl, rfl⟩⟩
    · rw [if_neg h3]
      exact ⟨rfl, .inl rfl⟩
theorem and_mask (x : Nat) : x &&& 2139095040 = (x / 8388608 % 256) * 8388608 := by
  have e : 2139095040 = (2 ^ 8 - 1) <<< 23 := by decide
  have h : x / 8388608 % 256 * 8388608 = ((x >>> 23) &&& (2 ^ 8 - 1)) <<< 23 := by
    rw [Nat.and_two_pow_sub_one_eq_mod, Nat.shiftLeft_eq, Nat.shiftRight_eq_div_pow]
  rw [h, e]
  apply Nat.eq_of_testBit_eq
  intro i
  rw [Nat.testBit_and, Nat.testBit_shiftLeft, Nat.testBit_shiftLeft, Nat.testBit_and, Nat.testBit_shiftRight]
  by_cases hi : 23 ≤ i
  · have : 23 + (i - 23) = i := by omega
    rw [this]
    cases x.testBit i <;> cases (2 ^ 8 - 1 : Nat).testBit (i - 23) <;> simp [hi]
  · simp [hi]
theorem i64_and_nat (a b : Nat) (ha : a < 9223372036854775808) (hb : b < 9223372036854775808) : bits .and .i64 (a : Int) (b : Int) = ((a &&& b : Nat) : Int) := by
  have key : (BitVec.ofInt 64 (a : Int) &&& BitVec.ofInt 64 (b : Int)).toNat = a &&& b := by
    rw [BitVec.toNat_and, BitVec.toNat_ofInt, BitVec.toNat_ofInt]
    have h1 : ((a : Int) % ((2 ^ 64 : Nat) : Int)).toNat = a := by simp only [Nat.reducePow]; omega
    have h2 : ((b : Int) % ((2 ^ 64 : Nat) : Int)).toNat = b := by simp only [Nat.reducePow]; omega
    rw [h1, h2]
  show IntKind.i64.wrap ((BitVec.ofInt 64 (a : Int) &&& BitVec.ofInt 64 (b : Int)).toNat : Nat) = _
  rw [key, IntKind.wrap_i64]
  have := Nat.and_le_left (n := a) (m := b)
  omega
theorem i64_mask (x : Nat) (hx : x < 4294967296) : bits .and .i64 (x : Int) 2139095040 = ((x / 8388608 % 256 * 8388608 : Nat) : Int) := by
  have h := i64_and_nat x 2139095040 (by omega) (by omega)
  rw [and_mask] at h
  exact h

end Go.Proofs.Ytmpcalpapkedhaa
