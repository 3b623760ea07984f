/- The sign and the square of a share: as the program tells them. -/
import Derived.Test.YtffhnkhjfggooabDoorSgn
namespace Go.Proofs.YtffhnkhjfggooabDoor
open Go Go.ChangeShapes Go.WideShapes Go.ChangeAt Go.RowKit

def sgK (k : Nat) : Int := if k % 2 = 1 then -1 else 1
theorem sgK_next (k : Nat) : -sgK k = sgK (k + 1) := by
  unfold sgK
  by_cases h : k % 2 = 1
  · rw [if_pos h, if_neg (by omega)]; rfl
  · rw [if_neg h, if_pos (by omega)]
theorem sgK_rng (k : Nat) : -1 ≤ sgK k ∧ sgK k ≤ 1 := by unfold sgK; split <;> omega
theorem sgK_term (a x b y c : Int) (k : Nat) : sgK k * termJ a x b y c k = sgnTerm a x b y c k := by
  unfold sgK sgnTerm
  split
  · rw [Int.neg_mul, Int.one_mul]
  · rw [Int.one_mul]
theorem abs_rng {p q A B : Int} (p0 : -A ≤ p) (p1 : p ≤ A) (q0 : 0 ≤ q) (q1 : q ≤ B) (hA : 0 ≤ A) : -(A * B) ≤ p * q ∧ p * q ≤ A * B := by
  have h1 : p * q ≤ A * q := Int.mul_le_mul_of_nonneg_right p1 q0
  have h2 : A * q ≤ A * B := Int.mul_le_mul_of_nonneg_left q1 hA
  have h3 : -A * q ≤ p * q := Int.mul_le_mul_of_nonneg_right p0 q0
  have h4 : -A * q = -(A * q) := Int.neg_mul _ _
  omega
def LU (a x b y c : Int) (i : Nat) : Nat := (rawU a x b y c i / 2).toNat
def LD (a b c : Int) (i : Nat) : Nat := (rawD a b c i / 2).toNat
def expU (a x b y c : Int) : Nat → Int := facPL (addP (fun _ => 0) 1 (c + 1).toNat 6) 1 (LU a x b y c) 6
def expJ (a x b y c : Int) : Nat → Int := facPL (expU a x b y c) (-1) (LD a b c) 4
theorem expU_small {a x b y c : Int} (h : JAt a x b y c) : Small (expU a x b y c) 6 1000000 := fun q hq => by
  have h1 := facPL_small (t := 1) (by omega) (by omega) (addP_small (t := 1) (n := (c + 1).toNat) (by omega) (by omega) (small_zero 6)) (L := LU a x b y c) 6 (fun i _ => by have := rawU_rng h i; unfold LU; omega) 6 (Nat.le_refl _) q hq
  have : expU a x b y c q = facPL (addP (fun _ => 0) 1 (c + 1).toNat 6) 1 (LU a x b y c) 6 q := rfl
  omega
theorem exps_zero6 (w : World) (e : TypeId) : Exps (w.alloc (.cells #[.int .i64 0, .int .i64 0, .int .i64 0, .int .i64 0, .int .i64 0, .int .i64 0] e)) w.heap.size e 6 (fun _ => 0) :=
  ⟨rfl, .inr ⟨w.heap.size, 6, _, rfl, Nat.zero_le _, World.alloc_heap_new w _, Nat.le_refl _, by unfold maxLen; omega, rfl, rfl⟩⟩
set_option maxRecDepth 100000 in
set_option maxHeartbeats 6400000 in
theorem joinShare_any (a x b y c : Int) (w : World) (hG : Glob w) (h : JAt a x b y c) (hs : -1000000 ≤ sumAll a x b y c ∧ sumAll a x b y c ≤ 1000000) (hF : FitI (expJ a x b y c) (sumAll a x b y c)) :
    Calls Tryd.prog 39 #[.int .i64 a, .int .i64 x, .int .i64 b, .int .i64 y, .int .i64 c] w fun e w' =>
      e = .returned (.tuple #[.int .i64 (sqG (expJ a x b y c) (sumAll a x b y c)), frac (sqU (expJ a x b y c) (sumAll a x b y c)) (sqD (expJ a x b y c) (sumAll a x b y c))]) ∧ Below w.heap.size w w' := by
  have HJ := Lib.hid h
  have HS := Lib.hid hs
  have HF := Lib.hid hF
  obtain ⟨a0, a1, b0, b1, x0, x1, xe, y0, y1, ye, c0, c1, c2, ce, z0, z1, ze⟩ := h
  clear hs hF
  obtain ⟨m, hm⟩ : ∃ m, m = mJ a b c := ⟨_, rfl⟩
  have hmd : (a + b - c) / 2 = (m : Int) := by rw [hm]; unfold mJ; omega
  have hm6 : m ≤ 6 := by omega
  have HM := Lib.hid hm
  clear hm
  have d1 : Int.tdiv (a + b - c) 2 = (a + b - c) / 2 := Int.tdiv_eq_ediv_of_nonneg (by omega)
  have d2 : Int.tdiv (c + a - b) 2 = (c + a - b) / 2 := Int.tdiv_eq_ediv_of_nonneg (by omega)
  have d3 : Int.tdiv (c + b - a) 2 = (c + b - a) / 2 := Int.tdiv_eq_ediv_of_nonneg (by omega)
  have d4 : Int.tdiv (a - x) 2 = (a - x) / 2 := Int.tdiv_eq_ediv_of_nonneg (by omega)
  have d5 : Int.tdiv (b + y) 2 = (b + y) / 2 := Int.tdiv_eq_ediv_of_nonneg (by omega)
  go_enter Tryd.func39, Tryd.ntmps39
  go_wp2
  go_loopw [16, 17, 43] (fun s sg i wr => ∃ k : Nat, k ≤ m + 1 ∧ i = .int .i64 (k : Int) ∧ s = .int .i64 (sumJ a x b y c k) ∧ sg = .int .i64 (sgK k) ∧ wr = w.alloc (.cells #[.int .i64 0, .int .i64 0] 58)) (fun _ _ i _ => m + 1 - (intOf i).toNat)
  case atStart => exact ⟨0, Nat.zero_le _, rfl, rfl, rfl, rfl⟩
  case round =>
    obtain ⟨k, hk, rfl, rfl, rfl, rfl⟩ := hrel
    by_cases hlt : k < m + 1
    · have hkm : (k : Int) ≤ (m : Int) := by omega
      obtain ⟨S1, q1⟩ : ∃ S1, setsI (m : Int) (k : Int) = S1 := ⟨_, rfl⟩
      obtain ⟨S2, q2⟩ : ∃ S2, setsI ((c + a - b) / 2) ((a - x) / 2 - (k : Int)) = S2 := ⟨_, rfl⟩
      obtain ⟨S3, q3⟩ : ∃ S3, setsI ((c + b - a) / 2) ((b + y) / 2 - (k : Int)) = S3 := ⟨_, rfl⟩
      obtain ⟨e1, e1'⟩ := setsI_rng (n := (m : Int)) (k := (k : Int)) (by omega) (by omega)
      obtain ⟨e2, e2'⟩ := setsI_rng (n := (c + a - b) / 2) (k := (a - x) / 2 - (k : Int)) (by omega) (by omega)
      obtain ⟨e3, e3'⟩ := setsI_rng (n := (c + b - a) / 2) (k := (b + y) / 2 - (k : Int)) (by omega) (by omega)
      rw [q1] at e1 e1'
      rw [q2] at e2 e2'
      rw [q3] at e3 e3'
      obtain ⟨s0, s1⟩ := sgK_rng k
      have ht : termJ a x b y c k = S1 * S2 * S3 := by unfold termJ; rw [hmd, q1, q2, q3]
      have hsum : sumJ a x b y c k + sgK k * S1 * S2 * S3 = sumJ a x b y c (k + 1) := by
        simp only [sumJ]
        rw [← sgK_term, ht, ← Int.mul_assoc, ← Int.mul_assoc]
      have hsg := sgK_next k
      obtain ⟨sg, hsgd⟩ : ∃ sg, sg = sgK k := ⟨_, rfl⟩
      rw [← hsgd] at s0 s1 hsum hsg ⊢
      obtain ⟨f1, f1'⟩ := abs_rng s0 s1 e1 e1' (by omega)
      obtain ⟨f2, f2'⟩ := abs_rng (p := sg * S1) (A := 1000) (by omega) (by omega) e2 e2' (by omega)
      obtain ⟨f3, f3'⟩ := abs_rng (p := sg * S1 * S2) (A := 1000000) (by omega) (by omega) e3 e3' (by omega)
      obtain ⟨g0, g1⟩ := sumJ_rng HJ.out k
      obtain ⟨g2, g3⟩ := sumJ_rng HJ.out (k + 1)
      have hk7 : (k : Int) ≤ 7 := by omega
      have f4 : sg * S1 * S2 * S3 ≤ 1000000000 := by omega
      have f4' : -1000000000 ≤ sg * S1 * S2 * S3 := by omega
      have HSUM := Lib.hid hsum
      have HSG := Lib.hid hsg
      clear hsgd ht hsum hsg
      go_wp2_with (go_at_call 68; refine (setsOf_any _ _ _ (by omega) (by omega)).mono ?_; rintro e w' ⟨rfl, rfl⟩)
      go_roundw
      case rel => exact ⟨k + 1, by omega, by go_num, by rw [← HSUM.out], by rw [← HSG.out], trivial⟩
      case measure => simp [intOf]; omega
    · obtain rfl : k = m + 1 := by omega
      obtain ⟨SM, hSM⟩ : ∃ SM, SM = sumAll a x b y c := ⟨_, rfl⟩
      have hsm : sumJ a x b y c (m + 1) = SM := by rw [hSM, HM.out]; rfl
      rw [← hSM] at HS HF
      have HSM := Lib.hid hSM
      clear hSM d4 d5
      rw [hsm]
      clear hsm
      obtain ⟨sgl, hsgl⟩ : ∃ sgl, sgl = sgK (m + 1) := ⟨_, rfl⟩
      rw [← hsgl]
      clear hsgl
      have hdd : decide ((m : Int) + 1 < (m : Int) + 1) = false := decide_eq_false (by omega)
      obtain ⟨n1, hn1⟩ : ∃ n1, n1 = (c + 1).toNat := ⟨_, rfl⟩
      have hc1 : c + 1 = (n1 : Int) := by omega
      have HN1 := Lib.hid hn1
      clear hn1
      have hB0 : Below w.heap.size w ((w.alloc (.cells #[.int .i64 0, .int .i64 0] 58)).alloc (.cells #[.int .i64 0, .int .i64 0, .int .i64 0, .int .i64 0, .int .i64 0, .int .i64 0] 80)) :=
        ((Below.refl _ w).alloc (Nat.le_refl _) _).alloc (by simp) _
      have hz := exps_zero6 (w.alloc (.cells #[.int .i64 0, .int .i64 0] 58)) 80
      have hr0 := (exps_two w 58 0 0).below ((Below.refl _ _).alloc (Nat.le_refl _) (.cells #[.int .i64 0, .int .i64 0, .int .i64 0, .int .i64 0, .int .i64 0, .int .i64 0] 80))
      rw [World.size_alloc] at hz
      have hG0 := hG.below hB0
      have hg2 : 2 ≤ w.heap.size + 1 := by have := hG.lt; omega
      have HB0 := Lib.hid hB0
      have HZ := Lib.hid hz
      have HR0 := Lib.hid hr0
      have HG0 := Lib.hid hG0
      clear hB0 hz hr0 hG0
      go_wp2_with fail
      refine (take_any (w.heap.size + 1) (fun _ => 0) n1 1 _ HG0.out hg2 HZ.out (by omega) (by omega) (by omega) (by omega) (fun q hq => ⟨by simp, by simp⟩)).mono ?_
      rintro e w1 ⟨⟨v, rfl⟩, hE1, hO1⟩
      clear hc1
      have hB1 := hO1.below HB0.out (Nat.le_succ _)
      have hR1 := hO1.exps HR0.out (show w.heap.size ≠ w.heap.size + 1 by omega)
      have hG1 := HG0.out.only hO1 hg2
      have hlt1 := hE1.lt
      obtain ⟨C1, hC1⟩ : ∃ C1, C1 = addP (fun _ => 0) 1 n1 6 := ⟨_, rfl⟩
      have hsm1 : Small C1 6 10000000 := fun q hq => by
        have h := addP_small (t := 1) (n := n1) (by omega) (by omega) (small_zero 6) q hq
        rw [hC1]
        omega
      have HC1 := Lib.hid (show C1 = addP (fun _ => 0) 1 (c + 1).toNat 6 by rw [hC1, HN1.out])
      rw [← hC1] at hE1
      obtain ⟨xb, xo, hxa, hcx⟩ := rdI_six w1 (fun i => (LU a x b y c i : Int)) 2 ((a + x) / 2) ((a - x) / 2) ((b + y) / 2) ((b - y) / 2) ((c + (x + y)) / 2) ((c - (x + y)) / 2)
        (show (((a + x) / 2).toNat : Int) = (a + x) / 2 by omega) (show (((a - x) / 2).toNat : Int) = (a - x) / 2 by omega) (show (((b + y) / 2).toNat : Int) = (b + y) / 2 by omega) (show (((b - y) / 2).toNat : Int) = (b - y) / 2 by omega) (show (((c + (x + y)) / 2).toNat : Int) = (c + (x + y)) / 2 by omega) (show (((c - (x + y)) / 2).toNat : Int) = (c - (x + y)) / 2 by omega)
      obtain ⟨w2, hw2⟩ : ∃ w2, w2 = w1.alloc (.cells #[.int .i64 ((a + x) / 2), .int .i64 ((a - x) / 2), .int .i64 ((b + y) / 2), .int .i64 ((b - y) / 2), .int .i64 ((c + (x + y)) / 2), .int .i64 ((c - (x + y)) / 2)] 2) := ⟨_, rfl⟩
      have hA1 : Below w1.heap.size w1 w2 := by rw [hw2]; exact (Below.refl _ w1).alloc (Nat.le_refl _) _
      have hP : ∀ i, i < 6 → w2.cell? ⟨w1.heap.size, i, none⟩ = some (.int .i64 (LU a x b y c i : Int)) := by
        rw [hw2]
        intro i hi
        have h := hcx i hi
        have e := hxa (by omega)
        simp only [Option.some.injEq, Addr.mk.injEq] at e
        rw [← e.1, ← e.2.1, Nat.zero_add] at h
        exact h
      have hE2 := hE1.below hA1
      have hR2 := hR1.below hA1
      have hG2 := hG1.below hA1
      have hB2 := hB1.trans (hA1.mono hB1.size)
      have HP := Lib.hid hP
      have HE2 := Lib.hid hE2
      have HR2 := Lib.hid hR2
      have HG2 := Lib.hid hG2
      have HB2 := Lib.hid hB2
      have hUl : ∀ i, i < 6 → LU a x b y c i ≤ 100 := fun i _ => by have := rawU_rng HJ.out i; unfold LU; omega
      have HUL := Lib.hid hUl
      have HSM1 := Lib.hid hsm1
      clear hcx hxa hP hE2 hR2 hG2 hB2 hA1 hE1 hO1 hB1 hR1 hG1 hC1 hUl hsm1
      have t1 : Int.tdiv (a + x) 2 = (a + x) / 2 := Int.tdiv_eq_ediv_of_nonneg (by omega)
      have t2 : Int.tdiv (a - x) 2 = (a - x) / 2 := Int.tdiv_eq_ediv_of_nonneg (by omega)
      have t3 : Int.tdiv (b + y) 2 = (b + y) / 2 := Int.tdiv_eq_ediv_of_nonneg (by omega)
      have t4 : Int.tdiv (b - y) 2 = (b - y) / 2 := Int.tdiv_eq_ediv_of_nonneg (by omega)
      have t5 : Int.tdiv (c + (x + y)) 2 = (c + (x + y)) / 2 := Int.tdiv_eq_ediv_of_nonneg (by omega)
      have t6 : Int.tdiv (c - (x + y)) 2 = (c - (x + y)) / 2 := Int.tdiv_eq_ediv_of_nonneg (by omega)
      go_wp2_with fail
      rw [← hw2]
      clear hw2 t1 t2 t3 t4 t5 t6
      refine (takeFac_any (w.heap.size + 1) w1.heap.size 6 6 C1 (LU a x b y c) 1 _ HG2.out hg2 HE2.out (by omega) HP.out (by omega) HUL.out (by omega) (by omega) HSM1.out).mono ?_
      rintro e w3 ⟨⟨v, rfl⟩, hE3, hO3⟩
      have hB3 := hO3.below HB2.out (Nat.le_succ _)
      have hR3 := hO3.exps HR2.out (show w.heap.size ≠ w.heap.size + 1 by omega)
      have hG3 := HG2.out.only hO3 hg2
      have hlt3 := hE3.lt
      obtain ⟨C2, hC2⟩ : ∃ C2, C2 = facPL C1 1 (LU a x b y c) 6 := ⟨_, rfl⟩
      have hC2e : C2 = expU a x b y c := by rw [hC2, HC1.out]; rfl
      have hsm2 : Small C2 6 10000000 := fun q hq => by
        have h := expU_small HJ.out q hq
        rw [hC2e]
        omega
      have HC2 := Lib.hid hC2e
      rw [← hC2] at hE3
      obtain ⟨yb, yo, hya, hcy⟩ := rdI_four w3 (fun i => (LD a b c i : Int)) 2 ((a + b + c) / 2 + 1) (m : Int) ((c + a - b) / 2) ((c + b - a) / 2)
        (show (((a + b + c + 2) / 2).toNat : Int) = (a + b + c) / 2 + 1 by omega) (show (((a + b - c) / 2).toNat : Int) = (m : Int) by omega) (show (((c + a - b) / 2).toNat : Int) = (c + a - b) / 2 by omega) (show (((c + b - a) / 2).toNat : Int) = (c + b - a) / 2 by omega)
      obtain ⟨w4, hw4⟩ : ∃ w4, w4 = w3.alloc (.cells #[.int .i64 ((a + b + c) / 2 + 1), .int .i64 (m : Int), .int .i64 ((c + a - b) / 2), .int .i64 ((c + b - a) / 2)] 2) := ⟨_, rfl⟩
      have hA3 : Below w3.heap.size w3 w4 := by rw [hw4]; exact (Below.refl _ w3).alloc (Nat.le_refl _) _
      have hQ : ∀ i, i < 4 → w4.cell? ⟨w3.heap.size, i, none⟩ = some (.int .i64 (LD a b c i : Int)) := by
        rw [hw4]
        intro i hi
        have h := hcy i hi
        have e := hya (by omega)
        simp only [Option.some.injEq, Addr.mk.injEq] at e
        rw [← e.1, ← e.2.1, Nat.zero_add] at h
        exact h
      have hE4 := hE3.below hA3
      have hR4 := hR3.below hA3
      have hG4 := hG3.below hA3
      have hB4 := hB3.trans (hA3.mono hB3.size)
      have HQ := Lib.hid hQ
      have HE4 := Lib.hid hE4
      have HR4 := Lib.hid hR4
      have HG4 := Lib.hid hG4
      have HB4 := Lib.hid hB4
      have hDl : ∀ i, i < 4 → LD a b c i ≤ 100 := fun i _ => by have := rawD_rng HJ.out i; unfold LD; omega
      have HDL := Lib.hid hDl
      have HSM2 := Lib.hid hsm2
      clear hcy hya hQ hE4 hR4 hG4 hB4 hA3 hE3 hO3 hB3 hR3 hG3 hC2 hC2e hDl hsm2
      have t7 : Int.tdiv (a + b + c) 2 = (a + b + c) / 2 := Int.tdiv_eq_ediv_of_nonneg (by omega)
      go_wp2_with fail
      rw [← hw4]
      clear hw4 t7
      refine (takeFac_any (w.heap.size + 1) w3.heap.size 4 4 C2 (LD a b c) (-1) _ HG4.out hg2 HE4.out (by omega) HQ.out (by omega) HDL.out (by omega) (by omega) HSM2.out).mono ?_
      rintro e w5 ⟨⟨v, rfl⟩, hE5, hO5⟩
      have hB5 := hO5.below HB4.out (Nat.le_succ _)
      have hR5 := hO5.exps HR4.out (show w.heap.size ≠ w.heap.size + 1 by omega)
      have hG5 := HG4.out.only hO5 hg2
      obtain ⟨E, hEd⟩ : ∃ E, E = facPL C2 (-1) (LD a b c) 4 := ⟨_, rfl⟩
      have hEe : E = expJ a x b y c := by rw [hEd, HC2.out]; rfl
      rw [← hEd] at hE5
      rw [← hEe] at HF
      have k0 := hE5.cell (k := 0) (by omega)
      have k1 := hE5.cell (k := 1) (by omega)
      have k2 := hE5.cell (k := 2) (by omega)
      have k3 := hE5.cell (k := 3) (by omega)
      have k4 := hE5.cell (k := 4) (by omega)
      have k5 := hE5.cell (k := 5) (by omega)
      have HEE := Lib.hid hEe
      have HG5 := Lib.hid hG5
      have HR5 := Lib.hid hR5
      have HB5 := Lib.hid hB5
      clear hEd hEe hE5 hO5 hB5 hR5 hG5
      go_wp2_with fail
      clear k0 k1 k2 k3 k4 k5
      refine (signSq_any E SM _ HG5.out HF.out HS.out.1 HS.out.2).mono ?_
      rintro e w6 ⟨rfl, hb6⟩
      unfold frac
      have hR6 := HR5.out.below hb6
      have r0 : w6.cell? ⟨w.heap.size, 0, none⟩ = some (.int .i64 0) := hR6.cell (k := 0) (by omega)
      have r1 : w6.cell? ⟨w.heap.size, 1, none⟩ = some (.int .i64 0) := hR6.cell (k := 1) (by omega)
      have g0 := hR6.frozen (k := 0)
      have g1 := hR6.frozen (k := 1)
      have hB6 := HB5.out.trans (hb6.mono HB5.out.size)
      have HB6 := Lib.hid hB6
      rw [HEE.out, HSM.out]
      obtain ⟨R1, hR1⟩ : ∃ R1, R1 = sqG (expJ a x b y c) (sumAll a x b y c) := ⟨_, rfl⟩
      obtain ⟨R2, hR2⟩ : ∃ R2, R2 = sqU (expJ a x b y c) (sumAll a x b y c) := ⟨_, rfl⟩
      obtain ⟨R3, hR3⟩ : ∃ R3, R3 = sqD (expJ a x b y c) (sumAll a x b y c) := ⟨_, rfl⟩
      rw [← hR1, ← hR2, ← hR3]
      have HR1 := Lib.hid hR1
      have HR2 := Lib.hid hR2
      have HR3 := Lib.hid hR3
      clear hR1 hR2 hR3 hR6 hB6 hb6
      go_wp2
      refine bodyPost_ret (v := .tuple #[.int .i64 R1, .agg #[.int .i64 R2, .int .i64 R3]]) ?_ rfl ⟨by rw [HR1.out, HR2.out, HR3.out]; rfl, ?_⟩
      · rw [results_tmp_cell rfl]
        go_simp
      · exact (HB6.out.setCell (p := ⟨w.heap.size, 0, none⟩) (Nat.le_refl _) _).setCell (p := ⟨w.heap.size, 1, none⟩) (Nat.le_refl _) _
end Go.Proofs.YtffhnkhjfggooabDoor
