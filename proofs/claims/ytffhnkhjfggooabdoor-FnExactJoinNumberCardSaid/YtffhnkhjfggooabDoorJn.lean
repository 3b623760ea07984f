/- The sign and the square of a share: as the model tells them. -/
import Derived.Test.YtffhnkhjfggooabDoorSqr
import Derived.Test.YtffhnkhjfggooabDoorSets
namespace Go.Proofs.YtffhnkhjfggooabDoor
open Go Go.ChangeShapes Go.WideShapes Go.ChangeAt Go.RowKit

/-- Turns and parts that can be joined. -/
structure JAt (a x b y c : Int) : Prop where
  a0 : 0 ≤ a
  a1 : a ≤ 6
  b0 : 0 ≤ b
  b1 : b ≤ 6
  x0 : -a ≤ x
  x1 : x ≤ a
  xe : (a - x) % 2 = 0
  y0 : -b ≤ y
  y1 : y ≤ b
  ye : (b - y) % 2 = 0
  c0 : a - b ≤ c
  c1 : b - a ≤ c
  c2 : c ≤ a + b
  ce : (a + b - c) % 2 = 0
  z0 : -c ≤ x + y
  z1 : x + y ≤ c
  ze : (c - (x + y)) % 2 = 0
def termJ (a x b y c k : Int) : Int := setsI ((a + b - c) / 2) k * setsI ((c + a - b) / 2) ((a - x) / 2 - k) * setsI ((c + b - a) / 2) ((b + y) / 2 - k)
def sgnTerm (a x b y c : Int) (k : Nat) : Int := if k % 2 = 1 then -termJ a x b y c k else termJ a x b y c k
def sumJ (a x b y c : Int) : Nat → Int
  | 0 => 0
  | k + 1 => sumJ a x b y c k + sgnTerm a x b y c k
def mJ (a b c : Int) : Nat := ((a + b - c) / 2).toNat
def sumAll (a x b y c : Int) : Int := sumJ a x b y c (mJ a b c + 1)
theorem setsSmall : ((List.range 13).all fun n => (List.range 13).all fun k => decide (setsR n k ≤ 1000)) = true := by decide +kernel
theorem setsI_rng {n k : Int} (h0 : 0 ≤ n) (h1 : n ≤ 12) : 0 ≤ setsI n k ∧ setsI n k ≤ 1000 := by
  unfold setsI
  split
  · omega
  · have h := setsSmall
    rw [List.all_eq_true] at h
    have h2 := h n.toNat (List.mem_range.2 (by omega))
    rw [List.all_eq_true] at h2
    have h3 := h2 k.toNat (List.mem_range.2 (by omega))
    rw [decide_eq_true_eq] at h3
    omega
theorem mul_rng {p q A B : Int} (p0 : 0 ≤ p) (p1 : p ≤ A) (q0 : 0 ≤ q) (q1 : q ≤ B) : 0 ≤ p * q ∧ p * q ≤ A * B :=
  ⟨Int.mul_nonneg p0 q0, Int.mul_le_mul p1 q1 q0 (by omega)⟩
theorem sgn_rng {a x b y c : Int} (h : JAt a x b y c) (k : Nat) : -1000000000 ≤ sgnTerm a x b y c k ∧ sgnTerm a x b y c k ≤ 1000000000 := by
  have e1 := setsI_rng (n := (a + b - c) / 2) (k := k) (by have := h.c2; omega) (by have := h.a1; have := h.b1; have := h.c0; have := h.c1; have := h.a0; have := h.b0; omega)
  have e2 := setsI_rng (n := (c + a - b) / 2) (k := (a - x) / 2 - k) (by have := h.c1; omega) (by have := h.a1; have := h.b1; have := h.c2; have := h.a0; have := h.b0; omega)
  have e3 := setsI_rng (n := (c + b - a) / 2) (k := (b + y) / 2 - k) (by have := h.c0; omega) (by have := h.a1; have := h.b1; have := h.c2; have := h.a0; have := h.b0; omega)
  have f1 := mul_rng e1.1 e1.2 e2.1 e2.2
  have f2 := mul_rng f1.1 f1.2 e3.1 e3.2
  have : 0 ≤ termJ a x b y c k ∧ termJ a x b y c k ≤ 1000000000 := by unfold termJ; omega
  unfold sgnTerm
  split <;> omega
theorem sumJ_rng {a x b y c : Int} (h : JAt a x b y c) (k : Nat) : -1000000000 * (k : Int) ≤ sumJ a x b y c k ∧ sumJ a x b y c k ≤ 1000000000 * (k : Int) := by
  induction k with
  | zero => simp [sumJ]
  | succ k ih =>
    have := sgn_rng h k
    simp only [sumJ]
    omega
/-- The numbers whose halves' factorials are taken. -/
def rawU (a x b y c : Int) (i : Nat) : Int := if i = 0 then a + x else if i = 1 then a - x else if i = 2 then b + y else if i = 3 then b - y else if i = 4 then c + (x + y) else c - (x + y)
def rawD (a b c : Int) (i : Nat) : Int := if i = 0 then a + b + c + 2 else if i = 1 then a + b - c else if i = 2 then c + a - b else c + b - a
def facL (C : Nat → Int) (t : Int) (L : Nat → Int) : Nat → Nat → Int
  | 0 => C
  | k + 1 => facS (facL C t L k) t (L k / 2).toNat
def cntU (a x b y c : Int) : Nat → Int := facL (addS (fun _ => 0) 1 (c + 1).toNat 6) 1 (rawU a x b y c) 6
def cntJ (a x b y c : Int) : Nat → Int := facL (cntU a x b y c) (-1) (rawD a b c) 4
theorem rawU_rng {a x b y c : Int} (h : JAt a x b y c) (i : Nat) : 0 ≤ rawU a x b y c i ∧ rawU a x b y c i ≤ 24 ∧ rawU a x b y c i % 2 = 0 := by
  obtain ⟨a0, a1, b0, b1, x0, x1, xe, y0, y1, ye, c0, c1, c2, ce, z0, z1, ze⟩ := h
  unfold rawU
  split
  · omega
  split
  · omega
  split
  · omega
  split
  · omega
  split <;> omega
theorem rawD_rng {a x b y c : Int} (h : JAt a x b y c) (i : Nat) : 0 ≤ rawD a b c i ∧ rawD a b c i ≤ 26 ∧ rawD a b c i % 2 = 0 := by
  obtain ⟨a0, a1, b0, b1, x0, x1, xe, y0, y1, ye, c0, c1, c2, ce, z0, z1, ze⟩ := h
  unfold rawD
  split
  · omega
  split
  · omega
  split <;> omega
theorem facL_small {C : Nat → Int} {t K : Int} (ht : -2 ≤ t) (ht' : t ≤ 2) {N : Nat} (hC : Small C N K) {L : Nat → Int} (hL : ∀ i, 0 ≤ L i ∧ L i ≤ 26) (k : Nat) : Small (facL C t L k) N (K + 10000 * k) := by
  induction k with
  | zero => intro q hq; have := hC q hq; simp only [facL]; omega
  | succ k ih =>
    intro q hq
    have h1 := facS_small ht ht' ih (L k / 2).toNat q hq
    have h2 := hL k
    simp only [facL]
    omega
theorem small_zero (N : Nat) : Small (fun _ => 0) N 0 := fun _ _ => ⟨by simp, by simp⟩
theorem cntU_small {a x b y c : Int} (h : JAt a x b y c) (k : Nat) (hk : k ≤ 6) : Small (facL (addS (fun _ => 0) 1 (c + 1).toNat 6) 1 (rawU a x b y c) k) 14 100000 := fun q hq => by
  have h1 := facL_small (t := 1) (by omega) (by omega) (addS_small (t := 1) (n := (c + 1).toNat) (by omega) (by omega) (small_zero 14)) (L := rawU a x b y c) (fun i => by have := rawU_rng h i; omega) k q hq
  omega
theorem cntJ_small {a x b y c : Int} (h : JAt a x b y c) (k : Nat) (hk : k ≤ 4) : Small (facL (cntU a x b y c) (-1) (rawD a b c) k) 14 200000 := fun q hq => by
  have h1 := facL_small (t := -1) (by omega) (by omega) (show Small (cntU a x b y c) 14 100000 from cntU_small h 6 (Nat.le_refl _)) (L := rawD a b c) (fun i => by have := rawD_rng h i; omega) k q hq
  omega
theorem rdI_six (w : World) (X : Nat → Int) (t : TypeId) (a0 a1 a2 a3 a4 a5 : Int) (h0 : X 0 = a0) (h1 : X 1 = a1) (h2 : X 2 = a2) (h3 : X 3 = a3) (h4 : X 4 = a4) (h5 : X 5 = a5) :
    RdI (w.alloc (.cells #[.int .i64 a0, .int .i64 a1, .int .i64 a2, .int .i64 a3, .int .i64 a4, .int .i64 a5] t)) (some ⟨w.heap.size, 0, none⟩) 6 X := by
  refine ⟨w.heap.size, 0, fun _ => rfl, fun i hi => ?_⟩
  rw [Nat.zero_add, World.cell?_alloc_new]
  subst h0 h1 h2 h3 h4 h5
  rcases (by omega : i = 0 ∨ i = 1 ∨ i = 2 ∨ i = 3 ∨ i = 4 ∨ i = 5) with rfl | rfl | rfl | rfl | rfl | rfl <;> rfl
theorem rdI_four (w : World) (X : Nat → Int) (t : TypeId) (a0 a1 a2 a3 : Int) (h0 : X 0 = a0) (h1 : X 1 = a1) (h2 : X 2 = a2) (h3 : X 3 = a3) :
    RdI (w.alloc (.cells #[.int .i64 a0, .int .i64 a1, .int .i64 a2, .int .i64 a3] t)) (some ⟨w.heap.size, 0, none⟩) 4 X := by
  refine ⟨w.heap.size, 0, fun _ => rfl, fun i hi => ?_⟩
  rw [Nat.zero_add, World.cell?_alloc_new]
  subst h0 h1 h2 h3
  rcases (by omega : i = 0 ∨ i = 1 ∨ i = 2 ∨ i = 3) with rfl | rfl | rfl | rfl <;> rfl
theorem exps_zero (w : World) (e : TypeId) : Exps (w.alloc (.cells #[.int .i64 0, .int .i64 0, .int .i64 0, .int .i64 0, .int .i64 0, .int .i64 0, .int .i64 0, .int .i64 0, .int .i64 0, .int .i64 0, .int .i64 0, .int .i64 0, .int .i64 0, .int .i64 0] e)) w.heap.size e 14 (fun _ => 0) :=
  ⟨rfl, .inr ⟨w.heap.size, 14, _, rfl, Nat.zero_le _, World.alloc_heap_new w _, Nat.le_refl _, by unfold maxLen; omega, rfl, rfl⟩⟩
set_option maxRecDepth 100000 in
set_option maxHeartbeats 6400000 in
theorem l03Join_any (a x b y c : Int) (w : World) (h : JAt a x b y c) (hs : -1000000 ≤ sumAll a x b y c ∧ sumAll a x b y c ≤ 1000000)
    (hF : sumAll a x b y c ≠ 0 → FitS (addS (cntJ a x b y c) 2 (sumAll a x b y c).natAbs 6) (restT (sumAll a x b y c).natAbs 6)) :
    Calls Tryd.prog 35 #[.int .i64 a, .int .i64 x, .int .i64 b, .int .i64 y, .int .i64 c] w fun e w' =>
      e = .returned (.tuple #[.int .i64 (sqS (cntJ a x b y c) (sumAll a x b y c)).1, .int .i64 (sqS (cntJ a x b y c) (sumAll a x b y c)).2.1, .int .i64 (sqS (cntJ a x b y c) (sumAll a x b y c)).2.2]) ∧ Below w.heap.size w w' := by
  have HJ := Lib.hid h
  have HS := Lib.hid hs
  have HF := Lib.hid hF
  obtain ⟨a0, a1, b0, b1, x0, x1, xe, y0, y1, ye, c0, c1, c2, ce, z0, z1, ze⟩ := h
  clear hs hF
  obtain ⟨m, hm⟩ : ∃ m, m = mJ a b c := ⟨_, rfl⟩
  have hmd : (a + b - c) / 2 = (m : Int) := by rw [hm]; unfold mJ; omega
  have hm6 : m ≤ 6 := by omega
  have HM := Lib.hid hm
  clear hm
  have d1 : Int.tdiv (a + b - c) 2 = (a + b - c) / 2 := Int.tdiv_eq_ediv_of_nonneg (by omega)
  have d2 : Int.tdiv (c + a - b) 2 = (c + a - b) / 2 := Int.tdiv_eq_ediv_of_nonneg (by omega)
  have d3 : Int.tdiv (c + b - a) 2 = (c + b - a) / 2 := Int.tdiv_eq_ediv_of_nonneg (by omega)
  have d4 : Int.tdiv (a - x) 2 = (a - x) / 2 := Int.tdiv_eq_ediv_of_nonneg (by omega)
  have d5 : Int.tdiv (b + y) 2 = (b + y) / 2 := Int.tdiv_eq_ediv_of_nonneg (by omega)
  go_enter Tryd.func35, Tryd.ntmps35
  go_wp2
  go_loop [15, 16, 17] (fun s i _ => ∃ k : Nat, k ≤ m + 1 ∧ i = .int .i64 (k : Int) ∧ s = .int .i64 (sumJ a x b y c k)) (fun _ i _ => m + 1 - (intOf i).toNat)
  case atStart => exact ⟨0, Nat.zero_le _, rfl, rfl⟩
  case round =>
    obtain ⟨k, hk, rfl, rfl⟩ := hrel
    by_cases hlt : k < m + 1
    · have hkm : (k : Int) ≤ (m : Int) := by omega
      obtain ⟨S1, q1⟩ : ∃ S1, setsI (m : Int) (k : Int) = S1 := ⟨_, rfl⟩
      obtain ⟨S2, q2⟩ : ∃ S2, setsI ((c + a - b) / 2) ((a - x) / 2 - (k : Int)) = S2 := ⟨_, rfl⟩
      obtain ⟨S3, q3⟩ : ∃ S3, setsI ((c + b - a) / 2) ((b + y) / 2 - (k : Int)) = S3 := ⟨_, rfl⟩
      obtain ⟨e1, e1'⟩ := setsI_rng (n := (m : Int)) (k := (k : Int)) (by omega) (by omega)
      obtain ⟨e2, e2'⟩ := setsI_rng (n := (c + a - b) / 2) (k := (a - x) / 2 - (k : Int)) (by omega) (by omega)
      obtain ⟨e3, e3'⟩ := setsI_rng (n := (c + b - a) / 2) (k := (b + y) / 2 - (k : Int)) (by omega) (by omega)
      rw [q1] at e1 e1'
      rw [q2] at e2 e2'
      rw [q3] at e3 e3'
      obtain ⟨f1, f1'⟩ := mul_rng e1 e1' e2 e2'
      obtain ⟨f2, f2'⟩ := mul_rng f1 f1' e3 e3'
      have ht : termJ a x b y c k = S1 * S2 * S3 := by unfold termJ; rw [hmd, q1, q2, q3]
      obtain ⟨g0, g1⟩ := sumJ_rng HJ.out k
      have hlast : S1 * S2 * S3 ≤ 1000000000 := by omega
      have hk7 : (k : Int) ≤ 7 := by omega
      by_cases hp : k % 2 = 1
      · have hpi : (((k : Int) % 2) == 1) = true := by rw [beq_iff_eq]; omega
        have hmt : Int.tmod (k : Int) 2 = (k : Int) % 2 := Int.tmod_eq_emod_of_nonneg (by omega)
        have HN := Lib.hid (show sumJ a x b y c k + -(S1 * S2 * S3) = sumJ a x b y c (k + 1) by simp only [sumJ, sgnTerm]; rw [if_pos hp, ht])
        clear ht
        go_wp2_with (go_at_call 64; refine (l03Sets_any _ _ _ (by omega) (by omega)).mono ?_; rintro e w' ⟨rfl, rfl⟩)
        go_round
        case rel => exact ⟨k + 1, by omega, by go_num, by rw [← HN.out]⟩
        case measure => simp [intOf]; omega
      · have hpi : (((k : Int) % 2) == 1) = false := by rw [beq_eq_false_iff_ne]; omega
        have hmt : Int.tmod (k : Int) 2 = (k : Int) % 2 := Int.tmod_eq_emod_of_nonneg (by omega)
        have HN := Lib.hid (show sumJ a x b y c k + S1 * S2 * S3 = sumJ a x b y c (k + 1) by simp only [sumJ, sgnTerm]; rw [if_neg hp, ht])
        clear ht
        go_wp2_with (go_at_call 64; refine (l03Sets_any _ _ _ (by omega) (by omega)).mono ?_; rintro e w' ⟨rfl, rfl⟩)
        go_round
        case rel => exact ⟨k + 1, by omega, by go_num, by rw [← HN.out]⟩
        case measure => simp [intOf]; omega
    · obtain rfl : k = m + 1 := by omega
      obtain ⟨SM, hSM⟩ : ∃ SM, SM = sumAll a x b y c := ⟨_, rfl⟩
      have hsm : sumJ a x b y c (m + 1) = SM := by rw [hSM, HM.out]; rfl
      rw [← hSM] at HS HF
      have HSM := Lib.hid hSM
      clear hSM d1 d2 d3 d4 d5
      rw [hsm]
      clear hsm
      have hdd : decide ((m : Int) + 1 ≤ (m : Int)) = false := decide_eq_false (by omega)
      obtain ⟨n1, hn1⟩ : ∃ n1, n1 = (c + 1).toNat := ⟨_, rfl⟩
      have hc1 : c + 1 = (n1 : Int) := by omega
      have HN1 := Lib.hid hn1
      clear hn1
      go_wp2_with fail
      have hz := exps_zero w 70
      refine (l03Times_any w.heap.size (fun _ => 0) n1 1 _ hz (by omega) (by omega) (by omega) (by omega) (fun q hq => ⟨by simp, by simp⟩)).mono ?_
      rintro e w1 ⟨⟨v, rfl⟩, hE1, hO1⟩
      have hB1 : Below w.heap.size w w1 := hO1.below ((Below.refl _ w).alloc (Nat.le_refl _) _) (Nat.le_refl _)
      have hg1 : w.heap.size < w1.heap.size := hE1.lt
      obtain ⟨g0, hg0⟩ : ∃ g0, g0 = w.heap.size := ⟨_, rfl⟩
      rw [← hg0] at hE1 hg1 hB1 ⊢
      have HG0 := Lib.hid hg0
      obtain ⟨C1, hC1⟩ : ∃ C1, C1 = addS (fun _ => 0) 1 n1 6 := ⟨_, rfl⟩
      rw [← hC1] at hE1
      have hC1' : C1 = addS (fun _ => 0) 1 (c + 1).toNat 6 := by rw [hC1, HN1.out]
      have HC1 := Lib.hid hC1'
      obtain ⟨xb, xo, hxa, hcx⟩ := rdI_six w1 (rawU a x b y c) 2 (a + x) (a - x) (b + y) (b - y) (c + (x + y)) (c - (x + y)) rfl rfl rfl rfl rfl rfl
      obtain ⟨w2, hw2⟩ : ∃ w2, w2 = w1.alloc (.cells #[.int .i64 (a + x), .int .i64 (a - x), .int .i64 (b + y), .int .i64 (b - y), .int .i64 (c + (x + y)), .int .i64 (c - (x + y))] 2) := ⟨_, rfl⟩
      have hE2 : Exps w2 g0 70 14 C1 := by rw [hw2]; exact hE1.below ((Below.refl _ w1).alloc (Nat.le_refl _) _)
      have hB2 : Below g0 w w2 := by rw [hw2]; exact hB1.alloc (by omega) _
      have hs2 : w2.heap.size = w1.heap.size + 1 := by rw [hw2]; simp
      have hP : ∀ i, i < 6 → w2.cell? ⟨w1.heap.size, i, none⟩ = some (.int .i64 (rawU a x b y c i)) := by
        rw [hw2]
        intro i hi
        have h := hcx i hi
        have e := hxa (by omega)
        simp only [Option.some.injEq, Addr.mk.injEq] at e
        rw [← e.1, ← e.2.1, Nat.zero_add] at h
        exact h
      have HP := Lib.hid hP
      have HE2 := Lib.hid hE2
      have HB2 := Lib.hid hB2
      clear hcx hP hE2 hxa hE1 hO1 hB1 hB2 hc1 hC1 hC1' hz hg0
      go_wp2
      rw [← hw2]
      clear hw2
      go_loopw [102] (fun i wr => ∃ k : Nat, k ≤ 6 ∧ i = .int .i64 (k : Int) ∧ Exps wr g0 70 14 (facL C1 1 (rawU a x b y c) k) ∧ Only g0 w2 wr) (fun i _ => 6 - (intOf i).toNat)
      case atStart => exact ⟨0, Nat.zero_le _, rfl, HE2.out, Only.refl _ _⟩
      case round =>
        obtain ⟨k, hk, rfl, hEk, hOk⟩ := hrel
        have HEk := Lib.hid hEk
        have HOk := Lib.hid hOk
        clear hEk hOk
        by_cases hlt : k < 6
        · have hpk : wr.cell? ⟨w1.heap.size, k, none⟩ = some (.int .i64 (rawU a x b y c k)) := (HOk.out.cell (a := ⟨w1.heap.size, k, none⟩) (by simp only; omega) (by simp only; omega)).trans (HP.out k hlt)
          obtain ⟨r0, r1, r2⟩ := rawU_rng HJ.out k
          obtain ⟨R, hR⟩ : ∃ R, R = rawU a x b y c k := ⟨_, rfl⟩
          rw [← hR] at hpk r0 r1 r2
          obtain ⟨L, hL⟩ : ∃ L, L = (R / 2).toNat := ⟨_, rfl⟩
          have hdv : R / 2 = (L : Int) := by omega
          have hdt : Int.tdiv R 2 = R / 2 := Int.tdiv_eq_ediv_of_nonneg r0
          have hL12 : L ≤ 100 := by omega
          have HSUC := Lib.hid (show facS (facL C1 1 (rawU a x b y c) k) 1 L = facL C1 1 (rawU a x b y c) (k + 1) by rw [hL, hR]; rfl)
          have hsm : Small (facL C1 1 (rawU a x b y c) k) 14 900000000 := fun q hq => by
            have h := cntU_small HJ.out k (by omega) q hq
            rw [← HC1.out] at h
            omega
          have HSMALL := Lib.hid hsm
          clear hR hL hsm
          go_wp2_with fail
          refine (l03Factorial_any g0 _ L 1 _ HEk.out hL12 (by omega) (by omega) HSMALL.out).mono ?_
          rintro e w' ⟨⟨v, rfl⟩, hE', hO'⟩
          go_wp2
          go_roundw
          case rel => exact ⟨k + 1, by omega, by go_num, by rw [← HSUC.out]; exact hE', HOk.out.trans hO'⟩
          case measure => simp [intOf]; omega
        · obtain rfl : k = 6 := by omega
          rw [show ((6 : Nat) : Int) = 6 from rfl]
          obtain ⟨wu, hwu⟩ : ∃ wu, wu = wr := ⟨_, rfl⟩
          subst hwu
          obtain ⟨C2, hC2⟩ : ∃ C2, C2 = facL C1 1 (rawU a x b y c) 6 := ⟨_, rfl⟩
          have HC2 := Lib.hid (show C2 = cntU a x b y c by rw [hC2, HC1.out]; rfl)
          have hB3 : Below g0 w wu := HOk.out.below (w := w) (by rw [← HG0.out]; exact HB2.out) (Nat.le_of_eq HG0.out.symm) |> fun h => by rw [HG0.out]; exact h
          have hE3 : Exps wu g0 70 14 C2 := by rw [hC2]; exact HEk.out
          have hg3 := hE3.lt
          obtain ⟨yb, yo, hya, hcy⟩ := rdI_four wu (rawD a b c) 2 (a + b + c + 2) (a + b - c) (c + a - b) (c + b - a) rfl rfl rfl rfl
          obtain ⟨w3, hw3⟩ : ∃ w3, w3 = wu.alloc (.cells #[.int .i64 (a + b + c + 2), .int .i64 (a + b - c), .int .i64 (c + a - b), .int .i64 (c + b - a)] 2) := ⟨_, rfl⟩
          have hE4 : Exps w3 g0 70 14 C2 := by rw [hw3]; exact hE3.below ((Below.refl _ wu).alloc (Nat.le_refl _) _)
          have hB4 : Below g0 w w3 := by rw [hw3]; exact hB3.alloc (by omega) _
          have hs3 : w3.heap.size = wu.heap.size + 1 := by rw [hw3]; simp
          have hQ : ∀ i, i < 4 → w3.cell? ⟨wu.heap.size, i, none⟩ = some (.int .i64 (rawD a b c i)) := by
            rw [hw3]
            intro i hi
            have h := hcy i hi
            have e := hya (by omega)
            simp only [Option.some.injEq, Addr.mk.injEq] at e
            rw [← e.1, ← e.2.1, Nat.zero_add] at h
            exact h
          have HQ := Lib.hid hQ
          have HE4 := Lib.hid hE4
          have HB4 := Lib.hid hB4
          clear hcy hQ hE4 hya hE3 hB3 hB4 hC2
          go_wp2
          rw [← hw3]
          clear hw3
          go_loopw [134] (fun i wr => ∃ k : Nat, k ≤ 4 ∧ i = .int .i64 (k : Int) ∧ Exps wr g0 70 14 (facL C2 (-1) (rawD a b c) k) ∧ Only g0 w3 wr) (fun i _ => 4 - (intOf i).toNat)
          case atStart => exact ⟨0, Nat.zero_le _, rfl, HE4.out, Only.refl _ _⟩
          case round =>
            obtain ⟨k, hk, rfl, hEk, hOk⟩ := hrel
            have HEq := Lib.hid hEk
            have HOq := Lib.hid hOk
            clear hEk hOk
            by_cases hlt : k < 4
            · have hpk : wr.cell? ⟨wu.heap.size, k, none⟩ = some (.int .i64 (rawD a b c k)) := (HOq.out.cell (a := ⟨wu.heap.size, k, none⟩) (by simp only; omega) (by simp only; omega)).trans (HQ.out k hlt)
              obtain ⟨r0, r1, r2⟩ := rawD_rng HJ.out k
              obtain ⟨R, hR⟩ : ∃ R, R = rawD a b c k := ⟨_, rfl⟩
              rw [← hR] at hpk r0 r1 r2
              obtain ⟨L, hL⟩ : ∃ L, L = (R / 2).toNat := ⟨_, rfl⟩
              have hdv : R / 2 = (L : Int) := by omega
              have hdt : Int.tdiv R 2 = R / 2 := Int.tdiv_eq_ediv_of_nonneg r0
              have hL12 : L ≤ 100 := by omega
              have HSUC := Lib.hid (show facS (facL C2 (-1) (rawD a b c) k) (-1) L = facL C2 (-1) (rawD a b c) (k + 1) by rw [hL, hR]; rfl)
              have hsm : Small (facL C2 (-1) (rawD a b c) k) 14 900000000 := fun q hq => by
                have h := cntJ_small HJ.out k (by omega) q hq
                rw [← HC2.out] at h
                omega
              have HSMALL := Lib.hid hsm
              clear hR hL hsm
              go_wp2_with fail
              refine (l03Factorial_any g0 _ L (-1) _ HEq.out hL12 (by omega) (by omega) HSMALL.out).mono ?_
              rintro e w' ⟨⟨v, rfl⟩, hE', hO'⟩
              go_wp2
              go_roundw
              case rel => exact ⟨k + 1, by omega, by go_num, by rw [← HSUC.out]; exact hE', HOq.out.trans hO'⟩
              case measure => simp [intOf]; omega
            · obtain rfl : k = 4 := by omega
              obtain ⟨C3, hC3⟩ : ∃ C3, C3 = facL C2 (-1) (rawD a b c) 4 := ⟨_, rfl⟩
              have hC3c : C3 = cntJ a x b y c := by rw [hC3, HC2.out]; rfl
              have hsm : Small C3 14 900000000 := fun q hq => by
                have h := cntJ_small HJ.out 4 (Nat.le_refl _) q hq
                rw [← HC2.out, ← hC3] at h
                omega
              have hE5 : Exps wr g0 70 14 C3 := by rw [hC3]; exact HEq.out
              have hBq : Below g0 w wr := HOq.out.below (w := w) (by rw [← HG0.out]; exact HB4.out) (Nat.le_of_eq HG0.out.symm) |> fun h => by rw [HG0.out]; exact h
              rw [← hC3c] at HF
              have HEND := Lib.hid (show ∀ r1 r2 r3 : Int, (r1, r2, r3) = sqS C3 SM → r1 = (sqS (cntJ a x b y c) (sumAll a x b y c)).1 ∧ r2 = (sqS (cntJ a x b y c) (sumAll a x b y c)).2.1 ∧ r3 = (sqS (cntJ a x b y c) (sumAll a x b y c)).2.2 from fun r1 r2 r3 h => by
                rw [hC3c, HSM.out] at h
                rw [← h]
                exact ⟨rfl, rfl, rfl⟩)
              obtain ⟨PS, hPS⟩ : ∃ PS, PS = sqS C3 SM := ⟨_, rfl⟩
              have HPS := Lib.hid hPS
              have HBQ := Lib.hid hBq
              have HSMC := Lib.hid hsm
              have HE5 := Lib.hid hE5
              clear hC3 hC3c hsm hE5 hBq hPS
              go_wp2_with fail
              refine (l03Square_any g0 C3 SM _ HE5.out HSMC.out HS.out.1 HS.out.2 HF.out).mono ?_
              rintro e w' ⟨rfl, hO'⟩
              rw [← HPS.out]
              obtain ⟨p1, p2, p3⟩ := PS
              have HT := Lib.hid (HEND.out p1 p2 p3 HPS.out)
              go_wp2
              go_ret3
              refine ⟨by rw [← HT.out.1, ← HT.out.2.1, ← HT.out.2.2]; rfl, ?_⟩
              have h := hO'.below (w := w) (by rw [← HG0.out]; exact HBQ.out) (Nat.le_of_eq HG0.out.symm)
              exact h
end Go.Proofs.YtffhnkhjfggooabDoor
