/- The program's share is the model's: for all turns and parts that can be joined, by a table. -/
import Derived.Test.YtffhnkhjfggooabDoorJi
namespace Go.Proofs.YtffhnkhjfggooabDoor
open Go Go.ChangeShapes Go.WideShapes Go.ChangeAt Go.RowKit

/-- How often the prime of a place is a factor of a factorial. -/
def fX (n i : Nat) : Nat := match n with
  | 0 => 0
  | 1 => 0
  | m + 2 => fX (m + 1) i + expX (m + 2) i
def fxL : List (List Nat) := [[0,0,0,0,0,0],[0,0,0,0,0,0],[1,0,0,0,0,0],[1,1,0,0,0,0],[3,1,0,0,0,0],[3,1,1,0,0,0],[4,2,1,0,0,0],[4,2,1,1,0,0],[7,2,1,1,0,0],[7,4,1,1,0,0],[8,4,2,1,0,0],[8,4,2,1,1,0],[10,5,2,1,1,0],[10,5,2,1,1,1],[11,5,2,2,1,1]]
def fxT (n i : Nat) : Nat := (fxL.getD n []).getD i 0
theorem fxT_all : ((List.range 15).all fun n => (List.range 6).all fun i => decide (fX n i = fxT n i)) = true := by decide +kernel
theorem fX_eq {n i : Nat} (hn : n ≤ 14) (hi : i < 6) : fX n i = fxT n i := by
  have h := fxT_all
  rw [List.all_eq_true] at h
  have h2 := h n (List.mem_range.2 (by omega))
  rw [List.all_eq_true] at h2
  exact of_decide_eq_true (h2 i (List.mem_range.2 hi))
def exL : List (List Nat) := [[0,0,0,0,0,0],[0,0,0,0,0,0],[1,0,0,0,0,0],[0,1,0,0,0,0],[2,0,0,0,0,0],[0,0,1,0,0,0],[1,1,0,0,0,0],[0,0,0,1,0,0],[3,0,0,0,0,0],[0,2,0,0,0,0],[1,0,1,0,0,0],[0,0,0,0,1,0],[2,1,0,0,0,0],[0,0,0,0,0,1]]
def exT (n i : Nat) : Nat := (exL.getD n []).getD i 0
theorem exT_all : ((List.range 14).all fun n => n == 0 || (List.range 6).all fun i => decide (expX n i = exT n i)) = true := by decide +kernel
theorem ex_eq {n i : Nat} (h1 : 1 ≤ n) (hn : n ≤ 13) (hi : i < 6) : expX n i = exT n i := by
  have h := exT_all
  rw [List.all_eq_true] at h
  have h2 := h n (List.mem_range.2 (by omega))
  rw [Bool.or_eq_true] at h2
  rcases h2 with h2 | h2
  · rw [beq_iff_eq] at h2; omega
  · rw [List.all_eq_true] at h2
    exact of_decide_eq_true (h2 i (List.mem_range.2 hi))
theorem pr_inj {i j : Nat} (hi : i < 6) (hj : j < 6) (h : pr i = pr j) : i = j := by
  rcases (by omega : i = 0 ∨ i = 1 ∨ i = 2 ∨ i = 3 ∨ i = 4 ∨ i = 5) with rfl | rfl | rfl | rfl | rfl | rfl <;>
    rcases (by omega : j = 0 ∨ j = 1 ∨ j = 2 ∨ j = 3 ∨ j = 4 ∨ j = 5) with rfl | rfl | rfl | rfl | rfl | rfl <;> first | rfl | (simp [pr] at h)
theorem addS_at (C : Nat → Int) (t : Int) (n i : Nat) (hi : i < 6) : ∀ k, k ≤ 6 → addS C t n k (pr i) = if i < k then C (pr i) + t * (expX n i : Int) else C (pr i) := by
  intro k
  induction k with
  | zero => intro _; simp [addS]
  | succ k ih =>
    intro hk
    have e := ih (by omega)
    simp only [addS]
    by_cases hik : i = k
    · subst hik
      rw [if_pos rfl, e, if_neg (by omega), if_pos (by omega)]
    · rw [if_neg (fun h => hik (pr_inj hi (by omega) h)), e]
      by_cases h2 : i < k
      · rw [if_pos h2, if_pos (by omega)]
      · rw [if_neg h2, if_neg (by omega)]
theorem addS_no (C : Nat → Int) (t : Int) (n q : Nat) (hq : ∀ i, i < 6 → pr i ≠ q) : ∀ k, k ≤ 6 → addS C t n k q = C q := by
  intro k
  induction k with
  | zero => intro _; rfl
  | succ k ih =>
    intro hk
    simp only [addS]
    rw [if_neg (fun h => hq k (by omega) h.symm), ih (by omega)]
theorem addP_at (C : Nat → Int) (t : Int) (n i : Nat) : ∀ k, addP C t n k i = if i < k then C i + t * (expX n i : Int) else C i := by
  intro k
  induction k with
  | zero => simp [addP]
  | succ k ih =>
    simp only [addP]
    by_cases hik : i = k
    · subst hik
      rw [if_pos rfl, ih, if_neg (by omega), if_pos (by omega)]
    · rw [if_neg hik, ih]
      by_cases h2 : i < k
      · rw [if_pos h2, if_pos (by omega)]
      · rw [if_neg h2, if_neg (by omega)]
theorem facS_at (C : Nat → Int) (t : Int) (i : Nat) (hi : i < 6) : ∀ n, facS C t n (pr i) = C (pr i) + t * (fX n i : Int)
  | 0 => by simp [facS, fX]
  | 1 => by simp [facS, fX]
  | m + 2 => by
    simp only [facS, fX]
    rw [addS_at _ _ _ i hi 6 (Nat.le_refl _), if_pos hi, facS_at C t i hi (m + 1), Int.natCast_add, Int.mul_add]
    omega
theorem facS_no (C : Nat → Int) (t : Int) (q : Nat) (hq : ∀ i, i < 6 → pr i ≠ q) : ∀ n, facS C t n q = C q
  | 0 => rfl
  | 1 => rfl
  | m + 2 => by
    simp only [facS]
    rw [addS_no _ _ _ q hq 6 (Nat.le_refl _), facS_no C t q hq (m + 1)]
theorem facP_at (C : Nat → Int) (t : Int) (i : Nat) (hi : i < 6) : ∀ n, facP C t n i = C i + t * (fX n i : Int)
  | 0 => by simp [facP, fX]
  | 1 => by simp [facP, fX]
  | m + 2 => by
    simp only [facP, fX]
    rw [addP_at, if_pos hi, facP_at C t i hi (m + 1), Int.natCast_add, Int.mul_add]
    omega
/-- The counts of a share by places. -/
def eJ (a x b y c : Int) (i : Nat) : Int :=
  (exT (c + 1).toNat i : Int) + fxT ((a + x) / 2).toNat i + fxT ((a - x) / 2).toNat i + fxT ((b + y) / 2).toNat i + fxT ((b - y) / 2).toNat i + fxT ((c + (x + y)) / 2).toNat i + fxT ((c - (x + y)) / 2).toNat i
    - fxT ((a + b + c + 2) / 2).toNat i - fxT ((a + b - c) / 2).toNat i - fxT ((c + a - b) / 2).toNat i - fxT ((c + b - a) / 2).toNat i
theorem cntJ_at {a x b y c : Int} (h : JAt a x b y c) (i : Nat) (hi : i < 6) : cntJ a x b y c (pr i) = eJ a x b y c i := by
  obtain ⟨a0, a1, b0, b1, x0, x1, xe, y0, y1, ye, c0, c1, c2, ce, z0, z1, ze⟩ := h
  simp only [cntJ, cntU, facL, facS_at _ _ i hi, rawU, rawD]
  rw [addS_at _ _ _ i hi 6 (Nat.le_refl _), if_pos hi, ex_eq (by omega) (by omega) hi]
  simp (decide := true) only [if_true, if_false]
  rw [fX_eq (by omega) hi, fX_eq (by omega) hi, fX_eq (by omega) hi, fX_eq (by omega) hi, fX_eq (by omega) hi, fX_eq (by omega) hi, fX_eq (by omega) hi, fX_eq (by omega) hi, fX_eq (by omega) hi, fX_eq (by omega) hi]
  unfold eJ
  omega
theorem cntJ_no (a x b y c : Int) (q : Nat) (hq : ∀ i, i < 6 → pr i ≠ q) : cntJ a x b y c q = 0 := by
  simp only [cntJ, cntU, facL, facS_no _ _ q hq]
  exact addS_no _ _ _ q hq 6 (Nat.le_refl _)
theorem expJ_at {a x b y c : Int} (h : JAt a x b y c) (i : Nat) (hi : i < 6) : expJ a x b y c i = eJ a x b y c i := by
  obtain ⟨a0, a1, b0, b1, x0, x1, xe, y0, y1, ye, c0, c1, c2, ce, z0, z1, ze⟩ := h
  simp only [expJ, expU, facPL, facP_at _ _ i hi, LU, LD, rawU, rawD]
  rw [addP_at, if_pos hi, ex_eq (by omega) (by omega) hi]
  simp (decide := true) only [if_true, if_false]
  rw [fX_eq (by omega) hi, fX_eq (by omega) hi, fX_eq (by omega) hi, fX_eq (by omega) hi, fX_eq (by omega) hi, fX_eq (by omega) hi, fX_eq (by omega) hi, fX_eq (by omega) hi, fX_eq (by omega) hi, fX_eq (by omega) hi]
  unfold eJ
  omega
theorem upP_congr {E F : Nat → Int} {k : Nat} (h : ∀ i, i < k → E i = F i) : upP E k = upP F k := by
  induction k with
  | zero => rfl
  | succ k ih =>
    simp only [upP]
    rw [ih (fun i hi => h i (by omega)), h k (by omega)]
/-- The model's product over all numbers is that over the primes. -/
theorem upQ_upP {C : Nat → Int} (hz : ∀ q, q < 14 → (∀ i, i < 6 → pr i ≠ q) → C q = 0) : upQ C 14 = upP (fun i => C (pr i)) 6 := by
  have z0 : C 0 = 0 := hz 0 (by omega) (by decide)
  have z1 : C 1 = 0 := hz 1 (by omega) (by decide)
  have z4 : C 4 = 0 := hz 4 (by omega) (by decide)
  have z6 : C 6 = 0 := hz 6 (by omega) (by decide)
  have z8 : C 8 = 0 := hz 8 (by omega) (by decide)
  have z9 : C 9 = 0 := hz 9 (by omega) (by decide)
  have z10 : C 10 = 0 := hz 10 (by omega) (by decide)
  have z12 : C 12 = 0 := hz 12 (by omega) (by decide)
  simp only [upQ, upP, pr, z0, z1, z4, z6, z8, z9, z10, z12, Int.toNat_zero, Nat.pow_zero, Nat.mul_one]
theorem upQ_mono {C : Nat → Int} (hz : C 0 = 0) {j k : Nat} (h : j ≤ k) : upQ C j ≤ upQ C k := by
  induction k with
  | zero => rw [Nat.le_zero.1 h]; exact Nat.le_refl _
  | succ k ih =>
    by_cases hj : j ≤ k
    · refine Nat.le_trans (ih hj) ?_
      refine Nat.le_mul_of_pos_right _ ?_
      by_cases hk : k = 0
      · subst hk; rw [hz]; exact Nat.one_pos
      · exact Nat.pow_pos (by omega)
    · rw [show j = k + 1 by omega]; exact Nat.le_refl _
end Go.Proofs.YtffhnkhjfggooabDoor
