
/- The factors of softness are at most 1. -/
import Derived.Test.YtogmcinaoemnpaaSf1
import Derived.Test.YtogmcinaoemnpaaSf2
import Derived.Test.YtogmcinaoemnpaaSf3
import Derived.Test.YtogmcinaoemnpaaSf4
namespace Go.Proofs.Ytogmcinaoemnpaa
set_option linter.all false
open Go Go.ChangeShapes Go.WideShapes Go.ChangeAt Go.RowKit

theorem sfRow_all : ∀ n, 2 ≤ n → n ≤ 64 → sfRow n = true
  | 2, _, _ => sfRow_2
  | 3, _, _ => sfRow_3
  | 4, _, _ => sfRow_4
  | 5, _, _ => sfRow_5
  | 6, _, _ => sfRow_6
  | 7, _, _ => sfRow_7
  | 8, _, _ => sfRow_8
  | 9, _, _ => sfRow_9
  | 10, _, _ => sfRow_10
  | 11, _, _ => sfRow_11
  | 12, _, _ => sfRow_12
  | 13, _, _ => sfRow_13
  | 14, _, _ => sfRow_14
  | 15, _, _ => sfRow_15
  | 16, _, _ => sfRow_16
  | 17, _, _ => sfRow_17
  | 18, _, _ => sfRow_18
  | 19, _, _ => sfRow_19
  | 20, _, _ => sfRow_20
  | 21, _, _ => sfRow_21
  | 22, _, _ => sfRow_22
  | 23, _, _ => sfRow_23
  | 24, _, _ => sfRow_24
  | 25, _, _ => sfRow_25
  | 26, _, _ => sfRow_26
  | 27, _, _ => sfRow_27
  | 28, _, _ => sfRow_28
  | 29, _, _ => sfRow_29
  | 30, _, _ => sfRow_30
  | 31, _, _ => sfRow_31
  | 32, _, _ => sfRow_32
  | 33, _, _ => sfRow_33
  | 34, _, _ => sfRow_34
  | 35, _, _ => sfRow_35
  | 36, _, _ => sfRow_36
  | 37, _, _ => sfRow_37
  | 38, _, _ => sfRow_38
  | 39, _, _ => sfRow_39
  | 40, _, _ => sfRow_40
  | 41, _, _ => sfRow_41
  | 42, _, _ => sfRow_42
  | 43, _, _ => sfRow_43
  | 44, _, _ => sfRow_44
  | 45, _, _ => sfRow_45
  | 46, _, _ => sfRow_46
  | 47, _, _ => sfRow_47
  | 48, _, _ => sfRow_48
  | 49, _, _ => sfRow_49
  | 50, _, _ => sfRow_50
  | 51, _, _ => sfRow_51
  | 52, _, _ => sfRow_52
  | 53, _, _ => sfRow_53
  | 54, _, _ => sfRow_54
  | 55, _, _ => sfRow_55
  | 56, _, _ => sfRow_56
  | 57, _, _ => sfRow_57
  | 58, _, _ => sfRow_58
  | 59, _, _ => sfRow_59
  | 60, _, _ => sfRow_60
  | 61, _, _ => sfRow_61
  | 62, _, _ => sfRow_62
  | 63, _, _ => sfRow_63
  | 64, _, _ => sfRow_64
  | 0, h, _ => absurd h (by omega)
  | 1, h, _ => absurd h (by omega)
  | n + 65, _, h => absurd h (by omega)
set_option maxRecDepth 100000 in
theorem sf_halves : ((List.range 33).all fun n => (List.range n).all fun i => sfT (2 * i) (2 * n) == sfT i n) = true := by decide +kernel
theorem sf_half {i n : Nat} (hn : n ≤ 32) (hi : i < n) : sfT (2 * i) (2 * n) = sfT i n := by
  have h := sf_halves
  rw [List.all_eq_true] at h
  have h1 := h n (List.mem_range.2 (by omega))
  rw [List.all_eq_true] at h1
  have h2 := h1 i (List.mem_range.2 hi)
  simpa using h2
theorem sf_one : leOne (sfL (sfT 0 1)) = true ∧ leOne (sfW (sfT 0 1)) = true := by decide +kernel
theorem sf_all : ∀ n i, 1 ≤ n → n ≤ 64 → i < n → leOne (sfL (sfT i n)) = true ∧ leOne (sfW (sfT i n)) = true := by
  intro n
  induction n using Nat.strongRecOn with
  | ind n ih =>
    intro i h1 h2 hi
    by_cases e : n % 2 = 0 ∧ i % 2 = 0
    · obtain ⟨m, hm⟩ : ∃ m, n = 2 * m := ⟨n / 2, by omega⟩
      obtain ⟨j, hj⟩ : ∃ j, i = 2 * j := ⟨i / 2, by omega⟩
      subst hm
      subst hj
      rw [sf_half (by omega) (by omega)]
      exact ih m (by omega) j (by omega) (by omega) (by omega)
    · by_cases h3 : n = 1
      · subst h3
        have : i = 0 := by omega
        subst this
        exact sf_one
      · have h := sfRow_all n (by omega) h2
        unfold sfRow at h
        rw [List.all_eq_true] at h
        have h4 := h i (List.mem_range.2 hi)
        have h5 : ((n % 2 == 0) && (i % 2 == 0)) = false := by
          cases c1 : n % 2 == 0 <;> cases c2 : i % 2 == 0 <;> first | rfl | (exfalso; apply e; simp at c1 c2; exact ⟨c1, c2⟩)
        rw [h5, Bool.false_or, Bool.and_eq_true] at h4
        exact h4
/-- The factor of a kind of softness. -/
def sfK (kind : Int) (t : Nat) : Nat := if kind = 0 then 1065353216 else if kind = 1 then sfL t else sfW t
def sfR (X : Nat → Nat) (n : Nat) (kind : Int) (i : Nat) : Nat := fbin .mul .f32 (X i) (sfK kind (sfT i n))
theorem sfK_le {n i : Nat} (kind : Int) (h1 : 1 ≤ n) (h2 : n ≤ 64) (hi : i < n) : leOne (sfK kind (sfT i n)) = true := by
  unfold sfK
  split
  · decide +kernel
  · split
    · exact (sf_all n i h1 h2 hi).1
    · exact (sf_all n i h1 h2 hi).2
theorem sfR_fin {X : Nat → Nat} {n : Nat} (kind : Int) (h1 : 1 ≤ n) (h2 : n ≤ 64) (hf : finL X n = true) : finL (sfR X n kind) n = true := finL_yes fun i hi => leOne_fin (finL_at hf i hi) (sfK_le kind h1 h2 hi)
end Go.Proofs.Ytogmcinaoemnpaa
