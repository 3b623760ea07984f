
/- Two steps, joined: what it comes to. -/
import Derived.Test.YtbblohjldkpcnabVal
import Derived.Test.YtbblohjldkpcnabArr
import Derived.Test.YtbblohjldkpcnabGeA
namespace Go.Proofs.Ytbblohjldkpcnab
open Go Go.ChangeShapes Go.WideShapes Go.ChangeAt Go.RowKit
set_option linter.all false

/-- What the edges of the second are moved by. -/
def jnS (X : Nat → Nat) (n g : Nat) (X' : Nat → Nat) : Nat := fbin .sub .f32 (fbin .add .f32 (X (n - 1)) g) (X' 0)
def jnE (X : Nat → Nat) (n : Nat) (X' : Nat → Nat) (s i : Nat) : Nat := if i < n then X i else fbin .add .f32 (X' (i - n)) s
def jnH (Y : Nat → Nat) (m : Nat) (Y' : Nat → Nat) (i : Nat) : Nat := if i < m then Y i else Y' (i - m + 1)
theorem asc_congr {X Z : Nat → Nat} {n : Nat} (h : ∀ i, i < n → Z i = X i) : ascL Z n = ascL X n := by
  unfold ascL
  rw [Bool.eq_iff_iff, List.all_eq_true, List.all_eq_true]
  constructor
  · intro a j hj
    have := List.mem_range.1 hj
    rw [← h j (by omega), ← h (j + 1) (by omega)]
    exact a j hj
  · intro a j hj
    have := List.mem_range.1 hj
    rw [h j (by omega), h (j + 1) (by omega)]
    exact a j hj
theorem likeP_eq {X R : Nat → Nat} {n : Nat} (h : LikeP X R n) (hf : finL R n = true) : ∀ i, i < n → X i = R i := fun i hi => by
  obtain ⟨s, e⟩ := h i hi
  rw [e, pick_num (num_fin (finL_at hf i hi))]
theorem ok_like {X R Y : Nat → Nat} {n m : Nat} (h : LikeP X R n) : stepsOk X n Y m = stepsOk R n Y m := by
  cases hf : finL R n
  · rw [ok_x hf, ok_x (by rw [finL_like h.like, hf])]
  · have e := likeP_eq h hf
    unfold stepsOk
    rw [asc_congr e, finL_like h.like]
theorem ok_fin {X Y : Nat → Nat} {n m : Nat} (h : stepsOk X n Y m = true) : finL X n = true ∧ finL Y m = true ∧ m = n + 1 ∧ n < 12 := by
  simp only [stepsOk, Bool.and_eq_true, decide_eq_true_eq] at h
  exact ⟨h.1.1.2, h.1.2, h.1.1.1.2, h.1.1.1.1⟩
end Go.Proofs.Ytbblohjldkpcnab
