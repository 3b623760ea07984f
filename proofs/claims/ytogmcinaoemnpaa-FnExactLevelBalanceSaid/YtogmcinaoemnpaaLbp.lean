
/- Levels in balance: the rows that are solved, and what is told of them. -/
import Derived.Test.YtogmcinaoemnpaaMsv
import Derived.Test.YtogmcinaoemnpaaMsv
import Derived.Test.YtogmcinaoemnpaaLvd
namespace Go.Proofs.Ytogmcinaoemnpaa
set_option linter.all false
open Go Go.ChangeShapes Go.WideShapes Go.ChangeAt Go.RowKit

/-- The numbers of the rows and, as column n, of their right sides. -/
def lbM (n : Nat) (A : Nat → Nat) : Nat → Nat → Nat := fun i j => if i = n - 1 then 1065353216 else if j = n then 0 else if j = i then fbin .sub .f32 0 (lvO n A i) else lvI n A i j
def lbR (n : Nat) (A : Nat → Nat) : Nat → Nat := bkW (runM szF n (lbM n A) n).1 n n
def lbG (n : Nat) (A : Nat → Nat) : Bool := (runM szF n (lbM n A) n).2 && finL (lbR n A) n
theorem lbM_words {n : Nat} {A : Nat → Nat} (hA : ∀ k, A k < 4294967296) : Wds (lbM n A) := by
  intro i j
  unfold lbM
  split
  · omega
  · split
    · omega
    · split
      · exact fbin_word _ _ _
      · exact hA _
/-- By the program's rule for the row to divide by it comes to the same. -/
theorem lbG_prog {n : Nat} {A : Nat → Nat} (hn : 1 ≤ n) (hA : ∀ k, A k < 4294967296) :
    ((runP szF n (lbM n A) n).2 && finL (bkW (runP szF n (lbM n A) n).1 n n) n) = lbG n A ∧ (lbG n A = true → bkW (runP szF n (lbM n A) n).1 n n = lbR n A) :=
  solve_same size_ok hn (lbM n A) (lbM_words hA)
theorem below_push {w w' : World} {B e z n : Nat} {v : Value} {xs : List Value} {o : Obj} (hown : w.ownsRow B e z v n xs) (hB : B ≤ w.heap.size) (h2 : (w.alloc o).grownBy w' v.ownBlock) : Below B w w' := by
  have hs : (w.alloc o).heap.size = w.heap.size + 1 := by simp
  exact ((Below.refl B w).alloc hB o).grown h2 (by omega) (fun k hk => (hown.lt k hk).1)
theorem self_pick {x : Nat} (hx : x < 4294967296) : ∃ s, x = pick .f32 x s := by
  cases hn : isNaN .f32 x
  · exact ⟨0, (pick_num hn 0).symm⟩
  · obtain ⟨t, ht⟩ := nan_word_f32 hn hx
    exact ⟨t, by rw [pick_nan hn]; exact ht⟩
theorem LikeM.next {k m : Nat} {V M : Nat → Nat → Nat} {X : Nat → Nat} (h : LikeM k m V M) (hX : ∀ j, j < m → ∃ s, X j = pick .f32 (M k j) s) : LikeM (k + 1) m (fun i => if i = k then X else V i) M := fun i hi j hj => by
  by_cases e : i = k
  · subst e
    obtain ⟨s, e⟩ := hX j hj
    exact ⟨s, by show (if i = i then X else V i) j = _; rw [if_pos rfl]; exact e⟩
  · obtain ⟨s, e'⟩ := h i (by omega) j hj
    exact ⟨s, by show (if i = k then X else V i) j = _; rw [if_neg e]; exact e'⟩
theorem lb_row {N k : Nat} {A : Nat → Nat} (hA : ∀ k, A k < 4294967296) (hk : k + 1 < N) (s : Nat) : ∀ j, j < N + 1 → ∃ t, (if j = N then 0 else if j = k then pick .f32 (fbin .sub .f32 0 (lvO N A k)) s else lvI N A k j) = pick .f32 (lbM N A k j) t := by
  intro j _
  unfold lbM
  rw [if_neg (show ¬ k = N - 1 by omega)]
  by_cases e1 : j = N
  · rw [if_pos e1, if_pos e1]; exact ⟨0, by rw [pick_nul]⟩
  · rw [if_neg e1, if_neg e1]
    by_cases e2 : j = k
    · rw [if_pos e2, if_pos e2]; exact ⟨s, rfl⟩
    · rw [if_neg e2, if_neg e2]; exact self_pick (hA _)
theorem lb_last {N : Nat} {A : Nat → Nat} : ∀ j, j < N + 1 → ∃ t, (if j < N + 1 then 1065353216 else 0) = pick .f32 (lbM N A (N - 1) j) t := by
  intro j hj
  unfold lbM
  rw [if_pos rfl, if_pos hj]
  exact ⟨0, (pick_num (by decide +kernel) 0).symm⟩
theorem lb_one {N k j : Nat} {A : Nat → Nat} (hk : k = N - 1) : ∃ t, (1065353216 : Nat) = pick .f32 (lbM N A k j) t := by
  unfold lbM
  rw [if_pos hk]
  exact ⟨0, (pick_num (by decide +kernel) 0).symm⟩
theorem lb_diag {N k j : Nat} {A : Nat → Nat} (hk : ¬ k = N - 1) (hj : j = k) (hN : j < N) (s : Nat) : ∃ t, pick .f32 (fbin .sub .f32 0 (lvO N A k)) s = pick .f32 (lbM N A k j) t := by
  unfold lbM
  rw [if_neg hk, if_neg (by omega), if_pos hj]
  exact ⟨s, rfl⟩
theorem lb_off {N k j p : Nat} {A : Nat → Nat} (hA : ∀ k, A k < 4294967296) (hk : ¬ k = N - 1) (hj : ¬ j = k) (hN : j < N) (hp : p = j * N + k) : ∃ t, A p = pick .f32 (lbM N A k j) t := by
  unfold lbM
  rw [if_neg hk, if_neg (by omega), if_neg hj, hp]
  exact self_pick (hA _)
theorem lb_sys {N : Nat} {A : Nat → Nat} {V : Nat → Nat → Nat} (h : LikeM N N V (lbM N A)) : LikeM N (N + 1) (fun i j => if j < N then V i j else if i = N - 1 then 1065353216 else 0) (lbM N A) := fun i hi j hj => by
  by_cases e : j < N
  · obtain ⟨s, e'⟩ := h i hi j e
    exact ⟨s, by show (if j < N then V i j else _) = _; rw [if_pos e]; exact e'⟩
  · have e2 : j = N := by omega
    subst e2
    by_cases e3 : i = j - 1
    · obtain ⟨t, ht⟩ := lb_one (A := A) (j := j) e3
      exact ⟨t, by show (if j < j then V i j else if i = j - 1 then 1065353216 else 0) = _; rw [if_neg e, if_pos e3]; exact ht⟩
    · refine ⟨0, ?_⟩
      show (if j < j then V i j else if i = j - 1 then 1065353216 else 0) = _
      rw [if_neg e, if_neg e3]
      unfold lbM
      rw [if_neg e3, if_pos rfl, pick_nul]
/-- A row so far. -/
theorem row_next {c u : Nat} {Y : Nat → Nat} {M : Nat → Nat} (h : ∀ j, j < c → ∃ t, Y j = pick .f32 (M j) t) (hu : ∃ t, u = pick .f32 (M c) t) : ∀ j, j < c + 1 → ∃ t, (fun j => if j = c then u else Y j) j = pick .f32 (M j) t := by
  intro j hj
  by_cases e : j = c
  · subst e
    obtain ⟨t, ht⟩ := hu
    exact ⟨t, by show (if j = j then u else Y j) = _; rw [if_pos rfl]; exact ht⟩
  · obtain ⟨t, ht⟩ := h j (by omega)
    exact ⟨t, by show (if j = c then u else Y j) = _; rw [if_neg e]; exact ht⟩
/-- A solution that is told if it went well and all of it is finite. -/
def OutLb (R : Nat → Nat) (n : Nat) (ok : Bool) : Nat := if ok = true then n else 0
end Go.Proofs.Ytogmcinaoemnpaa
