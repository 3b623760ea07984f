
/- Steps that grow as the ones before tell: what is done in one, and a row that is copied. -/
import Derived.Test.YtogmcinaoemnpaaVec
import Derived.Test.YtogmcinaoemnpaaLev
import Derived.Test.YtogmcinaoemnpaaNu5
import Derived.Test.YtogmcinaoemnpaaPushS
import Derived.Test.YtogmcinaoemnpaaIn
import Derived.Test.YtogmcinaoemnpaaPush0
import Derived.WalkMore
import Derived.ScopeJumps
import Derived.Deep.QuietTactic
import Derived.Lib.SliceRun
namespace Go.Proofs.Ytogmcinaoemnpaa
open Go Go.ChangeShapes Go.WideShapes Go.ChangeAt Go.RowKit

def stepR (G : (Nat → Nat) → Nat → Nat) (h : Nat) (X : Nat → Nat) : Nat → Nat → Nat
  | 0 => X
  | t + 1 => fun j => fbin .add .f32 (stepR G h X t j) (fbin .mul .f32 h (G (stepR G h X t) j))
/-- A new row, each number of which is told, or, where it is a not-a-number, any. -/
def GrowRet (R : Nat → Nat) (n : Nat) (w : World) (e : Ending) (w' : World) : Prop :=
  ∃ g Y, e = .returned (.slice (some ⟨g, 0, none⟩) n n) ∧ w'.ownsRow w.heap.size 32 1 (.slice (some ⟨g, 0, none⟩) n n) n (rowOf Y n) ∧ LikeP Y R n ∧ Below w.heap.size w w'
theorem like_self {X : Nat → Nat} {n : Nat} (h : finL X n = true) : LikeP X X n := fun j hj => ⟨0, by
  have := finL_at h j hj
  rw [pick_num]
  unfold isFin at this
  unfold isNaN
  cases h1 : (FloatKind.f32.decode (X j)).isNaN
  · rfl
  · rw [h1] at this; cases this⟩
theorem Rd.alloc {w : World} {xa : Option Addr} {n : Nat} {X : Nat → Nat} (h : Rd w xa n X) (o : Obj) : Rd (w.alloc o) xa n X := h.below ((Below.refl _ _).alloc (Nat.le_refl _) o)
/-- A copy of a row that has a number. -/
def CloneRet (X : Nat → Nat) (n : Nat) (w : World) (e : Ending) (w' : World) : Prop :=
  ∃ g cap, e = .returned (.slice (some ⟨g, 0, none⟩) n cap) ∧ w'.ownsRow w.heap.size 32 1 (.slice (some ⟨g, 0, none⟩) n cap) n (rowOf X n) ∧ Below w.heap.size w w'
theorem made2 (w1 : World) {B g : Nat} (hg : g = w1.heap.size) (hB : B ≤ w1.heap.size) (x y : Nat) :
    (w1.alloc (.cells #[.float .f32 x, .float .f32 y] 32)).ownsRow B 32 1 (.slice (some ⟨g, 0, none⟩) 2 2) 2 (rowOf (duo x y) 2) := by
  subst hg
  exact ⟨rfl, .inr ⟨w1.heap.size, 2, #[.float .f32 x, .float .f32 y], rfl, hB, heap_alloc_new w1 _, Nat.le_refl _, by decide, rfl, rfl⟩⟩
def tri (x y z : Nat) (i : Nat) : Nat := if i = 0 then x else if i = 1 then y else z
theorem made3 (w1 : World) {B g : Nat} (hg : g = w1.heap.size) (hB : B ≤ w1.heap.size) (x y z : Nat) :
    (w1.alloc (.cells #[.float .f32 x, .float .f32 y, .float .f32 z] 32)).ownsRow B 32 1 (.slice (some ⟨g, 0, none⟩) 3 3) 3 (rowOf (tri x y z) 3) := by
  subst hg
  exact ⟨rfl, .inr ⟨w1.heap.size, 3, #[.float .f32 x, .float .f32 y, .float .f32 z], rfl, hB, heap_alloc_new w1 _, Nat.le_refl _, by decide, rfl, rfl⟩⟩
theorem like2 {R : Nat → Nat} {A B s t : Nat} (h0 : R 0 = A) (h1 : R 1 = B) : LikeP (duo (pick .f32 A s) (pick .f32 B t)) R 2 := fun j hj => by
  rcases (by omega : j = 0 ∨ j = 1) with rfl | rfl
  · exact ⟨s, by rw [h0]; rfl⟩
  · exact ⟨t, by rw [h1]; rfl⟩
theorem like3 {R : Nat → Nat} {A B C s t u : Nat} (h0 : R 0 = A) (h1 : R 1 = B) (h2 : R 2 = C) : LikeP (tri (pick .f32 A s) (pick .f32 B t) (pick .f32 C u)) R 3 := fun j hj => by
  rcases (by omega : j = 0 ∨ j = 1 ∨ j = 2) with rfl | rfl | rfl
  · exact ⟨s, by rw [h0]; rfl⟩
  · exact ⟨t, by rw [h1]; rfl⟩
  · exact ⟨u, by rw [h2]; rfl⟩
/-- A loop by 'goto': what holds at each jump; the first pass may go on with the others. -/
theorem wp_scope_rest {P : Program} {Q : Exit → Act → World → Prop} {a : Act} {w : World} {c rest : Code} (l : Nat) (J : Act → World → Prop) (μ : Act → World → Nat) (hf : findLabel c l = some (Code.skip.seq rest))
    (pass : ∀ a w, J a w → rest.wp P (Exit.jump l (fun a' w' => J a' w' ∧ μ a' w' < μ a w) Q) a w)
    (first : (∀ a w, J a w → rest.wp P (Exit.jump l J Q) a w) → c.wp P (Exit.jump l J Q) a w) : (Code.scope c).wp P Q a w :=
  wp_scope_jumps l J μ hf (first fun a w h => Code.wp_mono (fun e a' w' he => by
    unfold Exit.jump at he ⊢
    cases e <;> first | exact he | (split at he <;> simp_all)) (pass a w h)) fun a w h => wp_seq (wp_skip (pass a w h))
theorem step_if {S S' : Nat → Nat} {k n : Nat} : ∀ j, j < n → (fun j => if j = k then S' k else (fun j => if j < k then S' j else S j) j) j = (fun j => if j < k + 1 then S' j else S j) j := fun j _ => by
  by_cases e : j = k
  · subst e; simp
  · by_cases e2 : j < k
    · simp [e, e2, show j < k + 1 by omega]
    · simp [e, e2, show ¬ j < k + 1 by omega]
end Go.Proofs.Ytogmcinaoemnpaa
