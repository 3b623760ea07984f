
/- Steps that are not done: a row that is not finite, a step below zero, too many. -/
import Derived.Test.YtogmcinaoemnpaaStp
namespace Go.Proofs.Ytogmcinaoemnpaa
open Go Go.ChangeShapes Go.WideShapes Go.ChangeAt Go.RowKit

def NilRet (w : World) (e : Ending) (w' : World) : Prop := e = .returned (.tuple #[.slice none 0 0, .bool false]) ∧ Below w.heap.size w w'
theorem num_of_canon {b X : Nat} (hX : isNaN .f32 X = false) (h : canon .f32 b = canon .f32 X) : b = X := by
  have hb : isNaN .f32 b = false := by rw [← isNaN_canon .f32 b, h, isNaN_canon, hX]
  rwa [canon_num hb, canon_num hX] at h
theorem own_some2 {w : World} {B n : Nat} {v : Value} {xs : List Value} (h : w.ownsRow B 32 1 v n xs) (hn : 1 ≤ n) : ∃ g cap, v = .slice (some ⟨g, 0, none⟩) n cap := by
  rcases h.2 with ⟨_, h2⟩ | ⟨g, cap, cur, h1, _⟩
  · omega
  · exact ⟨g, cap, h1⟩
/-- A cell of a row whose numbers are told, where the number is finite. -/
theorem cell_fin {w : World} {B g cap n k : Nat} {X R : Nat → Nat} (h : w.ownsRow B 32 1 (.slice (some ⟨g, 0, none⟩) n cap) n (rowOf X n)) (hL : Like X R n) (hk : k < n) (hf : finL R n = true) : w.cell? ⟨g, k, none⟩ = some (.float .f32 (pick .f32 (R k) 0)) := by
  have h1 := num_fin (finL_at hf k hk)
  rw [pick_num h1, ← num_of_canon h1 (hL k hk)]
  exact own_cell h hk
end Go.Proofs.Ytogmcinaoemnpaa
