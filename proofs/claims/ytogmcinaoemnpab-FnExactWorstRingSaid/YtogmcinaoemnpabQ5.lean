
/- A list told if all of it is finite, as the program tells it. -/
import Derived.Test.YtogmcinaoemnpabLev
namespace Go.Proofs.Ytogmcinaoemnpab
open Go Go.ChangeShapes Go.WideShapes Go.ChangeAt Go.RowKit

/-- A list that is told if all of it is finite. -/
def ListRet (X : Nat → Nat) (n : Nat) (v : Value) (w : World) (e : Ending) (w' : World) : Prop := e = .returned (.tuple #[if finL X n = true then v else .slice none 0 0, .bool (finL X n)]) ∧ ∃ m, w' = w.drewN m
theorem onlyFinite_any (v : Value) (B n : Nat) (X : Nat → Nat) (w : World) (hown : w.ownsRow B 36 1 v n (rowOf X n)) (hn : n ≤ 1048576) :
    Calls Try.prog 61 #[v] w (ListRet X n v w) := by
  obtain ⟨xa, cap, rfl, _, _, hX⟩ := rd_of_own hown
  clear hown
  cases hf : finL X n
  · go_enter Try.func61, Try.ntmps61
    go_wp2_with (go_at_call 66; refine (allFinite_any _ _ _ X _ hX hn).mono ?_; rintro e w' ⟨rfl, q, rfl⟩)
    go_ret2
    exact ⟨by rw [hf]; rfl, _, rfl⟩
  · go_enter Try.func61, Try.ntmps61
    go_wp2_with (go_at_call 66; refine (allFinite_any _ _ _ X _ hX hn).mono ?_; rintro e w' ⟨rfl, q, rfl⟩)
    go_ret2
    exact ⟨by rw [hf]; rfl, _, rfl⟩
end Go.Proofs.Ytogmcinaoemnpab
