
/- Lists that are told if all of it is finite. -/
import Derived.Test.YtogmcinaoemnpabPush
namespace Go.Proofs.Ytogmcinaoemnpab
open Go Go.ChangeShapes Go.WideShapes Go.ChangeAt Go.RowKit

def FltRetL (R : Nat) (w : World) (e : Ending) (w' : World) : Prop := ∃ s m, e = .returned (.float .f32 (pick .f32 R s)) ∧ w' = w.drewN m
/-- What the levels are, and whether there are any. -/
def LevRet (R : Nat → Nat) (c : Nat) (w : World) (e : Ending) (w' : World) : Prop := OutRet R (if finL R c = true then c else 0) (finL R c) w e w'
theorem levRet_yes {R X : Nat → Nat} {c : Nat} {v : Value} {w w' : World} {m : Nat} (hf : finL X c = true) (hL : Like X R c) (hown : w'.ownsRow w.heap.size 36 1 v c (rowOf X c)) (hb : Below w.heap.size w w') :
    LevRet R c w (.returned (.tuple #[v, .bool true])) (w'.drewN m) := by
  rw [finL_like hL] at hf
  unfold LevRet
  rw [hf]
  exact ⟨v, X, rfl, hown, hL, Below.drewN hb m⟩
theorem levRet_no {R X : Nat → Nat} {c : Nat} {w w' : World} {m : Nat} (hf : finL X c = false) (hL : Like X R c) (hb : Below w.heap.size w w') : LevRet R c w (.returned (.tuple #[.slice none 0 0, .bool false])) (w'.drewN m) := by
  rw [finL_like hL] at hf
  unfold LevRet
  rw [hf]
  exact OutRet.no (Below.drewN hb m)
theorem levRet_fail {R : Nat → Nat} {c : Nat} {w w' : World} (h : finL R c = false) (hb : Below w.heap.size w w') : LevRet R c w (.returned (.tuple #[.slice none 0 0, .bool false])) w' := by
  unfold LevRet
  rw [h]
  exact OutRet.no hb
/-- What a callee tells in a world that has grown. -/
theorem outRet_grown {R : Nat → Nat} {n : Nat} {ok : Bool} {w w1 w' : World} {e : Ending} (hb : Below w.heap.size w w1) (h : OutRet R n ok w1 e w') : OutRet R n ok w e w' := by
  obtain ⟨v, X, he, hown, hL, hb'⟩ := h
  refine ⟨v, X, he, ⟨hown.1, ?_⟩, hL, hb.trans (hb'.mono hb.size)⟩
  rcases hown.2 with h2 | ⟨g, cap, cur, h1, h2, h3⟩
  · exact .inl h2
  · exact .inr ⟨g, cap, cur, h1, Nat.le_trans hb.size h2, h3⟩
end Go.Proofs.Ytogmcinaoemnpab
