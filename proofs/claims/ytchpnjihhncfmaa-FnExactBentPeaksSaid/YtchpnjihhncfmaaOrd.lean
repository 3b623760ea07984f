/- A list of integers, read by place. -/
import Derived.Test.YtchpnjihhncfmaaInt
namespace Go.Proofs.Ytchpnjihhncfmaa
open Go Go.ChangeShapes Go.WideShapes Go.ChangeAt Go.RowKit

def ordR (L : List Int) (j : Nat) : Int := L.getD j 0
theorem ordR_push (L : List Int) (x : Int) : rowI (fun j => if j = L.length then x else ordR L j) (L.length + 1) = rowI (ordR (L ++ [x])) (L ++ [x]).length := by
  rw [show (L ++ [x]).length = L.length + 1 by simp]
  refine rowI_congr fun j hj => ?_
  unfold ordR
  by_cases e : j = L.length
  · subst e; simp
  · rw [if_neg e, List.getD_eq_getElem?_getD, List.getD_eq_getElem?_getD, List.getElem?_append_left (by omega)]
end Go.Proofs.Ytchpnjihhncfmaa
