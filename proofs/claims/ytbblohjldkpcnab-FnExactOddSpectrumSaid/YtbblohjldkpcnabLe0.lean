/- A list less another one, number by number, as the program makes it. -/
import Derived.Test.YtbblohjldkpcnabArr
import Derived.Test.YtbblohjldkpcnabQ5
namespace Go.Proofs.Ytbblohjldkpcnab
open Go Go.ChangeShapes Go.WideShapes Go.ChangeAt Go.RowKit

def lesR (X Y : Nat → Nat) (j : Nat) : Nat := fbin .sub .f32 (X j) (Y j)
/-- A list of the call's own. -/
def OwnRet (R : Nat → Nat) (n : Nat) (w : World) (e : Ending) (w' : World) : Prop := ∃ v X, e = .returned v ∧ w'.ownsRow w.heap.size 43 1 v n (rowOf X n) ∧ LikeP X R n ∧ Below w.heap.size w w'
end Go.Proofs.Ytbblohjldkpcnab
