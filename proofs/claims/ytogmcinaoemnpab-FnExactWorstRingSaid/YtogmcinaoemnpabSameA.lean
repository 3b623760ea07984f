
/- A number and itself: what '==' and '!=' say of it. -/
import Derived.Test.YtogmcinaoemnpabFlWiden
import Derived.Test.YtogmcinaoemnpabChecked
namespace Go.Proofs.Ytogmcinaoemnpab
open Go Go.RowKit

theorem order_neq_self (k : FloatKind) (x : Nat) : (k.format.order x x != some .eq) = isNaN k x := fcmp_neq_self k x
theorem order_eql_self (k : FloatKind) (x : Nat) : (k.format.order x x == some .eq) = !isNaN k x := fcmp_eql_self k x
theorem isNaN_of_canon {k : FloatKind} {a b : Nat} (h : canon k a = canon k b) : isNaN k a = isNaN k b := by rw [← isNaN_canon k a, h, isNaN_canon]
end Go.Proofs.Ytogmcinaoemnpab
