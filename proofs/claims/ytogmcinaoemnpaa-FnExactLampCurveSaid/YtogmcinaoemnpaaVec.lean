
/- Whether all numbers of a vector are finite, and a vector told if they are: as the program of chapter 4 does it. -/
import Derived.Test.YtogmcinaoemnpaaFinL
import Derived.Test.YtogmcinaoemnpaaOut
namespace Go.Proofs.Ytogmcinaoemnpaa
open Go Go.ChangeShapes Go.WideShapes Go.ChangeAt Go.RowKit

end Go.Proofs.Ytogmcinaoemnpaa
