
/- The factors of softness, reckoned: for lengths from 33 to 44. -/
import Derived.Test.YtogmcinaoemnpaaSft
namespace Go.Proofs.Ytogmcinaoemnpaa
set_option linter.all false
open Go Go.RowKit

set_option maxRecDepth 100000
theorem sfRow_33 : sfRow 33 = true := by decide +kernel
theorem sfRow_34 : sfRow 34 = true := by decide +kernel
theorem sfRow_35 : sfRow 35 = true := by decide +kernel
theorem sfRow_36 : sfRow 36 = true := by decide +kernel
theorem sfRow_37 : sfRow 37 = true := by decide +kernel
theorem sfRow_38 : sfRow 38 = true := by decide +kernel
theorem sfRow_39 : sfRow 39 = true := by decide +kernel
theorem sfRow_40 : sfRow 40 = true := by decide +kernel
theorem sfRow_41 : sfRow 41 = true := by decide +kernel
theorem sfRow_42 : sfRow 42 = true := by decide +kernel
theorem sfRow_43 : sfRow 43 = true := by decide +kernel
theorem sfRow_44 : sfRow 44 = true := by decide +kernel
end Go.Proofs.Ytogmcinaoemnpaa
