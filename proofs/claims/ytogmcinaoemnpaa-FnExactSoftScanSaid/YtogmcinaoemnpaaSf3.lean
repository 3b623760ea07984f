
/- The factors of softness, reckoned: for lengths from 45 to 54. -/
import Derived.Test.YtogmcinaoemnpaaSft
namespace Go.Proofs.Ytogmcinaoemnpaa
set_option linter.all false
open Go Go.RowKit

set_option maxRecDepth 100000
theorem sfRow_45 : sfRow 45 = true := by decide +kernel
theorem sfRow_46 : sfRow 46 = true := by decide +kernel
theorem sfRow_47 : sfRow 47 = true := by decide +kernel
theorem sfRow_48 : sfRow 48 = true := by decide +kernel
theorem sfRow_49 : sfRow 49 = true := by decide +kernel
theorem sfRow_50 : sfRow 50 = true := by decide +kernel
theorem sfRow_51 : sfRow 51 = true := by decide +kernel
theorem sfRow_52 : sfRow 52 = true := by decide +kernel
theorem sfRow_53 : sfRow 53 = true := by decide +kernel
theorem sfRow_54 : sfRow 54 = true := by decide +kernel
end Go.Proofs.Ytogmcinaoemnpaa
