
/- The factors of softness, reckoned: for lengths from 55 to 64. -/
import Derived.Test.YtogmcinaoemnpaaSft
namespace Go.Proofs.Ytogmcinaoemnpaa
set_option linter.all false
open Go Go.RowKit

set_option maxRecDepth 100000
theorem sfRow_55 : sfRow 55 = true := by decide +kernel
theorem sfRow_56 : sfRow 56 = true := by decide +kernel
theorem sfRow_57 : sfRow 57 = true := by decide +kernel
theorem sfRow_58 : sfRow 58 = true := by decide +kernel
theorem sfRow_59 : sfRow 59 = true := by decide +kernel
theorem sfRow_60 : sfRow 60 = true := by decide +kernel
theorem sfRow_61 : sfRow 61 = true := by decide +kernel
theorem sfRow_62 : sfRow 62 = true := by decide +kernel
theorem sfRow_63 : sfRow 63 = true := by decide +kernel
theorem sfRow_64 : sfRow 64 = true := by decide +kernel
end Go.Proofs.Ytogmcinaoemnpaa
