
/- The factors of softness, reckoned: for lengths from 2 to 32. -/
import Derived.Test.YtogmcinaoemnpaaSft
namespace Go.Proofs.Ytogmcinaoemnpaa
set_option linter.all false
open Go Go.RowKit

set_option maxRecDepth 100000
theorem sfRow_2 : sfRow 2 = true := by decide +kernel
theorem sfRow_3 : sfRow 3 = true := by decide +kernel
theorem sfRow_4 : sfRow 4 = true := by decide +kernel
theorem sfRow_5 : sfRow 5 = true := by decide +kernel
theorem sfRow_6 : sfRow 6 = true := by decide +kernel
theorem sfRow_7 : sfRow 7 = true := by decide +kernel
theorem sfRow_8 : sfRow 8 = true := by decide +kernel
theorem sfRow_9 : sfRow 9 = true := by decide +kernel
theorem sfRow_10 : sfRow 10 = true := by decide +kernel
theorem sfRow_11 : sfRow 11 = true := by decide +kernel
theorem sfRow_12 : sfRow 12 = true := by decide +kernel
theorem sfRow_13 : sfRow 13 = true := by decide +kernel
theorem sfRow_14 : sfRow 14 = true := by decide +kernel
theorem sfRow_15 : sfRow 15 = true := by decide +kernel
theorem sfRow_16 : sfRow 16 = true := by decide +kernel
theorem sfRow_17 : sfRow 17 = true := by decide +kernel
theorem sfRow_18 : sfRow 18 = true := by decide +kernel
theorem sfRow_19 : sfRow 19 = true := by decide +kernel
theorem sfRow_20 : sfRow 20 = true := by decide +kernel
theorem sfRow_21 : sfRow 21 = true := by decide +kernel
theorem sfRow_22 : sfRow 22 = true := by decide +kernel
theorem sfRow_23 : sfRow 23 = true := by decide +kernel
theorem sfRow_24 : sfRow 24 = true := by decide +kernel
theorem sfRow_25 : sfRow 25 = true := by decide +kernel
theorem sfRow_26 : sfRow 26 = true := by decide +kernel
theorem sfRow_27 : sfRow 27 = true := by decide +kernel
theorem sfRow_28 : sfRow 28 = true := by decide +kernel
theorem sfRow_29 : sfRow 29 = true := by decide +kernel
theorem sfRow_30 : sfRow 30 = true := by decide +kernel
theorem sfRow_31 : sfRow 31 = true := by decide +kernel
theorem sfRow_32 : sfRow 32 = true := by decide +kernel
end Go.Proofs.Ytogmcinaoemnpaa
