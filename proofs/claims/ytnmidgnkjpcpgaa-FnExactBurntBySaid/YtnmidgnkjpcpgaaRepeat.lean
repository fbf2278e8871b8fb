/- The contract of slices.Repeat of one number. -/
import Derived.Handy
import Derived.Test.YtnmidgnkjpcpgaaInts
import Derived.Test.YtnmidgnkjpcpgaaFns
import Derived.Laws.CopyOwn
import Derived.Deep.RegionLaw
namespace Go.Proofs.Ytnmidgnkjpcpgaa.reps
open Go.RowKit P2 words ints fns
set_option linter.unusedVariables false

end Go.Proofs.Ytnmidgnkjpcpgaa.reps
