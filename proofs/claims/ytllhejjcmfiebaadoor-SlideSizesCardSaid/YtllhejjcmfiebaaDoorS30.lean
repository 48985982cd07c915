/- Two slices of numbers in an array that come in, opened. -/
import Derived.Test.YtllhejjcmfiebaaDoorS28
import Derived.WideShapes
import Derived.Deep.Matrix
import Derived.ChangeSlices
set_option linter.unusedVariables false
set_option linter.unusedSimpArgs false
set_option linter.unnecessarySimpa false
namespace Go.Proofs.YtllhejjcmfiebaaDoor
open Go.RowKit Go.Shelf Go.Deep Go.ChangeShapes

end Go.Proofs.YtllhejjcmfiebaaDoor
