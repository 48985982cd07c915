/- The reference's Whole. -/
import Derived.Test.YtllhejjcmfiebaaDoorS11
set_option linter.unusedVariables false
set_option linter.unusedSimpArgs false
set_option linter.unnecessarySimpa false
namespace Go.Proofs.YtllhejjcmfiebaaDoor
open Go.RowKit Go.Shelf
end Go.Proofs.YtllhejjcmfiebaaDoor
