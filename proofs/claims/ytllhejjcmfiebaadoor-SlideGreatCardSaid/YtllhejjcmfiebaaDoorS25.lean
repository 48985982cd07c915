/- The program's IsWhole. -/
import Derived.Test.YtllhejjcmfiebaaDoorS24
import Derived.Test.YtllhejjcmfiebaaDoorS21
import Derived.RangeFuncCalls
import Derived.Stop.RegionWithIn
set_option linter.unusedVariables false
set_option linter.unusedSimpArgs false
set_option linter.unnecessarySimpa false
namespace Go.Proofs.YtllhejjcmfiebaaDoor
open Go.RowKit Go.Shelf
attribute [local go_sem] Oper.semAt_some
end Go.Proofs.YtllhejjcmfiebaaDoor
