/- awake's closed self-check, piece 10. -/
import Derived.Test.YtbkalcnblhhjlaaP8
import Derived.KernelRfl
import Derived.Test.YtbkalcnblhhjlaaProg
set_option linter.unusedVariables false
set_option linter.unusedSimpArgs false
set_option linter.unnecessarySimpa false
open Go Go.Ev Go.Proofs
namespace Go.Ev.Aw
set_option maxRecDepth 1000000
noncomputable def c122 : Code := partOf (bodyOf P 29) [1, 1, 1, 1, 0, 1, 0, 0, 1, 1, 0, 1, 0, 1, 0, 0, 1, 1, 0]
noncomputable def c123 : Code := partOf (bodyOf P 29) [1, 1, 1, 1, 0, 1, 0, 0, 1, 1, 0, 1, 0, 1, 0, 0, 1, 1, 1]
noncomputable def c124 : Code := partOf (bodyOf P 29) [1, 1, 1, 1, 0, 1, 0, 0, 1, 1, 0, 1, 0, 1, 0, 0]
noncomputable def c125 : Code := partOf (bodyOf P 29) [1, 1, 1, 1, 0, 1, 0, 0, 1, 1, 0, 1, 1]
noncomputable def c126 : Code := partOf (bodyOf P 29) [1, 1, 1, 1, 0, 1, 0, 0]
noncomputable def c127 : Code := partOf (bodyOf P 29) [1, 1, 1, 1, 1]
noncomputable def f128 : AFrame := ⟨29, 50, (.node (.node (.node (.node (.node (.node .nil (some (.val (.bool true))) .nil) none .nil) (some (.ptr 2162 0)) (.node (.node .nil (some (.val (.tuple #[]))) .nil) none .nil)) none (.node (.node (.node .nil (some
  (.val (.bool false))) .nil) none .nil) (some (.val (.int .i64 0))) (.node (.node .nil (some (.val (.bool false))) .nil) (some (.val (.bool true))) .nil))) none (.node (.node (.node (.node .nil (some (.val (.int .i64 0))) .nil) none .nil) (some
  (.val (.int .i32 98))) (.node (.node .nil (some (.val (.tuple #[]))) .nil) (some (.ptr 2163 0)) .nil)) (some (.ptr 1868 0)) (.node (.node (.node .nil (some (.val (.tuple #[]))) .nil) none .nil) none (.node .nil (some (.agg [(.val (.int .i64
  1)), (.val (.int .i64 0)), (.val (.int .i64 0)), (.val (.int .i64 0)), (.val (.int .i64 0)), (.val (.int .i64 0)), (.val (.int .i64 0)), (.val (.int .i64 0)), (.val (.int .i64 0)), (.val (.int .i64 0)), (.val (.int .i64 0)), (.val (.int .i64
  0)), (.val (.int .i64 0)), (.val (.int .i64 0)), (.val (.int .i64 0)), (.val (.int .i64 0)), (.val (.int .i64 0)), (.val (.int .i64 0)), (.val (.int .i64 0)), (.val (.int .i64 0)), (.val (.int .i64 0)), (.val (.int .i64 0)), (.val (.int .i64
  0)), (.val (.int .i64 0)), (.val (.int .i64 0)), (.val (.int .i64 0)), (.val (.int .i64 0)), (.val (.int .i64 0)), (.val (.int .i64 0)), (.val (.int .i64 0)), (.val (.int .i64 0)), (.val (.int .i64 0)), (.val (.int .i64 0)), (.val (.int .i64
  0)), (.val (.int .i64 0)), (.val (.int .i64 0)), (.val (.int .i64 0))])) .nil)))) none (.node (.node (.node (.node (.node .nil (some (.val (.int .i64 14))) .nil) none .nil) none (.node (.node .nil (some (.val (.tuple #[]))) .nil) none .nil))
  (some (.val (.bool false))) (.node (.node (.node .nil (some (.val (.bool false))) .nil) none .nil) none (.node (.node .nil (some (.val (.int .i64 15))) .nil) (some (.val (.int .i32 98))) .nil))) none (.node (.node (.node (.node .nil (some (.val
  (.int .i64 0))) .nil) none .nil) (some (.val (.int .i64 14))) (.node (.node .nil (some (.val (.tuple #[]))) .nil) (some (.tuple [(.val (.bool true)), (.val (.int .i64 0)), (.val (.int .i32 98))])) .nil)) (some (.map 1940)) (.node (.node (.node
  .nil (some (.val (.tuple #[]))) .nil) none .nil) none (.node .nil (some (.val (.int .i64 15))) .nil))))), [.code c122, .code c123, .inLoop c124, .inBlock 2, .code c125, .inBlock 1, .inLoop c126, .inBlock 0, .code c127], [], .run, .normal, none⟩
noncomputable def b129 : AB := .cells [(.val (.int .i64 1)), (.val (.int .i64 0)), (.val (.int .i64 0)), (.val (.int .i64 0)), (.val (.int .i64 0)), (.val (.int .i64 0)), (.val (.int .i64 0)), (.val (.int .i64 0)), (.val (.int .i64 0)), (.val (.int .i64 0)),
  (.val (.int .i64 0)), (.val (.int .i64 0)), (.val (.int .i64 0)), (.val (.int .i64 0)), (.val (.int .i64 0)), (.val (.int .i64 0)), (.val (.int .i64 0)), (.val (.int .i64 0)), (.val (.int .i64 0)), (.val (.int .i64 0)), (.val (.int .i64 0)),
  (.val (.int .i64 0)), (.val (.int .i64 0)), (.val (.int .i64 0)), (.val (.int .i64 0)), (.val (.int .i64 0)), (.val (.int .i64 0)), (.val (.int .i64 0)), (.val (.int .i64 0)), (.val (.int .i64 0)), (.val (.int .i64 0)), (.val (.int .i64 0)),
  (.val (.int .i64 0)), (.val (.int .i64 0)), (.val (.int .i64 0)), (.val (.int .i64 0)), (.val (.int .i64 0))] 83 false false
noncomputable def m10 : M := ⟨f128, [f101, f104], ⟨(.node (.node (.node .nil none (.node (.node .nil none (.node .nil none (.node .nil none (.node (.node (.node (.node (.node .nil (some (.strIter ⟨#[98]⟩ 1)) .nil) none .nil) none .nil) none .nil) none .nil)))) none (.node
  (.node (.node .nil none (.node (.node .nil none (.node .nil none (.node .nil (some b89) .nil))) none .nil)) none .nil) none .nil))) (some b12) (.node .nil none (.node .nil none (.node (.node (.node (.node .nil none (.node .nil none (.node .nil
  (some b49) .nil))) none .nil) none .nil) none .nil)))) (some b11) (.node (.node .nil none (.node (.node .nil none (.node (.node (.node .nil none (.node .nil none (.node .nil none (.node .nil (some b96) .nil)))) none .nil) none .nil)) none (.node
  (.node (.node .nil none (.node (.node .nil none (.node .nil none (.node .nil (some b105) .nil))) none .nil)) none .nil) none .nil))) (some b15) (.node (.node (.node .nil none (.node .nil none (.node .nil none (.node (.node (.node (.node (.node
  .nil (some b129) .nil) none .nil) none .nil) none .nil) none .nil)))) none .nil) none (.node .nil none (.node .nil none (.node (.node .nil none (.node .nil none (.node .nil none (.node (.node .nil (some b71) .nil) none .nil)))) none .nil)))))),
  2164⟩⟩
theorem s10 : (iterA P 20000 400 m9).map (pruneM [4, 5, 6, 7, 9, 10, 11, 25, 26, 27, 28, 29, 30, 31, 32, 33, 34, 35, 36, 37, 38, 39, 40, 41, 42, 43, 44] [[4, 5, 14, 15], [0, 1, 2, 4, 5, 6, 7, 8, 10, 11, 47, 48]] [0, 1, 2, 909, 1502, 1867, 1868,
  1940, 2162, 2163]) = some m10 := by kernel_rfl
end Go.Ev.Aw
