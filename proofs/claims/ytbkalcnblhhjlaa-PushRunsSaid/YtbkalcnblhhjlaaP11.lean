/- awake's closed self-check, piece 12. -/
import Derived.Test.YtbkalcnblhhjlaaP10
import Derived.KernelRfl
import Derived.Test.YtbkalcnblhhjlaaProg
set_option linter.unusedVariables false
set_option linter.unusedSimpArgs false
set_option linter.unnecessarySimpa false
open Go Go.Ev Go.Proofs
namespace Go.Ev.Aw
set_option maxRecDepth 1000000
noncomputable def f137 : AFrame := ⟨42, 32, (.node (.node (.node (.node (.node .nil (some (.val (.int .i64 0))) .nil) (some (.ptr 2166 0)) (.node .nil (some (.val (.int .u8 98))) .nil)) none (.node (.node .nil (some (.ptr 1868 0)) .nil) (some (.val (.int .i64
  27))) (.node .nil (some (.val (.int .i64 0))) .nil))) none (.node (.node (.node .nil (some (.agg [(.val (.int .i64 0)), (.val (.int .i64 0)), (.val (.int .i64 0)), (.val (.int .i64 0)), (.val (.int .i64 0)), (.val (.int .i64 0)), (.val (.int
  .i64 0)), (.val (.int .i64 0)), (.val (.int .i64 0)), (.val (.int .i64 0)), (.val (.int .i64 0)), (.val (.int .i64 0)), (.val (.int .i64 0)), (.val (.int .i64 0)), (.val (.int .i64 0)), (.val (.int .i64 0)), (.val (.int .i64 0)), (.val (.int
  .i64 0)), (.val (.int .i64 0)), (.val (.int .i64 0)), (.val (.int .i64 0)), (.val (.int .i64 0)), (.val (.int .i64 0)), (.val (.int .i64 0)), (.val (.int .i64 0)), (.val (.int .i64 0)), (.val (.int .i64 0)), (.val (.int .i64 0)), (.val (.int
  .i64 0)), (.val (.int .i64 0)), (.val (.int .i64 0)), (.val (.int .i64 0)), (.val (.int .i64 0)), (.val (.int .i64 0)), (.val (.int .i64 0)), (.val (.int .i64 0)), (.val (.int .i64 0))])) .nil) (some (.val (.int .i64 0))) (.node .nil (some
  (.agg [(.val (.int .i64 0)), (.val (.int .i64 0)), (.val (.int .i64 0)), (.val (.int .i64 0)), (.val (.int .i64 0)), (.val (.int .i64 0)), (.val (.int .i64 0)), (.val (.int .i64 0)), (.val (.int .i64 0)), (.val (.int .i64 0)), (.val (.int .i64
  0)), (.val (.int .i64 0)), (.val (.int .i64 0)), (.val (.int .i64 0)), (.val (.int .i64 0)), (.val (.int .i64 0)), (.val (.int .i64 0)), (.val (.int .i64 0)), (.val (.int .i64 0)), (.val (.int .i64 0)), (.val (.int .i64 0)), (.val (.int .i64
  0)), (.val (.int .i64 0)), (.val (.int .i64 0)), (.val (.int .i64 0)), (.val (.int .i64 0)), (.val (.int .i64 0)), (.val (.int .i64 0)), (.val (.int .i64 0)), (.val (.int .i64 0)), (.val (.int .i64 0)), (.val (.int .i64 0)), (.val (.int .i64
  0)), (.val (.int .i64 0)), (.val (.int .i64 0)), (.val (.int .i64 0)), (.val (.int .i64 0))])) .nil)) none (.node (.node .nil (some (.map 1867)) .nil) (some (.val (.int .i64 26))) (.node .nil (some (.agg [(.val (.int .i64 0)), (.val (.int .i64
  0)), (.val (.int .i64 0)), (.val (.int .i64 0)), (.val (.int .i64 0)), (.val (.int .i64 0)), (.val (.int .i64 0)), (.val (.int .i64 0)), (.val (.int .i64 0)), (.val (.int .i64 0)), (.val (.int .i64 0)), (.val (.int .i64 0)), (.val (.int .i64
  0)), (.val (.int .i64 0)), (.val (.int .i64 0)), (.val (.int .i64 0)), (.val (.int .i64 0)), (.val (.int .i64 0)), (.val (.int .i64 0)), (.val (.int .i64 0)), (.val (.int .i64 0)), (.val (.int .i64 0)), (.val (.int .i64 0)), (.val (.int .i64
  0)), (.val (.int .i64 0)), (.val (.int .i64 0)), (.val (.int .i64 0)), (.val (.int .i64 0)), (.val (.int .i64 0)), (.val (.int .i64 0)), (.val (.int .i64 0)), (.val (.int .i64 0)), (.val (.int .i64 0)), (.val (.int .i64 0)), (.val (.int .i64
  0)), (.val (.int .i64 0)), (.val (.int .i64 0))])) .nil)))) (some (.ptr 1868 0)) (.node (.node (.node (.node .nil (some (.val (.bool false))) .nil) (some (.val (.int .i64 26))) (.node .nil (some (.agg [(.val (.int .i64 0)), (.val (.int .u8
  98))])) .nil)) none (.node (.node .nil (some (.ptr 1868 1)) .nil) (some (.val (.bool true))) (.node .nil (some (.agg [(.val (.int .i64 0)), (.val (.int .i64 0)), (.val (.int .i64 0)), (.val (.int .i64 0)), (.val (.int .i64 0)), (.val (.int
  .i64 0)), (.val (.int .i64 0)), (.val (.int .i64 0)), (.val (.int .i64 0)), (.val (.int .i64 0)), (.val (.int .i64 0)), (.val (.int .i64 0)), (.val (.int .i64 0)), (.val (.int .i64 0)), (.val (.int .i64 0)), (.val (.int .i64 0)), (.val (.int
  .i64 0)), (.val (.int .i64 0)), (.val (.int .i64 0)), (.val (.int .i64 0)), (.val (.int .i64 0)), (.val (.int .i64 0)), (.val (.int .i64 0)), (.val (.int .i64 0)), (.val (.int .i64 0)), (.val (.int .i64 0)), (.val (.int .i64 0)), (.val (.int
  .i64 0)), (.val (.int .i64 0)), (.val (.int .i64 0)), (.val (.int .i64 0)), (.val (.int .i64 0)), (.val (.int .i64 0)), (.val (.int .i64 0)), (.val (.int .i64 0)), (.val (.int .i64 0)), (.val (.int .i64 0))])) .nil))) (some (.val (.int .u8
  98))) (.node (.node (.node .nil (some (.ptr 1868 0)) .nil) (some (.agg [(.val (.int .i64 1)), (.val (.int .i64 0)), (.val (.int .i64 0)), (.val (.int .i64 0)), (.val (.int .i64 0)), (.val (.int .i64 0)), (.val (.int .i64 0)), (.val (.int .i64
  0)), (.val (.int .i64 0)), (.val (.int .i64 0)), (.val (.int .i64 0)), (.val (.int .i64 0)), (.val (.int .i64 0)), (.val (.int .i64 0)), (.val (.int .i64 0)), (.val (.int .i64 0)), (.val (.int .i64 0)), (.val (.int .i64 0)), (.val (.int .i64
  0)), (.val (.int .i64 0)), (.val (.int .i64 0)), (.val (.int .i64 0)), (.val (.int .i64 0)), (.val (.int .i64 0)), (.val (.int .i64 0)), (.val (.int .i64 0)), (.val (.int .i64 0)), (.val (.int .i64 0)), (.val (.int .i64 0)), (.val (.int .i64
  0)), (.val (.int .i64 0)), (.val (.int .i64 0)), (.val (.int .i64 0)), (.val (.int .i64 0)), (.val (.int .i64 0)), (.val (.int .i64 0)), (.val (.int .i64 0))])) (.node .nil (some (.val (.int .i64 1))) .nil)) (some (.ptr 2165 0)) (.node (.node
  .nil (some (.val (.int .i64 0))) .nil) (some (.val (.int .i64 0))) (.node .nil (some (.val (.int .i64 27))) .nil))))), [.code c130, .inBlock 1, .code c131, .inLoop c132, .inBlock 0, .code c133], [], .run, .normal, none⟩
noncomputable def m12 : M := ⟨f137, [f135, f101, f104], ⟨(.node (.node (.node .nil none (.node (.node .nil none (.node .nil none (.node .nil none (.node (.node (.node (.node (.node .nil (some (.strIter ⟨#[98]⟩ 1)) .nil) none .nil) none .nil) none .nil) none .nil)))) none
  (.node (.node (.node .nil none (.node (.node .nil none (.node .nil none (.node .nil (some b89) .nil))) none .nil)) none .nil) none .nil))) (some b12) (.node .nil none (.node (.node .nil none (.node .nil none (.node .nil none (.node (.node (.node
  (.node (.node .nil (some b136) .nil) none .nil) none .nil) none .nil) none .nil)))) none (.node (.node (.node (.node .nil none (.node .nil none (.node .nil (some b49) .nil))) none .nil) none .nil) none .nil)))) (some b11) (.node (.node .nil
  none (.node (.node .nil none (.node (.node (.node .nil none (.node .nil none (.node .nil none (.node .nil (some b96) .nil)))) none .nil) none .nil)) none (.node (.node (.node .nil none (.node (.node .nil none (.node .nil none (.node .nil (some
  b105) .nil))) none .nil)) none .nil) none .nil))) (some b15) (.node (.node (.node .nil none (.node .nil none (.node .nil none (.node (.node (.node (.node (.node .nil (some b129) .nil) none .nil) none .nil) none .nil) none .nil)))) none .nil)
  none (.node (.node .nil none (.node .nil none (.node .nil none (.node (.node (.node (.node (.node .nil (some b136) .nil) none .nil) none .nil) none .nil) none .nil)))) none (.node .nil none (.node (.node .nil none (.node .nil none (.node .nil
  none (.node (.node .nil (some b71) .nil) none .nil)))) none .nil)))))), 2186⟩⟩
theorem s12 : (iterA P 20000 400 m11).map (pruneM [0, 2, 6, 7, 8, 9, 10, 11, 12, 13, 14, 15, 16, 17, 18, 19, 20, 21, 22, 23, 24, 25, 26, 27, 28, 29, 30] [[4, 5, 6, 7, 9, 10, 11, 25, 26, 27, 28, 29, 30, 31, 32, 33, 34, 35, 36, 37, 38, 39, 40,
  41, 42, 43, 44, 45, 46, 47, 48], [4, 5, 14, 15], [0, 1, 2, 4, 5, 6, 7, 8, 10, 11, 47, 48]] [0, 1, 2, 909, 1502, 1867, 1868, 1940, 2162, 2163, 2165, 2166]) = some m12 := by kernel_rfl
end Go.Ev.Aw
