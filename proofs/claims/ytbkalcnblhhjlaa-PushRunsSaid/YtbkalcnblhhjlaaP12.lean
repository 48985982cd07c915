/- awake's closed self-check, piece 13. -/
import Derived.Test.YtbkalcnblhhjlaaP11
import Derived.KernelRfl
import Derived.Test.YtbkalcnblhhjlaaProg
set_option linter.unusedVariables false
set_option linter.unusedSimpArgs false
set_option linter.unnecessarySimpa false
open Go Go.Ev Go.Proofs
namespace Go.Ev.Aw
set_option maxRecDepth 1000000
noncomputable def c138 : Code := partOf (bodyOf P 22) [1, 1, 1, 1]
noncomputable def f139 : AFrame := ⟨22, 33, (.node (.node (.node (.node .nil (some (.ptr 2238 0)) .nil) none .nil) none (.node .nil (some (.val (.int .i64 0))) .nil)) none (.node (.node .nil (some (.val (.slice none 0 0))) .nil) none .nil)), [.code c138],
  [.collected 2254], .run, .normal, none⟩
noncomputable def c140 : Code := partOf (bodyOf P 12) [1, 1, 1, 1, 1, 1, 1, 1, 0]
noncomputable def c141 : Code := partOf (bodyOf P 12) [1, 1, 1, 1, 1, 1, 1, 1, 1]
noncomputable def f142 : AFrame := ⟨12, 124, (.node (.node (.node (.node .nil (some (.val (.bool false))) .nil) none (.node .nil (some (.val (.int .i64 0))) .nil)) none (.node .nil (some (.val (.bool true))) (.node (.node .nil none (.node .nil (some (.agg
  [(.val (.int .i64 1)), (.slice 0 0 2 2)])) .nil)) (some (.val (.int .i64 0))) .nil))) (some (.val (.bool false))) (.node (.node (.node .nil (some (.val (.int .i64 0))) .nil) (some (.sliceE 909 0 2 1)) (.node .nil (some (.val (.bool false)))
  .nil)) none (.node (.node .nil (some (.val (.bool true))) .nil) (some (.val (.int .i64 0))) (.node (.node .nil none (.node .nil (some (.agg [(.val (.int .i64 0)), (.val (.string ⟨#[97]⟩))])) .nil)) none .nil)))), [.inRegion (opsOf c140) 2 (restOf
  c140 2), .code c141], [], .run, .normal, none⟩
noncomputable def b143 : AB := .cells [(.val (.int .i64 0)), (.val (.string ⟨#[98, 98]⟩))] 39 true false
noncomputable def b144 : AB := .cells [(.sliceE 2291 0 1 2)] 61 false false
noncomputable def m13 : M := ⟨f139, [f142], ⟨(.node (.node (.node .nil none (.node (.node .nil none (.node .nil none (.node .nil none (.node .nil none (.node (.node (.node (.node .nil (some b143) .nil) none .nil) none .nil) none .nil))))) none .nil)) none (.node .nil none
  (.node .nil none (.node (.node (.node (.node .nil none (.node .nil none (.node .nil (some b49) .nil))) none .nil) none .nil) none .nil)))) (some b11) (.node .nil none (.node .nil none (.node .nil none (.node (.node (.node .nil none (.node .nil
  none (.node (.node (.node (.node .nil (some (.deferred true)) .nil) none .nil) none .nil) none .nil))) none .nil) none (.node .nil none (.node (.node .nil none (.node (.node (.node (.node .nil (some b144) .nil) none .nil) none .nil) none .nil))
  none .nil))))))), 2306⟩⟩
theorem s13 : (iterA P 20000 400 m12).map (pruneM [4, 5, 7] [[0, 4, 5, 6, 7, 8, 10, 11, 12, 13, 53, 54]] [0, 909, 2238, 2254, 2291]) = some m13 := by kernel_rfl
end Go.Ev.Aw
