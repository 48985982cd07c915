/- awake's closed self-check, piece 9. -/
import Derived.Test.YtbkalcnblhhjlaaP7
import Derived.KernelRfl
import Derived.Test.YtbkalcnblhhjlaaProg
set_option linter.unusedVariables false
set_option linter.unusedSimpArgs false
set_option linter.unnecessarySimpa false
open Go Go.Ev Go.Proofs
namespace Go.Ev.Aw
set_option maxRecDepth 1000000
noncomputable def c118 : Code := partOf (bodyOf P 47) [1, 1, 0, 0, 1, 1, 0, 0, 1, 1, 0, 0, 1, 1, 0, 1]
noncomputable def f119 : AFrame := ⟨47, 24, (.node (.node (.node (.node (.node .nil (some (.val (.int .i32 98))) .nil) none .nil) none (.node (.node .nil (some (.val (.int .u8 97))) .nil) (some (.val (.int .i64 0))) .nil)) (some (.yld 2113)) (.node (.node
  (.node .nil (some (.val (.int .i64 0))) .nil) (some (.val (.int .i64 0))) .nil) none (.node (.node .nil (some (.val (.bool true))) .nil) (some (.tuple [(.val (.bool true)), (.val (.int .i64 1)), (.val (.int .i32 98))])) .nil))) none (.node
  (.node (.node (.node .nil (some (.yld 2113)) .nil) (some (.val (.int .i64 1))) .nil) (some (.val (.int .i64 0))) (.node (.node .nil (some (.agg [(.val (.int .i64 0)), (.val (.int .u8 97))])) .nil) (some (.ptr 2115 0)) .nil)) none (.node (.node
  (.node .nil (some (.val (.int .i32 97))) .nil) (some (.val (.bool true))) .nil) (some (.val (.int .i32 98))) (.node (.node .nil (some (.val (.bool false))) .nil) (some (.val (.bool true))) .nil)))), [.code c118, .inBlock 3, .inLoop c77, .inBlock
  2, .inBlock 1, .code c78, .inLoop c79, .inBlock 0], [], .run, .normal, none⟩
noncomputable def f120 : AFrame := ⟨41, 34, (.node (.node (.node (.node (.node .nil (some (.val (.bool true))) .nil) (some (.ptr 2111 0)) .nil) (some (.ptr 1939 0)) .nil) none (.node (.node (.node .nil (some (.func (.func 47) [(.agg [(.val (.int .i64 1)),
  (.slice 1502 0 1 1)])] [])) .nil) none .nil) (some (.ptr 1941 0)) .nil)) none (.node (.node (.node (.node (.node .nil (some (.val (.bool true))) .nil) (some (.agg [(.val (.int .i64 1)), (.slice 1502 0 1 1)])) .nil) none .nil) (some (.val (.map
  none))) .nil) (some (.ptr 1938 0)) .nil)), [.inRangeFunc 2113, .inBlock 4, .inBlock 3, .code c81, .inLoop c82, .inBlock 2, .code c83], [.collected 2112, .collected 1952, .collected 1942], .run, .normal, none⟩
noncomputable def b121 : AB := .loop .ready none 41 (.node (.node (.node (.node (.node .nil (some (.val (.bool true))) .nil) (some (.ptr 2111 0)) .nil) (some (.ptr 1939 0)) .nil) none (.node (.node (.node .nil (some (.func (.func 47) [(.agg [(.val (.int .i64
  1)), (.slice 1502 0 1 1)])] [])) .nil) none .nil) (some (.ptr 1941 0)) .nil)) none (.node (.node (.node (.node (.node .nil (some (.val (.bool true))) .nil) (some (.agg [(.val (.int .i64 1)), (.slice 1502 0 1 1)])) .nil) none .nil) (some (.val
  (.map none))) .nil) (some (.ptr 1938 0)) .nil)) 34 #[18] c72 c73 2112
noncomputable def m9 : M := ⟨f119, [f120, f115, f101, f104], ⟨(.node (.node (.node (.node (.node (.node (.node .nil none (.node (.node (.node (.node (.node .nil (some b95) .nil) none .nil) none .nil) none .nil) none .nil)) none .nil) none .nil) none (.node (.node (.node
  .nil none (.node (.node .nil none (.node .nil none (.node .nil (some b13) .nil))) none .nil)) none .nil) none .nil)) none (.node (.node (.node (.node .nil none (.node (.node (.node (.node (.node .nil (some (.strIter ⟨#[97, 98, 99, 100, 101]⟩
  2)) .nil) none .nil) none .nil) none .nil) none .nil)) none .nil) none (.node (.node (.node .nil none (.node .nil none (.node .nil none (.node .nil (some (.cells [(.ptr 1868 0)] 70 false false)) .nil)))) none .nil) none .nil)) none (.node (.node
  (.node .nil none (.node (.node .nil none (.node .nil none (.node .nil (some b89) .nil))) none .nil)) none .nil) none .nil))) (some b12) (.node (.node (.node (.node (.node .nil none (.node (.node (.node (.node (.node .nil (some b121) .nil) none
  .nil) none .nil) none .nil) none .nil)) none .nil) none .nil) none .nil) none (.node (.node .nil none (.node (.node (.node .nil none (.node .nil none (.node .nil none (.node .nil (some (.cells [(.map 1940)] 92 false false)) .nil)))) none .nil)
  none .nil)) none (.node (.node (.node (.node .nil none (.node .nil none (.node .nil (some b49) .nil))) none .nil) none .nil) none .nil)))) (some b11) (.node (.node (.node (.node (.node (.node .nil none (.node (.node (.node (.node (.node .nil
  (some (.deferred true)) .nil) none .nil) none .nil) none .nil) none .nil)) none (.node (.node .nil none (.node .nil none (.node .nil none (.node .nil (some (.deferred true)) .nil)))) none .nil)) none .nil) none .nil) none (.node (.node .nil
  none (.node (.node (.node .nil none (.node .nil none (.node .nil none (.node .nil (some b96) .nil)))) none .nil) none .nil)) none (.node (.node (.node .nil none (.node (.node .nil none (.node .nil none (.node .nil (some b105) .nil))) none .nil))
  none .nil) none .nil))) (some b15) (.node (.node (.node .nil none (.node (.node (.node .nil none (.node .nil none (.node .nil none (.node .nil (some b69) .nil)))) none .nil) none .nil)) none .nil) none (.node (.node .nil none (.node (.node
  (.node .nil none (.node .nil none (.node .nil none (.node .nil (some (.deferred true)) .nil)))) none .nil) none .nil)) none (.node .nil none (.node (.node .nil none (.node .nil none (.node .nil none (.node (.node .nil (some b71) .nil) none
  .nil)))) none .nil)))))), 2155⟩⟩
theorem s9 : (iterA P 20000 400 m8).map (pruneM [1, 4, 6, 8, 9, 10, 11, 12, 13, 14, 15, 16, 17, 18, 19, 20, 21, 22] [[2, 3, 4, 5, 7, 15, 16, 17, 32], [3, 4, 5, 17, 18], [4, 5, 14, 15], [0, 1, 2, 4, 5, 6, 7, 8, 10, 11, 47, 48]] [0, 1, 2, 909,
  1502, 1863, 1867, 1868, 1938, 1939, 1940, 1941, 1942, 1952, 2111, 2112, 2113, 2115]) = some m9 := by kernel_rfl
end Go.Ev.Aw
