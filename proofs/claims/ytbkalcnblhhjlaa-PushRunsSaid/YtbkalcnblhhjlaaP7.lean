/- awake's closed self-check, piece 8. -/
import Derived.Test.YtbkalcnblhhjlaaP6
import Derived.KernelRfl
import Derived.Test.YtbkalcnblhhjlaaProg
set_option linter.unusedVariables false
set_option linter.unusedSimpArgs false
set_option linter.unnecessarySimpa false
open Go Go.Ev Go.Proofs
namespace Go.Ev.Aw
set_option maxRecDepth 1000000
noncomputable def c106 : Code := partOf (bodyOf P 48) [1, 0, 0]
noncomputable def c107 : Code := partOf (bodyOf P 48) [1, 0, 1]
noncomputable def c108 : Code := partOf (bodyOf P 48) [1, 1]
noncomputable def f109 : AFrame := ⟨48, 18, (.node (.node (.node (.node .nil (some (.ptr 2027 0)) .nil) none .nil) none (.node .nil (some (.ptr 2026 0)) .nil)) none (.node (.node (.node .nil (some (.ptr 2028 0)) .nil) (some (.ptr 2025 0)) .nil) (some (.ptr
  1868 0)) .nil)), [.code c106, .code c107, .code c108], [], .run, .normal, none⟩
noncomputable def c110 : Code := partOf (bodyOf P 41) [1, 1, 1, 0, 1, 0, 0, 1, 0, 0, 1, 1, 0, 1, 0, 0]
noncomputable def c111 : Code := partOf (bodyOf P 41) [1, 1, 1, 0, 1, 0, 0, 1, 0, 0, 1, 1, 0, 1, 0, 1]
noncomputable def f112 : AFrame := ⟨41, 34, (.node (.node (.node (.node .nil (some (.ptr 1951 0)) (.node .nil (some (.agg [(.val (.int .i64 1)), (.slice 1502 0 1 1)])) .nil)) none .nil) none (.node (.node .nil none (.node .nil (some (.ptr 1868 0)) .nil)) (some
  (.ptr 1941 0)) .nil)) none (.node (.node (.node .nil (some (.ptr 2024 0)) (.node .nil (some (.agg [(.val (.int .i64 0)), (.val (.int .u8 99))])) .nil)) (some (.val (.map none))) .nil) none (.node (.node .nil none (.node .nil (some (.map 1940))
  .nil)) none (.node (.node .nil (some (.val (.bool true))) .nil) none .nil)))), [.inRegion (opsOf c110) 8 (restOf c110 8), .code c111, .inBlock 5], [], .run, .normal, (some 1953)⟩
noncomputable def f113 : AFrame := ⟨47, 24, (.node (.node (.node (.node (.node .nil (some (.val (.int .i32 99))) .nil) none .nil) none (.node (.node .nil (some (.val (.int .u8 99))) .nil) (some (.val (.int .i64 0))) .nil)) (some (.yld 1953)) (.node (.node
  (.node .nil (some (.val (.int .i64 0))) .nil) (some (.val (.int .i64 0))) .nil) none (.node (.node .nil (some (.val (.bool true))) .nil) (some (.tuple [(.val (.bool true)), (.val (.int .i64 2)), (.val (.int .i32 99))])) .nil))) none (.node
  (.node (.node (.node .nil (some (.yld 1953)) .nil) (some (.val (.int .i64 1))) .nil) (some (.val (.int .i64 0))) (.node (.node .nil (some (.agg [(.val (.int .i64 0)), (.val (.int .u8 99))])) .nil) (some (.ptr 1955 0)) .nil)) none (.node (.node
  (.node .nil (some (.val (.int .i32 99))) .nil) (some (.val (.bool true))) .nil) (some (.val (.int .i32 99))) (.node (.node .nil (some (.val (.bool false))) .nil) (some (.val (.bool true))) .nil)))), [.inRegion (opsOf c75) 5 (restOf c75 5),
  .code c76, .inBlock 3, .inLoop c77, .inBlock 2, .inBlock 1, .code c78, .inLoop c79, .inBlock 0], [], .run, .normal, none⟩
noncomputable def f114 : AFrame := ⟨41, 34, (.node (.node (.node (.node (.node .nil (some (.val (.bool true))) .nil) (some (.ptr 1951 0)) .nil) (some (.ptr 1939 0)) .nil) none (.node (.node (.node .nil (some (.func (.func 47) [(.agg [(.val (.int .i64 1)),
  (.slice 1502 0 1 1)])] [])) .nil) none .nil) (some (.ptr 1941 0)) .nil)) none (.node (.node (.node (.node .nil (some (.agg [(.val (.int .i64 1)), (.slice 1502 0 1 1)])) .nil) none .nil) (some (.val (.map none))) .nil) (some (.ptr 1938 0)) .nil)),
  [.inRangeFunc 1953, .inBlock 4, .inBlock 3, .code c81, .inLoop c82, .inBlock 2, .code c83], [.collected 1952, .collected 1942], .run, .normal, none⟩
noncomputable def f115 : AFrame := ⟨29, 50, (.node (.node (.node .nil (some (.ptr 1863 0)) .nil) none (.node (.node (.node .nil (some (.agg [(.val (.int .i64 1)), (.slice 1502 0 1 1)])) .nil) none .nil) (some (.ptr 1868 0)) .nil)) none (.node (.node .nil (some
  (.val (.bool false))) .nil) none (.node (.node (.node .nil (some (.ptr 1868 0)) .nil) none .nil) none .nil))), [.inRegion (opsOf c85) 2 (restOf c85 2), .code c86], [], .run, .normal, none⟩
noncomputable def b116 : AB := .loop .busy none 41 (.node (.node (.node (.node (.node .nil (some (.val (.bool true))) .nil) (some (.ptr 1951 0)) .nil) (some (.ptr 1939 0)) (.node .nil (some (.func (.func 47) [(.agg [(.val (.int .i64 1)), (.slice 1502 0 1 1)])]
  [])) .nil)) (some (.ptr 1868 0)) (.node (.node (.node .nil (some (.func (.func 47) [(.agg [(.val (.int .i64 1)), (.slice 1502 0 1 1)])] [])) .nil) (some (.map 1940)) .nil) (some (.ptr 1941 0)) .nil)) (some (.agg [(.val (.int .i64 1)), (.slice
  1502 0 1 1)])) (.node (.node (.node (.node .nil (some (.agg [(.val (.int .i64 1)), (.slice 1502 0 1 1)])) .nil) none .nil) (some (.val (.map none))) .nil) (some (.ptr 1938 0)) (.node (.node .nil (some (.agg [(.val (.int .i64 1)), (.slice 1502
  0 1 1)])) .nil) none .nil))) 34 #[18] c72 c73 1952
noncomputable def b117 : AB := .cells [(.val (.int .i64 0)), (.val (.int .u8 99))] 52 false false
noncomputable def m8 : M := ⟨f109, [f112, f113, f114, f115, f101, f104], ⟨(.node (.node (.node (.node (.node (.node .nil none (.node (.node .nil none (.node .nil none (.node .nil none (.node .nil (some b90) .nil)))) none .nil)) none .nil) none (.node (.node (.node .nil
  none (.node (.node .nil none (.node .nil none (.node .nil (some b13) .nil))) none .nil)) none .nil) none .nil)) none (.node (.node (.node .nil none (.node (.node .nil none (.node .nil none (.node .nil none (.node .nil (some (.strIter ⟨#[97,
  98, 99, 100, 101]⟩ 3)) .nil)))) none .nil)) none (.node (.node (.node .nil none (.node .nil none (.node .nil none (.node .nil (some (.cells [(.ptr 1868 0)] 70 false false)) .nil)))) none .nil) none .nil)) none (.node (.node (.node .nil none
  (.node (.node .nil none (.node .nil none (.node .nil (some b89) .nil))) none .nil)) none (.node .nil none (.node .nil none (.node .nil none (.node .nil none (.node .nil (some (.cells [(.map 1940)] 92 false false)) .nil)))))) none .nil))) (some
  b12) (.node (.node (.node (.node .nil none (.node (.node .nil none (.node .nil none (.node .nil none (.node .nil (some b116) .nil)))) none .nil)) none .nil) none (.node (.node .nil none (.node .nil none (.node .nil none (.node .nil none (.node
  .nil none (.node .nil (some b69) .nil)))))) none .nil)) none (.node (.node .nil none (.node (.node (.node .nil none (.node .nil none (.node .nil none (.node .nil (some (.cells [(.map 1940)] 92 false false)) .nil)))) none .nil) none .nil)) none
  (.node (.node (.node (.node .nil none (.node .nil none (.node .nil (some b49) .nil))) none .nil) none .nil) none .nil)))) (some b11) (.node (.node (.node (.node (.node .nil none (.node (.node .nil none (.node .nil none (.node .nil none (.node
  .nil (some (.deferred true)) .nil)))) none .nil)) none .nil) none (.node (.node .nil none (.node .nil none (.node .nil none (.node .nil none (.node .nil none (.node .nil (some b117) .nil)))))) none .nil)) none (.node (.node .nil none (.node
  (.node (.node .nil none (.node .nil none (.node .nil none (.node .nil (some b91) .nil)))) none .nil) none .nil)) none (.node (.node (.node .nil none (.node (.node .nil none (.node .nil none (.node .nil (some b105) .nil))) none .nil)) none (.node
  .nil none (.node .nil none (.node .nil none (.node .nil none (.node .nil (some b95) .nil)))))) none .nil))) (some b15) (.node (.node (.node .nil none (.node (.node (.node .nil none (.node .nil none (.node .nil none (.node .nil (some b69) .nil))))
  none .nil) none .nil)) none (.node (.node .nil none (.node .nil none (.node .nil none (.node .nil none (.node .nil none (.node .nil (some b117) .nil)))))) none .nil)) none (.node (.node .nil none (.node (.node (.node .nil none (.node .nil none
  (.node .nil none (.node .nil (some (.deferred true)) .nil)))) none .nil) none .nil)) none (.node .nil none (.node (.node .nil none (.node .nil none (.node .nil none (.node (.node .nil (some b71) .nil) none .nil)))) none .nil)))))), 2029⟩⟩
theorem s8 : (iterA P 20000 400 m7).map (pruneM [2, 4, 5, 7, 8] [[4, 5, 7, 8, 22, 23, 24, 25, 26], [1, 4, 6, 8, 9, 10, 11, 12, 13, 14, 15, 16, 17, 18, 19, 20, 21, 22], [2, 3, 4, 5, 7, 15, 16, 17], [3, 4, 5, 17, 18], [4, 5, 14, 15], [0, 1, 2,
  4, 5, 6, 7, 8, 10, 11, 47, 48]] [0, 1, 2, 909, 1502, 1863, 1867, 1868, 1938, 1939, 1940, 1941, 1942, 1951, 1952, 1953, 1955, 2024, 2025, 2026, 2027, 2028]) = some m8 := by kernel_rfl
end Go.Ev.Aw
