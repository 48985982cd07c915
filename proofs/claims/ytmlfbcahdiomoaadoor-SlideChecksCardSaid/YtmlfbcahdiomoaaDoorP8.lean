/- awake's run, in pieces. -/
import Derived.Test.YtmlfbcahdiomoaaDoorP7
import Derived.KernelRfl
import Derived.Test.YtmlfbcahdiomoaaDoorProg
set_option linter.unusedVariables false
set_option linter.unusedSimpArgs false
set_option linter.unnecessarySimpa false
open Go Go.Ev Go.Proofs
namespace Go.Ev.Aw
set_option maxRecDepth 1000000
noncomputable def c252 : Code := partOf (bodyOf P 51) [1, 1, 1, 0, 1, 0, 0, 0]
noncomputable def c253 : Code := partOf (bodyOf P 51) [1, 1, 1, 0, 1, 0, 0, 1]
noncomputable def f254 : AFrame := ⟨51, 34, (.node (.node (.node (.node (.node .nil (some (.val (.bool true))) .nil) (some (.val (.int .i64 0))) (.node .nil (some (.val (.bool false))) .nil)) none (.node (.node .nil (some (.val (.bool false))) .nil) none (.node
  .nil (some (.val (.int .u16 1))) .nil))) none (.node (.node (.node .nil (some (.val (.int .i64 0))) .nil) none (.node .nil (some (.val (.int .u16 0))) .nil)) (some (.val (.int .u16 1))) (.node (.node .nil (some (.val (.int .i64 0))) .nil) (some
  (.val (.int .i64 3))) (.node .nil (some (.val (.int .i64 1))) .nil)))) (some (.val (.int .i64 3))) (.node (.node (.node (.node .nil (some (.ptr 3885 0)) .nil) none (.node .nil (some (.val (.bool false))) .nil)) (some (.val (.bool false))) (.node
  (.node .nil (some (.val (.bool false))) .nil) (some (.slice 3885 0 3 3)) (.node .nil (some (.val (.int .u16 1))) .nil))) none (.node (.node (.node .nil (some (.val (.int .i64 0))) .nil) none (.node .nil (some (.val (.int .i64 0))) .nil)) none
  (.node (.node .nil (some (.val (.int .i64 3))) .nil) (some (.val (.int .i64 1))) .nil)))), [.code c252, .code c253, .inLoop c4, .inBlock 0, .code c5], [], .run, .normal, none⟩
noncomputable def f255 : AFrame := ⟨49, 41, (.node (.node (.node (.node (.node (.node .nil (some (.val (.bool true))) .nil) none .nil) (some (.val (.slice none 0 0))) (.node .nil (some (.slice 3886 0 2 2)) .nil)) none (.node (.node (.node .nil (some (.agg
  [(.val (.int .i8 0)), (.val (.int .i8 1)), (.val (.int .i8 2)), (.val (.int .i8 3)), (.val (.int .i8 4)), (.val (.int .i8 5)), (.val (.int .i8 6)), (.val (.int .i8 7)), (.val (.int .i8 8))])) .nil) none .nil) (some (.sliceE 4089 0 1 9)) (.node
  .nil (some (.ptr 3886 1)) .nil))) none (.node (.node (.node (.node .nil (some (.val (.slice none 0 0))) .nil) none .nil) (some (.ptr 3887 0)) (.node .nil (some (.val (.int .i64 1))) .nil)) none (.node (.node (.node .nil (some (.sliceE 4089
  0 1 9)) .nil) none .nil) (some (.slice 3885 0 3 3)) (.node .nil (some (.val (.int .i64 3))) .nil)))) (some (.val (.int .i64 3))) (.node (.node (.node (.node (.node .nil (some (.val (.bool false))) .nil) none .nil) (some (.val (.int .i64 0)))
  (.node .nil (some (.val (.int .i64 2))) .nil)) none (.node (.node (.node .nil (some (.slice 4088 0 1 1)) .nil) none .nil) none (.node .nil (some (.slice 3885 0 3 3)) .nil))) none (.node (.node (.node (.node .nil (some (.slice 3884 0 3 3)) .nil)
  none .nil) none (.node .nil (some (.val (.bool true))) .nil)) (some (.val (.pointer none))) (.node (.node (.node .nil (some (.val (.int .i64 1))) .nil) none .nil) none (.node .nil (some (.slice 3885 0 3 3)) .nil))))), [.inRegion (opsOf c7)
  2 (restOf c7 2), .code c8, .code c9, .inBlock 1, .code c10, .inLoop c11, .inBlock 0, .code c12], [], .run, .normal, none⟩
noncomputable def b256 : AB := .cells [(.val (.int .i64 3)), (.val (.int .u16 2)), (.val (.int .u16 5)), (.val (.int .u16 2)), (.val (.int .u16 0)), (.val (.int .u16 0)), (.val (.int .u16 0)), (.val (.int .u16 0)), (.val (.int .u16 0)), (.val (.int .u16 0))]
  109 false false
noncomputable def b257 : AB := .cells [(.val (.int .i8 0)), (.val (.int .i8 1)), (.val (.int .i8 2)), (.val (.int .i8 3)), (.val (.int .i8 4)), (.val (.int .i8 5)), (.val (.int .i8 6)), (.val (.int .i8 7)), (.val (.int .i8 8))] 82 true false
noncomputable def m17 : M := ⟨f254, [f255, f239, f242, f245], ⟨(.node (.node (.node (.node (.node .nil none (.node .nil none (.node (.node (.node .nil none (.node .nil none (.node .nil none (.node .nil (some b256) .nil)))) none .nil) none .nil))) none .nil) none (.node .nil
  none (.node (.node .nil none (.node (.node (.node .nil none (.node .nil none (.node .nil none (.node .nil (some b247) .nil)))) none .nil) none .nil)) none .nil))) none (.node (.node .nil none (.node .nil none (.node .nil none (.node .nil none
  (.node .nil none (.node .nil none (.node .nil none (.node .nil none (.node .nil (some b257) .nil))))))))) none (.node .nil none (.node (.node .nil none (.node (.node (.node .nil none (.node .nil none (.node .nil none (.node .nil (some b248)
  .nil)))) none .nil) none .nil)) none .nil)))) none (.node (.node (.node .nil none (.node .nil none (.node .nil none (.node .nil none (.node .nil none (.node .nil none (.node .nil none (.node .nil none (.node .nil (some b47) .nil))))))))) none
  (.node .nil none (.node (.node .nil none (.node (.node (.node .nil none (.node .nil none (.node .nil none (.node .nil (some b249) .nil)))) none .nil) none .nil)) none .nil))) none (.node (.node .nil none (.node (.node .nil none (.node (.node
  (.node .nil none (.node .nil none (.node .nil none (.node .nil (some b250) .nil)))) none .nil) none .nil)) none .nil)) none (.node .nil none (.node (.node .nil none (.node (.node (.node .nil none (.node .nil none (.node .nil none (.node .nil
  (some b251) .nil)))) none .nil) none .nil)) none .nil))))), 4090⟩⟩
theorem s17 : (iterA P 60000 400 m16).map (pruneM [0, 4, 5, 7, 12, 13, 14, 15, 16, 17, 18, 19, 20, 21, 22, 23, 24, 25, 26, 27, 28, 29] [[0, 6, 7, 8, 9, 11, 13, 23, 24, 25, 26, 27, 28, 29, 30, 31, 32, 33, 34, 35, 36, 37, 38], [8, 9, 10, 17, 18,
  21], [8, 9, 14, 15, 16, 17], [0, 1, 3, 4, 5, 6, 7, 8, 9, 10, 43, 44, 45]] [3882, 3883, 3884, 3885, 3886, 3887, 4088, 4089]) = some m17 := by kernel_rfl
theorem e : (arun P 60000 m17).map (·.1) = some (.val (.bool true)) := by kernel_rfl
end Go.Ev.Aw
