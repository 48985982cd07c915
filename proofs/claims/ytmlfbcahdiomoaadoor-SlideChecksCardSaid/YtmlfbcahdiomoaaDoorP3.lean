/- awake's run, in pieces. -/
import Derived.Test.YtmlfbcahdiomoaaDoorP2
import Derived.KernelRfl
import Derived.Test.YtmlfbcahdiomoaaDoorProg
set_option linter.unusedVariables false
set_option linter.unusedSimpArgs false
set_option linter.unnecessarySimpa false
open Go Go.Ev Go.Proofs
namespace Go.Ev.Aw
set_option maxRecDepth 1000000
noncomputable def c122 : Code := partOf (bodyOf P 60) [1, 1, 0, 1, 0, 0, 0]
noncomputable def c123 : Code := partOf (bodyOf P 60) [1, 1, 0, 1, 0, 0, 1]
noncomputable def c124 : Code := partOf (bodyOf P 60) [1, 1, 0, 1, 0, 0]
noncomputable def f125 : AFrame := ⟨60, 22, (.node (.node (.node (.node (.node .nil (some (.sliceE 491 0 2 9)) .nil) (some (.sliceE 491 0 2 9)) .nil) none (.node (.node .nil (some (.val (.int .i64 3))) .nil) (some (.val (.int .i64 7))) .nil)) none (.node (.node
  (.node .nil (some (.sliceE 491 0 2 9)) .nil) none .nil) (some (.val (.int .i64 3))) (.node .nil (some (.val (.bool true))) .nil))) none (.node (.node (.node (.node .nil (some (.val (.int .i64 1))) .nil) none .nil) (some (.val (.int .i64 0)))
  (.node (.node .nil (some (.val (.int .i64 2))) .nil) (some (.val (.int .i64 2))) .nil)) none (.node (.node (.node .nil (some (.val (.int .i64 2))) .nil) (some (.sliceE 1666 0 7 1)) .nil) none (.node .nil (some (.ptr 1666 1)) .nil)))), [.code
  c122, .code c123, .inLoop c124, .inBlock 0, .code c39], [], .run, .normal, none⟩
noncomputable def b126 : AB := .cells [(.slice 343 0 1 1), (.sliceE 491 0 2 9), (.sliceE 730 0 2 9), (.sliceE 934 0 2 9), (.sliceE 1173 0 2 9), (.sliceE 1447 0 2 9), (.sliceE 1570 0 1 9)] 76 true false
noncomputable def m7 : M := ⟨f125, [f42, f19], ⟨(.node (.node (.node (.node .nil (some b20) (.node (.node .nil none (.node (.node .nil none (.node .nil none (.node (.node .nil (some b114) .nil) none .nil))) none .nil)) none (.node (.node .nil none (.node (.node .nil (some
  b47) .nil) none .nil)) none .nil))) none (.node .nil none (.node (.node .nil none (.node .nil none (.node .nil none (.node .nil (some b49) .nil)))) none .nil))) none (.node .nil none (.node (.node .nil none (.node (.node (.node .nil none (.node
  (.node (.node .nil (some b94) .nil) none .nil) none .nil)) none .nil) none .nil)) none .nil))) none (.node (.node (.node .nil (some b22) .nil) none .nil) none (.node (.node (.node (.node (.node (.node .nil none (.node (.node .nil none (.node
  .nil (some b126) .nil)) none .nil)) none .nil) none (.node (.node (.node (.node .nil none (.node .nil (some b112) .nil)) none .nil) none .nil) none .nil)) none .nil) (some b23) (.node .nil none (.node (.node .nil none (.node .nil none (.node
  (.node .nil (some b66) .nil) none .nil))) none .nil))) none (.node (.node (.node .nil none (.node (.node .nil none (.node .nil none (.node .nil (some b76) .nil))) none .nil)) none .nil) none .nil)))), 1766⟩⟩
theorem s7 : (iterA P 60000 400 m6).map (pruneM [4, 5, 7, 10, 11, 12, 13, 14, 15, 16, 17, 18, 19, 20] [[6, 7, 23, 26], [0, 1, 2, 3, 19, 20, 21]] [7, 8, 10, 343, 491, 730, 934, 1173, 1447, 1570, 1666]) = some m7 := by kernel_rfl
noncomputable def c127 : Code := partOf (bodyOf P 52) [1, 1, 0, 1, 0, 0, 0]
noncomputable def c128 : Code := partOf (bodyOf P 52) [1, 1, 0, 1, 0, 0, 1]
noncomputable def c129 : Code := partOf (bodyOf P 52) [1, 1, 0, 1, 0, 0]
noncomputable def c130 : Code := partOf (bodyOf P 52) [1, 1, 1]
noncomputable def f131 : AFrame := ⟨52, 28, (.node (.node (.node (.node .nil (some (.val (.int .i64 9))) .nil) (some (.ptr 2086 0)) (.node .nil (some (.val (.int .i64 8))) .nil)) none (.node (.node .nil (some (.val (.int .i64 8))) .nil) none (.node .nil (some
  (.ptr 2086 8)) .nil))) (some (.val (.slice none 0 0))) (.node (.node (.node .nil (some (.val (.bool true))) .nil) (some (.val (.int .i64 8))) (.node .nil (some (.val (.int .i8 8))) .nil)) (some (.ptr 2085 0)) (.node (.node .nil (some (.val
  (.int .i64 8))) .nil) none (.node .nil (some (.val (.int .i64 9))) .nil)))), [.code c127, .code c128, .inLoop c129, .inBlock 0, .code c130], [], .run, .normal, none⟩
noncomputable def c132 : Code := partOf (bodyOf P 56) [1, 1, 0, 0]
noncomputable def c133 : Code := partOf (bodyOf P 56) [1, 1, 0, 1]
noncomputable def c134 : Code := partOf (bodyOf P 56) [1, 1, 1]
noncomputable def f135 : AFrame := ⟨56, 30, (.node (.node (.node .nil (some (.val (.int .i64 0))) .nil) none .nil) none (.node (.node (.node .nil (some (.ptr 1766 0)) .nil) none .nil) (some (.val (.int .i64 0))) .nil)), [.inRegion (opsOf c132) 1 (restOf c132
  1), .code c133, .code c134], [], .run, .normal, none⟩
noncomputable def c136 : Code := partOf (bodyOf P 21) [1, 1, 1, 0]
noncomputable def f137 : AFrame := ⟨21, 21, (.node (.node (.node .nil none (.node (.node .nil (some (.ptr 1766 0)) .nil) none .nil)) none (.node .nil (some (.val (.int .i64 0))) .nil)) none (.node (.node .nil (some (.val (.int .i64 0))) .nil) none .nil)),
  [.inRegion (opsOf c136) 1 (restOf c136 1), .code .ret], [], .run, .normal, none⟩
noncomputable def c138 : Code := partOf (bodyOf P 22) [1, 1, 1, 0]
noncomputable def c139 : Code := partOf (bodyOf P 22) [1, 1, 1, 1]
noncomputable def f140 : AFrame := ⟨22, 101, (.node (.node (.node .nil (some (.val (.int .i64 0))) (.node .nil none (.node .nil (some (.sliceE 7 0 4 2)) .nil))) (some (.val (.int .i64 4))) (.node .nil (some (.val (.int .i64 0))) .nil)) (some (.val (.bool false)))
  (.node (.node .nil (some (.val (.int .i64 12))) .nil) none (.node (.node .nil none (.node .nil (some (.val (.int .i64 4))) .nil)) none .nil))), [.inRegion (opsOf c138) 2 (restOf c138 2), .code c139], [], .run, .normal, none⟩
noncomputable def b141 : AB := .cells [(.val (.int .i8 0)), (.val (.int .i8 0)), (.val (.int .i8 0)), (.val (.int .i8 0)), (.val (.int .i8 0)), (.val (.int .i8 0)), (.val (.int .i8 0)), (.val (.int .i8 0)), (.val (.int .i8 0))] 82 false false
noncomputable def m8 : M := ⟨f131, [f135, f137, f140], ⟨(.node (.node (.node (.node .nil (some b20) .nil) none .nil) none (.node .nil none (.node (.node (.node .nil none (.node (.node (.node (.node (.node (.node .nil (some b141) .nil) none .nil) none .nil) none .nil) none
  .nil) none .nil)) none .nil) none .nil))) none (.node .nil none (.node .nil none (.node (.node (.node .nil none (.node (.node (.node (.node (.node (.node .nil (some b47) .nil) none .nil) none .nil) none .nil) none .nil) none (.node .nil none
  (.node (.node .nil none (.node .nil (some b23) .nil)) none .nil)))) none .nil) none .nil)))), 2087⟩⟩
theorem s8 : (iterA P 60000 400 m7).map (pruneM [0, 2, 3, 4, 7, 8, 9, 10, 11, 12, 13, 14] [[2, 3, 8], [4, 5, 19], [0, 1, 3, 4, 5, 26, 27]] [7, 1766, 2085, 2086]) = some m8 := by kernel_rfl
end Go.Ev.Aw
