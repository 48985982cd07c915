/- awake's closed self-check, piece 7. -/
import Derived.Test.YtbkalcnblhhjlaaP5
import Derived.KernelRfl
import Derived.Test.YtbkalcnblhhjlaaProg
set_option linter.unusedVariables false
set_option linter.unusedSimpArgs false
set_option linter.unnecessarySimpa false
open Go Go.Ev Go.Proofs
namespace Go.Ev.Aw
set_option maxRecDepth 1000000
noncomputable def c97 : Code := partOf (bodyOf P 35) [1, 1, 0, 1, 0, 0, 1, 1, 1]
noncomputable def f98 : AFrame := ⟨35, 29, (.node (.node (.node (.node (.node .nil (some (.ptr 1868 0)) .nil) (some (.ptr 1870 0)) (.node .nil (some (.val (.string ⟨#[97, 97]⟩))) .nil)) none (.node (.node .nil (some (.ptr 1870 2)) .nil) (some (.val (.int .i64
  0))) .nil)) none (.node (.node (.node .nil (some (.agg [(.val (.int .i64 0)), (.val (.int .u8 97))])) .nil) (some (.slice 1502 0 1 1)) (.node .nil (some (.agg [(.val (.int .i64 0)), (.val (.int .i64 0)), (.val (.int .i64 0)), (.val (.int .i64
  0)), (.val (.int .i64 0)), (.val (.int .i64 0)), (.val (.int .i64 0)), (.val (.int .i64 0)), (.val (.int .i64 0)), (.val (.int .i64 0)), (.val (.int .i64 0)), (.val (.int .i64 0)), (.val (.int .i64 0)), (.val (.int .i64 0)), (.val (.int .i64
  0)), (.val (.int .i64 0)), (.val (.int .i64 0)), (.val (.int .i64 0)), (.val (.int .i64 0)), (.val (.int .i64 0)), (.val (.int .i64 0)), (.val (.int .i64 0)), (.val (.int .i64 0)), (.val (.int .i64 0)), (.val (.int .i64 0)), (.val (.int .i64
  0)), (.val (.int .i64 0)), (.val (.int .i64 0)), (.val (.int .i64 0)), (.val (.int .i64 0)), (.val (.int .i64 0)), (.val (.int .i64 0)), (.val (.int .i64 0)), (.val (.int .i64 0)), (.val (.int .i64 0)), (.val (.int .i64 0)), (.val (.int .i64
  0))])) .nil)) (some (.val (.bool false))) (.node (.node .nil (some (.agg [(.val (.int .i64 1)), (.val (.int .i64 0)), (.val (.int .i64 0)), (.val (.int .i64 0)), (.val (.int .i64 0)), (.val (.int .i64 0)), (.val (.int .i64 0)), (.val (.int
  .i64 0)), (.val (.int .i64 0)), (.val (.int .i64 0)), (.val (.int .i64 0)), (.val (.int .i64 0)), (.val (.int .i64 0)), (.val (.int .i64 0)), (.val (.int .i64 0)), (.val (.int .i64 0)), (.val (.int .i64 0)), (.val (.int .i64 0)), (.val (.int
  .i64 0)), (.val (.int .i64 0)), (.val (.int .i64 0)), (.val (.int .i64 0)), (.val (.int .i64 0)), (.val (.int .i64 0)), (.val (.int .i64 0)), (.val (.int .i64 0)), (.val (.int .i64 0)), (.val (.int .i64 0)), (.val (.int .i64 0)), (.val (.int
  .i64 0)), (.val (.int .i64 0)), (.val (.int .i64 0)), (.val (.int .i64 0)), (.val (.int .i64 0)), (.val (.int .i64 0)), (.val (.int .i64 0)), (.val (.int .i64 0))])) .nil) (some (.ptr 1502 0)) .nil))) (some (.ptr 1868 0)) (.node (.node (.node
  (.node .nil (some (.agg [(.val (.int .i64 0)), (.val (.int .u8 97)), (.val (.int .i64 0)), (.val (.string ⟨#[97, 97]⟩))])) .nil) none (.node .nil (some (.agg [(.val (.int .i64 0)), (.val (.int .i64 0)), (.val (.int .i64 0)), (.val (.int .i64
  0)), (.val (.int .i64 0)), (.val (.int .i64 0)), (.val (.int .i64 0)), (.val (.int .i64 0)), (.val (.int .i64 0)), (.val (.int .i64 0)), (.val (.int .i64 0)), (.val (.int .i64 0)), (.val (.int .i64 0)), (.val (.int .i64 0)), (.val (.int .i64
  0)), (.val (.int .i64 0)), (.val (.int .i64 0)), (.val (.int .i64 0)), (.val (.int .i64 0)), (.val (.int .i64 0)), (.val (.int .i64 0)), (.val (.int .i64 0)), (.val (.int .i64 0)), (.val (.int .i64 0)), (.val (.int .i64 0)), (.val (.int .i64
  0)), (.val (.int .i64 0)), (.val (.int .i64 0)), (.val (.int .i64 0)), (.val (.int .i64 0)), (.val (.int .i64 0)), (.val (.int .i64 0)), (.val (.int .i64 0)), (.val (.int .i64 0)), (.val (.int .i64 0)), (.val (.int .i64 0)), (.val (.int .i64
  0))])) .nil)) (some (.val (.bool false))) (.node (.node .nil (some (.val (.int .i64 0))) .nil) (some (.val (.bool true))) .nil)) none (.node (.node (.node .nil (some (.ptr 1868 0)) .nil) (some (.val (.int .i64 1))) (.node .nil (some (.val (.bool
  false))) .nil)) none (.node (.node .nil (some (.ptr 1870 3)) .nil) (some (.agg [(.val (.int .i64 0)), (.val (.int .u8 97)), (.val (.int .i64 0)), (.val (.string ⟨#[97, 97]⟩))])) .nil)))), [.code .skip, .inBlock 1, .code c97, .inLoop c54, .inBlock
  0, .code c55], [], .run, .normal, none⟩
noncomputable def f99 : AFrame := ⟨26, 12, (.node (.node .nil none (.node (.node .nil (some (.agg [(.val (.int .i64 1)), (.slice 1502 0 1 1)])) .nil) (some (.ptr 1868 0)) .nil)) none (.node (.node (.node .nil (some (.ptr 1868 0)) .nil) (some (.val (.pointer
  none))) .nil) (some (.ptr 1864 0)) .nil)), [.inRegion (opsOf c57) 2 (restOf c57 2), .code c58, .code c59, .inLoop c2, .inBlock 0, .code c3], [], .run, .normal, none⟩
noncomputable def f100 : AFrame := ⟨29, 50, (.node (.node (.node (.node (.node .nil (some (.agg [(.val (.int .i64 1)), (.val (.slice none 0 0)), (.val (.slice none 0 0))])) .nil) none .nil) (some (.ptr 1863 0)) .nil) none .nil) none (.node (.node .nil (some
  (.val (.bool false))) (.node .nil (some (.agg [(.val (.int .i64 1)), (.slice 1502 0 1 1)])) .nil)) (some (.ptr 1862 0)) .nil)), [.inRegion (opsOf c61) 4 (restOf c61 4), .code c62], [], .run, .normal, none⟩
noncomputable def f101 : AFrame := ⟨21, 17, (.node (.node (.node (.node (.node .nil (some (.agg [(.val (.int .i64 0)), (.val (.string ⟨#[98]⟩))])) .nil) none .nil) none .nil) none (.node .nil (some (.val (.int .i64 0))) .nil)) none (.node (.node .nil (some
  (.val (.bool false))) .nil) none (.node .nil none (.node .nil (some (.agg [(.val (.int .i64 1)), (.slice 1502 0 1 1)])) .nil)))), [.inRegion (opsOf c64) 2 (restOf c64 2), .code .ret], [], .run, .normal, none⟩
noncomputable def c102 : Code := partOf (bodyOf P 12) [1, 1, 1, 1, 1, 1, 1, 0]
noncomputable def c103 : Code := partOf (bodyOf P 12) [1, 1, 1, 1, 1, 1, 1, 1]
noncomputable def f104 : AFrame := ⟨12, 124, (.node (.node (.node (.node (.node .nil none (.node .nil (some (.agg [(.val (.int .i64 1)), (.slice 1502 0 1 1)])) .nil)) (some (.val (.bool false))) .nil) none (.node .nil (some (.val (.int .i64 0))) .nil)) (some
  (.ptr 1 0)) (.node .nil (some (.val (.bool true))) .nil)) (some (.val (.bool false))) (.node (.node (.node (.node .nil none (.node .nil (some (.agg [(.val (.int .i64 0)), (.val (.string ⟨#[98]⟩))])) .nil)) (some (.val (.int .i64 0))) .nil)
  (some (.sliceE 909 0 2 1)) .nil) (some (.ptr 2 0)) (.node (.node .nil (some (.val (.bool true))) .nil) (some (.val (.int .i64 0))) .nil))), [.inRegion (opsOf c102) 2 (restOf c102 2), .code c103], [], .run, .normal, none⟩
noncomputable def b105 : AB := .cells [(.val (.int .i64 1)), (.map 1867), (.val (.bool false)), (.val (.bool false)), (.val (.bool false)), (.val (.bool false)), (.val (.bool false)), (.val (.bool false)), (.val (.bool false)), (.val (.bool false)), (.val
  (.bool false)), (.val (.bool false)), (.val (.bool false)), (.val (.bool false)), (.val (.bool false)), (.val (.bool false)), (.val (.bool false)), (.val (.bool false)), (.val (.bool false)), (.val (.bool false)), (.val (.bool false)), (.val
  (.bool false)), (.val (.bool false)), (.val (.bool false)), (.val (.bool false)), (.val (.bool false)), (.val (.bool false)), (.val (.bool false)), (.val (.bool false)), (.val (.bool false)), (.val (.bool false)), (.val (.bool false)), (.val
  (.bool false)), (.val (.bool false)), (.val (.bool false)), (.val (.bool false)), (.val (.bool false)), (.val (.bool false)), (.val (.bool false))] 89 false false
noncomputable def m7 : M := ⟨f98, [f99, f100, f101, f104], ⟨(.node (.node (.node (.node .nil none (.node (.node (.node .nil none (.node (.node .nil none (.node .nil none (.node .nil (some b13) .nil))) none .nil)) none .nil) none .nil)) none (.node .nil none (.node (.node
  (.node .nil none (.node (.node .nil none (.node .nil none (.node .nil (some b89) .nil))) none .nil)) none .nil) none .nil))) (some b12) (.node .nil none (.node .nil none (.node (.node (.node (.node .nil none (.node .nil none (.node .nil (some
  b49) .nil))) none .nil) none .nil) none .nil)))) (some b11) (.node (.node (.node .nil none (.node (.node (.node .nil none (.node (.node .nil none (.node .nil none (.node .nil (some b69) .nil))) none .nil)) none .nil) none .nil)) none (.node
  .nil none (.node (.node (.node .nil none (.node (.node .nil none (.node .nil none (.node .nil (some b105) .nil))) none .nil)) none .nil) none .nil))) (some b15) (.node .nil none (.node (.node (.node (.node .nil none (.node (.node .nil none
  (.node .nil none (.node .nil (some b69) .nil))) none .nil)) none .nil) none .nil) none (.node (.node (.node .nil none (.node (.node .nil none (.node .nil none (.node .nil (some b71) .nil))) none .nil)) none .nil) none (.node (.node .nil none
  (.node .nil none (.node .nil none (.node (.node .nil (some b71) .nil) none .nil)))) none .nil)))))), 1938⟩⟩
theorem s7 : (iterA P 20000 400 m6).map (pruneM [0, 4, 5, 7, 9, 10, 11, 12, 13, 14, 15, 16, 17, 18, 19, 20, 21, 22, 23, 24, 25, 26] [[2, 4, 5, 8, 9], [2, 3, 4, 12, 15], [4, 5, 14, 15], [0, 1, 2, 4, 5, 6, 7, 8, 10, 11, 47, 48]] [0, 1, 2, 909,
  1502, 1862, 1863, 1864, 1867, 1868, 1870]) = some m7 := by kernel_rfl
end Go.Ev.Aw
