/- awake's closed self-check, piece 3. -/
import Derived.Test.YtbkalcnblhhjlaaP1
import Derived.KernelRfl
import Derived.Test.YtbkalcnblhhjlaaProg
set_option linter.unusedVariables false
set_option linter.unusedSimpArgs false
set_option linter.unnecessarySimpa false
open Go Go.Ev Go.Proofs
namespace Go.Ev.Aw
set_option maxRecDepth 1000000
noncomputable def c29 : Code := partOf (bodyOf P 31) [1, 1, 0, 1, 0, 0, 1, 0]
noncomputable def c30 : Code := partOf (bodyOf P 31) [1, 1, 0, 1, 0, 0, 1, 1]
noncomputable def c31 : Code := partOf (bodyOf P 31) [1, 1, 0, 1, 0, 0]
noncomputable def c32 : Code := partOf (bodyOf P 31) [1, 1, 1]
noncomputable def f33 : AFrame := ⟨31, 40, (.node (.node (.node (.node (.node (.node .nil (some (.val (.bool false))) .nil) none .nil) none (.node (.node .nil (some (.val (.int .i64 1))) .nil) (some (.val (.bool true))) .nil)) (some (.val (.int .i64 0))) (.node
  (.node (.node .nil (some (.slice 0 0 0 2)) .nil) none .nil) none (.node .nil (some (.agg [(.val (.int .i64 1)), (.slice 0 0 2 2)])) .nil))) (some (.ptr 983 0)) (.node (.node (.node (.node .nil (some (.slice 0 0 2 2)) .nil) none .nil) none (.node
  .nil (some (.ptr 0 0)) .nil)) none (.node (.node (.node .nil (some (.val (.bool false))) .nil) (some (.val (.int .i64 2))) .nil) none (.node .nil (some (.val (.bool true))) .nil)))) none (.node (.node (.node (.node (.node .nil (some (.ptr 983
  1)) .nil) none .nil) none (.node .nil (some (.val (.int .i64 0))) .nil)) (some (.ptr 984 0)) (.node (.node (.node .nil (some (.agg [(.val (.int .i64 0)), (.val (.int .u8 97)), (.val (.int .i64 0)), (.val (.string ⟨#[98, 98]⟩))])) .nil) (some
  (.slice 0 0 2 2)) .nil) none (.node .nil (some (.agg [(.val (.int .i64 0)), (.val (.int .u8 97)), (.val (.int .i64 0)), (.val (.string ⟨#[98, 98]⟩))])) .nil))) (some (.val (.bool false))) (.node (.node (.node (.node .nil (some (.val (.int .i64
  0))) .nil) none .nil) none (.node .nil (some (.agg [(.val (.int .i64 0)), (.val (.int .u8 97)), (.val (.int .i64 0)), (.val (.string ⟨#[98, 98]⟩))])) .nil)) none (.node (.node (.node .nil (some (.val (.bool false))) .nil) (some (.val (.int
  .i64 1))) .nil) none (.node .nil (some (.val (.bool false))) .nil))))), [.code c29, .code c30, .inLoop c31, .inBlock 0, .code c32], [], .run, .normal, none⟩
noncomputable def c34 : Code := partOf (bodyOf P 23) [1, 0, 0]
noncomputable def c35 : Code := partOf (bodyOf P 23) [1, 0, 1]
noncomputable def c36 : Code := partOf (bodyOf P 23) [1, 1]
noncomputable def f37 : AFrame := ⟨23, 6, (.node (.node (.node .nil (some (.agg [(.val (.int .i64 1)), (.slice 0 0 2 2)])) .nil) none .nil) none (.node .nil (some (.val (.int .i64 0))) .nil)), [.inRegion (opsOf c34) 1 (restOf c34 1), .code c35, .code c36],
  [], .run, .normal, none⟩
noncomputable def c38 : Code := partOf (bodyOf P 15) [1, 0, 0]
noncomputable def c39 : Code := partOf (bodyOf P 15) [1, 0, 1]
noncomputable def c40 : Code := partOf (bodyOf P 15) [1, 1]
noncomputable def f41 : AFrame := ⟨15, 24, (.node (.node .nil (some (.slice 980 0 2 2)) .nil) none (.node (.node (.node .nil (some (.agg [(.val (.int .i64 1)), (.slice 0 0 2 2)])) .nil) (some (.val (.int .i64 0))) .nil) (some (.ptr 981 0)) .nil)), [.inRegion
  (opsOf c38) 1 (restOf c38 1), .code c39, .code c40], [], .run, .normal, none⟩
noncomputable def c42 : Code := partOf (bodyOf P 20) [1, 0, 0]
noncomputable def c43 : Code := partOf (bodyOf P 20) [1, 0, 1]
noncomputable def c44 : Code := partOf (bodyOf P 20) [1, 1]
noncomputable def f45 : AFrame := ⟨20, 25, (.node (.node (.node (.node .nil (some (.val (.int .i64 0))) .nil) (some (.ptr 977 0)) .nil) none (.node (.node .nil (some (.agg [(.val (.int .i64 1)), (.slice 0 0 2 2)])) .nil) (some (.ptr 979 0)) .nil)) none (.node
  (.node .nil (some (.ptr 978 0)) (.node .nil (some (.slice 980 0 2 2)) .nil)) none (.node .nil (some (.val (.bool false))) .nil))), [.inRegion (opsOf c42) 4 (restOf c42 4), .code c43, .code c44], [], .run, .normal, none⟩
noncomputable def c46 : Code := partOf (bodyOf P 12) [1, 1, 1, 1, 0]
noncomputable def c47 : Code := partOf (bodyOf P 12) [1, 1, 1, 1, 1]
noncomputable def f48 : AFrame := ⟨12, 124, (.node (.node (.node (.node (.node (.node .nil (some (.agg [(.val (.int .i64 1)), (.slice 0 0 2 2)])) .nil) none .nil) none .nil) (some (.ptr 3 0)) .nil) (some (.ptr 1 0)) (.node (.node (.node (.node .nil (some (.agg
  [(.val (.int .i64 0)), (.val (.string ⟨#[97]⟩))])) .nil) none .nil) none .nil) (some (.val (.bool true))) .nil)) (some (.val (.bool false))) (.node (.node (.node (.node (.node .nil (some (.agg [(.val (.int .i64 0)), (.val (.string ⟨#[98]⟩))]))
  .nil) none .nil) none .nil) (some (.sliceE 909 0 2 1)) .nil) (some (.ptr 2 0)) (.node .nil (some (.val (.int .i64 0))) .nil))), [.inRegion (opsOf c46) 3 (restOf c46 3), .code c47], [], .run, .normal, none⟩
noncomputable def b49 : AB := .cells [(.val (.int .i64 0)), (.val (.int .i64 1))] 3 true false
noncomputable def b50 : AB := .cells [(.val (.int .i64 0)), (.val (.int .u8 97)), (.val (.int .i64 0)), (.val (.string ⟨#[98, 98]⟩))] 54 false false
noncomputable def b51 : AB := .cells [(.val (.int .i64 0)), (.val (.string ⟨#[98]⟩)), (.val (.int .i64 0)), (.val (.string ⟨#[97]⟩))] 39 false false
noncomputable def m3 : M := ⟨f33, [f37, f41, f45, f48], ⟨(.node (.node (.node (.node .nil none (.node .nil none (.node (.node .nil none (.node .nil none (.node .nil none (.node .nil (some b12) .nil)))) none .nil))) (some b13) (.node (.node .nil none (.node (.node .nil none
  (.node .nil none (.node .nil none (.node .nil (some b15) .nil)))) none .nil)) none .nil)) (some b12) (.node (.node (.node .nil none (.node (.node .nil none (.node .nil none (.node .nil none (.node .nil (some b12) .nil)))) none .nil)) none .nil)
  none (.node (.node .nil none (.node (.node .nil none (.node .nil none (.node .nil none (.node .nil (some b12) .nil)))) none .nil)) none (.node (.node (.node (.node .nil none (.node .nil none (.node .nil (some b49) .nil))) none .nil) none .nil)
  none .nil)))) (some b11) (.node (.node (.node .nil none (.node .nil none (.node (.node .nil none (.node .nil none (.node .nil none (.node .nil (some b50) .nil)))) none .nil))) none (.node (.node .nil none (.node (.node .nil none (.node .nil
  none (.node .nil none (.node .nil (some b51) .nil)))) none .nil)) none .nil)) (some b15) (.node (.node (.node .nil none (.node (.node .nil none (.node .nil none (.node .nil none (.node .nil (some b13) .nil)))) none .nil)) none .nil) none .nil))),
  1002⟩⟩
theorem s3 : (iterA P 20000 400 m2).map (pruneM [1, 2, 3, 4, 20, 21, 22, 23, 24, 25, 26, 27, 28, 29, 30, 31, 32, 33, 34, 35, 36, 37, 38, 39] [[2, 3], [1, 2, 4, 8], [3, 4, 5, 6, 7, 9, 12], [0, 1, 2, 3, 4, 5, 6, 31, 32, 33]] [0, 1, 2, 3, 909, 977,
  978, 979, 980, 981, 983, 984]) = some m3 := by kernel_rfl
end Go.Ev.Aw
