/- awake's closed self-check, piece 5. -/
import Derived.Test.YtbkalcnblhhjlaaP3
import Derived.KernelRfl
import Derived.Test.YtbkalcnblhhjlaaProg
set_option linter.unusedVariables false
set_option linter.unusedSimpArgs false
set_option linter.unnecessarySimpa false
open Go Go.Ev Go.Proofs
namespace Go.Ev.Aw
set_option maxRecDepth 1000000
noncomputable def c72 : Code := partOf (bodyOf P 41) [1, 1, 1, 0, 1, 0, 0, 1, 0, 0, 1, 1, 0, 0]
noncomputable def c73 : Code := partOf (bodyOf P 41) [1, 1, 1, 0, 1, 0, 0, 1, 0, 0, 1, 1, 0, 1]
noncomputable def f74 : AFrame := ⟨41, 34, (.node (.node (.node (.node .nil (some (.ptr 1621 0)) .nil) (some (.ptr 1609 0)) .nil) none (.node .nil (some (.ptr 1611 0)) .nil)) none (.node (.node .nil (some (.val (.map none))) .nil) (some (.ptr 1608 0)) (.node
  (.node (.node .nil (some (.agg [(.val (.int .i64 0)), (.val (.int .u8 99))])) .nil) none .nil) none .nil))), [.code c72, .beginRound, .code c73], [], .run, .normal, (some 1623)⟩
noncomputable def c75 : Code := partOf (bodyOf P 47) [1, 1, 0, 0, 1, 1, 0, 0, 1, 1, 0, 0, 1, 1, 0, 1, 0]
noncomputable def c76 : Code := partOf (bodyOf P 47) [1, 1, 0, 0, 1, 1, 0, 0, 1, 1, 0, 0, 1, 1, 0, 1, 1]
noncomputable def c77 : Code := partOf (bodyOf P 47) [1, 1, 0, 0, 1, 1, 0, 0, 1, 1, 0, 0]
noncomputable def c78 : Code := partOf (bodyOf P 47) [1, 1, 0, 0, 1, 1, 1]
noncomputable def c79 : Code := partOf (bodyOf P 47) [1, 1, 0, 0]
noncomputable def f80 : AFrame := ⟨47, 24, (.node (.node (.node (.node (.node .nil (some (.val (.int .i32 99))) .nil) none .nil) none (.node (.node .nil (some (.val (.int .u8 99))) .nil) (some (.val (.int .i64 0))) .nil)) (some (.yld 1623)) (.node (.node (.node
  .nil (some (.val (.int .i64 0))) .nil) (some (.val (.int .i64 0))) .nil) none (.node (.node .nil (some (.val (.bool true))) .nil) (some (.tuple [(.val (.bool true)), (.val (.int .i64 2)), (.val (.int .i32 99))])) .nil))) none (.node (.node
  (.node (.node .nil (some (.yld 1623)) .nil) (some (.val (.int .i64 1))) .nil) (some (.val (.int .i64 0))) (.node (.node .nil (some (.agg [(.val (.int .i64 0)), (.val (.int .u8 99))])) .nil) (some (.ptr 1625 0)) .nil)) none (.node (.node (.node
  .nil (some (.val (.int .i32 99))) .nil) (some (.val (.bool true))) .nil) (some (.val (.int .i32 99))) (.node (.node .nil (some (.val (.bool false))) .nil) (some (.val (.bool true))) .nil)))), [.inRegion (opsOf c75) 5 (restOf c75 5), .code c76,
  .inBlock 3, .inLoop c77, .inBlock 2, .inBlock 1, .code c78, .inLoop c79, .inBlock 0], [], .run, .normal, none⟩
noncomputable def c81 : Code := partOf (bodyOf P 41) [1, 1, 1, 0, 1, 0, 0, 1, 1]
noncomputable def c82 : Code := partOf (bodyOf P 41) [1, 1, 1, 0, 1, 0, 0]
noncomputable def c83 : Code := partOf (bodyOf P 41) [1, 1, 1, 1]
noncomputable def f84 : AFrame := ⟨41, 34, (.node (.node (.node (.node (.node .nil (some (.val (.bool true))) .nil) (some (.ptr 1621 0)) .nil) (some (.ptr 1609 0)) .nil) none (.node (.node (.node .nil (some (.func (.func 47) [(.agg [(.val (.int .i64 1)), (.slice
  1502 0 1 1)])] [])) .nil) none .nil) (some (.ptr 1611 0)) .nil)) none (.node (.node (.node (.node .nil (some (.agg [(.val (.int .i64 1)), (.slice 1502 0 1 1)])) .nil) none .nil) (some (.val (.map none))) .nil) (some (.ptr 1608 0)) .nil)), [.inRangeFunc
  1623, .inBlock 4, .inBlock 3, .code c81, .inLoop c82, .inBlock 2, .code c83], [.collected 1622, .collected 1612], .run, .normal, none⟩
noncomputable def c85 : Code := partOf (bodyOf P 29) [1, 1, 0]
noncomputable def c86 : Code := partOf (bodyOf P 29) [1, 1, 1]
noncomputable def f87 : AFrame := ⟨29, 50, (.node (.node (.node .nil (some (.ptr 1533 0)) .nil) none (.node (.node (.node .nil (some (.agg [(.val (.int .i64 1)), (.slice 1502 0 1 1)])) .nil) none .nil) (some (.ptr 1538 0)) .nil)) none (.node (.node .nil (some
  (.val (.bool false))) .nil) none (.node (.node (.node .nil (some (.ptr 1538 0)) .nil) none .nil) none .nil))), [.inRegion (opsOf c85) 2 (restOf c85 2), .code c86], [], .run, .normal, none⟩
noncomputable def b88 : AB := .loop .ready none 41 (.node (.node (.node (.node (.node .nil (some (.val (.bool true))) .nil) (some (.ptr 1621 0)) .nil) (some (.ptr 1609 0)) (.node .nil (some (.func (.func 47) [(.agg [(.val (.int .i64 1)), (.slice 1502 0 1 1)])]
  [])) .nil)) (some (.ptr 1538 0)) (.node (.node (.node .nil (some (.func (.func 47) [(.agg [(.val (.int .i64 1)), (.slice 1502 0 1 1)])] [])) .nil) (some (.map 1610)) .nil) (some (.ptr 1611 0)) .nil)) (some (.agg [(.val (.int .i64 1)), (.slice
  1502 0 1 1)])) (.node (.node (.node (.node .nil (some (.agg [(.val (.int .i64 1)), (.slice 1502 0 1 1)])) .nil) none .nil) (some (.val (.map none))) .nil) (some (.ptr 1608 0)) (.node (.node .nil (some (.agg [(.val (.int .i64 1)), (.slice 1502
  0 1 1)])) .nil) none .nil))) 34 #[18] c72 c73 1622
noncomputable def b89 : AB := .map [((.agg [(.val (.int .i64 0)), (.val (.int .u8 97))]), (.agg [(.val (.int .i64 0)), (.val (.int .i64 0)), (.val (.int .i64 0)), (.val (.int .i64 0)), (.val (.int .i64 0)), (.val (.int .i64 0)), (.val (.int .i64 0)), (.val
  (.int .i64 0)), (.val (.int .i64 0)), (.val (.int .i64 0)), (.val (.int .i64 0)), (.val (.int .i64 0)), (.val (.int .i64 0)), (.val (.int .i64 0)), (.val (.int .i64 0)), (.val (.int .i64 0)), (.val (.int .i64 0)), (.val (.int .i64 0)), (.val
  (.int .i64 0)), (.val (.int .i64 0)), (.val (.int .i64 0)), (.val (.int .i64 0)), (.val (.int .i64 0)), (.val (.int .i64 0)), (.val (.int .i64 0)), (.val (.int .i64 0)), (.val (.int .i64 0)), (.val (.int .i64 0)), (.val (.int .i64 0)), (.val
  (.int .i64 0)), (.val (.int .i64 0)), (.val (.int .i64 0)), (.val (.int .i64 0)), (.val (.int .i64 0)), (.val (.int .i64 0)), (.val (.int .i64 0)), (.val (.int .i64 0))]), 0)] 1
noncomputable def b90 : AB := .cells [(.val (.bool true))] 4 false false
noncomputable def b91 : AB := .map [((.agg [(.val (.int .i64 0)), (.val (.int .u8 97))]), (.val (.bool true)), 0), ((.agg [(.val (.int .i64 0)), (.val (.int .u8 99))]), (.val (.bool true)), 2), ((.agg [(.val (.int .i64 0)), (.val (.int .u8 100))]), (.val (.bool
  true)), 3), ((.agg [(.val (.int .i64 0)), (.val (.int .u8 101))]), (.val (.bool true)), 4)] 5
noncomputable def m5 : M := ⟨f74, [f80, f84, f87, f65, f68], ⟨(.node (.node (.node (.node (.node (.node .nil none (.node .nil none (.node .nil none (.node .nil none (.node (.node .nil (some b69) .nil) none .nil))))) none .nil) none (.node .nil none (.node (.node .nil none
  (.node (.node (.node .nil none (.node .nil (some b88) .nil)) none .nil) none .nil)) none .nil))) (some b13) (.node .nil none (.node (.node (.node .nil none (.node (.node (.node .nil none (.node .nil (some (.cells [(.map 1610)] 92 false false))
  .nil)) none .nil) none .nil)) none .nil) none .nil))) (some b12) (.node (.node (.node (.node (.node (.node (.node (.node .nil none (.node .nil (some b89) .nil)) none .nil) none .nil) none .nil) none .nil) none .nil) none (.node (.node (.node
  .nil none (.node (.node (.node .nil none (.node .nil (some (.cells [(.ptr 1538 0)] 70 false false)) .nil)) none .nil) none .nil)) none .nil) none (.node (.node .nil none (.node (.node (.node .nil none (.node .nil (some (.strIter ⟨#[97, 98,
  99, 100, 101]⟩ 3)) .nil)) none .nil) none .nil)) none .nil))) none (.node (.node .nil none (.node (.node .nil none (.node (.node (.node .nil none (.node .nil (some b90) .nil)) none .nil) none .nil)) none .nil)) none (.node (.node (.node (.node
  .nil none (.node .nil none (.node .nil (some b49) .nil))) none .nil) none .nil) none (.node .nil none (.node .nil none (.node .nil none (.node .nil none (.node (.node .nil (some b15) .nil) none .nil))))))))) (some b11) (.node (.node (.node
  .nil none (.node (.node (.node .nil none (.node (.node (.node .nil none (.node .nil (some b69) .nil)) none .nil) none .nil)) none .nil) none .nil)) none (.node .nil none (.node (.node (.node .nil none (.node (.node (.node .nil none (.node .nil
  (some (.deferred true)) .nil)) none .nil) none .nil)) none .nil) none .nil))) (some b15) (.node (.node (.node (.node (.node (.node (.node (.node .nil none (.node .nil (some b70) .nil)) none .nil) none .nil) none .nil) none .nil) none .nil)
  none (.node (.node (.node .nil none (.node (.node (.node .nil none (.node .nil (some b91) .nil)) none .nil) none .nil)) none .nil) none .nil)) none (.node (.node .nil none (.node (.node .nil none (.node (.node (.node .nil none (.node .nil (some
  (.deferred true)) .nil)) none .nil) none .nil)) none .nil)) none (.node .nil none (.node (.node .nil none (.node .nil none (.node .nil none (.node (.node .nil (some b71) .nil) none .nil)))) none .nil)))))), 1694⟩⟩
theorem s5 : (iterA P 20000 400 m4).map (pruneM [2, 3, 4, 5, 7, 18] [[1, 4, 6, 8, 9, 10, 11, 12, 13, 14, 15, 16, 17, 18, 19, 20, 21, 22], [2, 3, 4, 5, 7, 15, 16, 17], [3, 4, 5, 17, 18], [4, 5, 14, 15], [0, 1, 2, 3, 4, 5, 6, 7, 8, 9, 41, 42]]
  [0, 1, 2, 3, 909, 1502, 1503, 1533, 1537, 1538, 1608, 1609, 1610, 1611, 1612, 1621, 1622, 1623, 1625]) = some m5 := by kernel_rfl
end Go.Ev.Aw
