/- awake's closed self-check, piece 6. -/
import Derived.Test.YtbkalcnblhhjlaaP4
import Derived.KernelRfl
import Derived.Test.YtbkalcnblhhjlaaProg
set_option linter.unusedVariables false
set_option linter.unusedSimpArgs false
set_option linter.unnecessarySimpa false
open Go Go.Ev Go.Proofs
namespace Go.Ev.Aw
set_option maxRecDepth 1000000
noncomputable def f92 : AFrame := ⟨47, 24, (.node (.node (.node (.node (.node .nil (some (.val (.int .i32 97))) .nil) none .nil) none (.node (.node .nil (some (.val (.int .u8 97))) .nil) (some (.val (.int .i64 0))) .nil)) (some (.yld 1783)) (.node (.node (.node
  .nil (some (.val (.int .i64 0))) .nil) (some (.val (.int .i64 0))) .nil) none (.node (.node .nil (some (.val (.bool true))) .nil) (some (.tuple [(.val (.bool true)), (.val (.int .i64 0)), (.val (.int .i32 97))])) .nil))) none (.node (.node
  (.node (.node .nil (some (.yld 1783)) .nil) (some (.val (.int .i64 1))) .nil) (some (.val (.int .i64 0))) (.node (.node .nil (some (.agg [(.val (.int .i64 0)), (.val (.int .u8 97))])) .nil) (some (.ptr 1785 0)) .nil)) none (.node (.node (.node
  .nil (some (.val (.int .i32 97))) .nil) (some (.val (.bool true))) .nil) (some (.val (.int .i32 97))) (.node (.node .nil (some (.val (.bool false))) .nil) (some (.val (.bool true))) .nil)))), [.inLoop c77, .inBlock 2, .inBlock 1, .code c78,
  .inLoop c79, .inBlock 0], [], .run, .normal, none⟩
noncomputable def f93 : AFrame := ⟨41, 34, (.node (.node (.node (.node (.node .nil (some (.val (.bool true))) .nil) (some (.ptr 1781 0)) .nil) (some (.ptr 1609 0)) .nil) none (.node (.node (.node .nil (some (.func (.func 47) [(.agg [(.val (.int .i64 1)), (.slice
  1502 0 1 1)])] [])) .nil) none .nil) (some (.ptr 1611 0)) .nil)) none (.node (.node (.node (.node (.node .nil (some (.val (.bool true))) .nil) (some (.agg [(.val (.int .i64 1)), (.slice 1502 0 1 1)])) .nil) none .nil) (some (.val (.map none)))
  .nil) (some (.ptr 1608 0)) .nil)), [.inRangeFunc 1783, .inBlock 4, .inBlock 3, .code c81, .inLoop c82, .inBlock 2, .code c83], [.collected 1782, .collected 1622, .collected 1612], .run, .normal, none⟩
noncomputable def b94 : AB := .loop .ready none 41 (.node (.node (.node (.node (.node .nil (some (.val (.bool true))) .nil) (some (.ptr 1781 0)) .nil) (some (.ptr 1609 0)) .nil) none (.node (.node (.node .nil (some (.func (.func 47) [(.agg [(.val (.int .i64
  1)), (.slice 1502 0 1 1)])] [])) .nil) none .nil) (some (.ptr 1611 0)) .nil)) none (.node (.node (.node (.node (.node .nil (some (.val (.bool true))) .nil) (some (.agg [(.val (.int .i64 1)), (.slice 1502 0 1 1)])) .nil) none .nil) (some (.val
  (.map none))) .nil) (some (.ptr 1608 0)) .nil)) 34 #[18] c72 c73 1782
noncomputable def b95 : AB := .cells [(.val (.bool false))] 4 false false
noncomputable def b96 : AB := .map [((.agg [(.val (.int .i64 0)), (.val (.int .u8 97))]), (.val (.bool true)), 0)] 5
noncomputable def m6 : M := ⟨f92, [f93, f87, f65, f68], ⟨(.node (.node (.node (.node (.node (.node .nil none (.node .nil none (.node .nil none (.node .nil none (.node (.node .nil (some b69) .nil) none .nil))))) none .nil) none (.node .nil none (.node .nil none (.node .nil
  none (.node .nil none (.node (.node .nil none (.node .nil (some b94) .nil)) none .nil)))))) (some b13) (.node .nil none (.node (.node (.node .nil none (.node (.node (.node .nil none (.node .nil (some (.cells [(.map 1610)] 92 false false)) .nil))
  none .nil) none .nil)) none .nil) none .nil))) (some b12) (.node (.node (.node (.node (.node (.node (.node (.node .nil none (.node .nil (some b89) .nil)) none .nil) none .nil) none .nil) none .nil) none .nil) none (.node (.node (.node .nil
  none (.node (.node (.node .nil none (.node .nil (some (.cells [(.ptr 1538 0)] 70 false false)) .nil)) none .nil) none .nil)) none .nil) none (.node .nil none (.node .nil none (.node .nil none (.node (.node .nil none (.node .nil (some (.strIter
  ⟨#[97, 98, 99, 100, 101]⟩ 1)) .nil)) none .nil)))))) none (.node (.node .nil none (.node .nil none (.node .nil none (.node .nil none (.node (.node .nil none (.node .nil (some b95) .nil)) none .nil))))) none (.node (.node (.node (.node .nil
  none (.node .nil none (.node .nil (some b49) .nil))) none .nil) none .nil) none (.node .nil none (.node .nil none (.node .nil none (.node .nil none (.node (.node .nil (some b15) .nil) none .nil))))))))) (some b11) (.node (.node (.node .nil
  none (.node (.node (.node .nil none (.node (.node (.node .nil none (.node .nil (some b69) .nil)) none .nil) none .nil)) none .nil) none .nil)) none (.node .nil none (.node (.node (.node .nil none (.node (.node (.node .nil none (.node .nil (some
  (.deferred true)) .nil)) none .nil) none .nil)) none .nil) none .nil))) (some b15) (.node (.node (.node (.node (.node (.node (.node (.node .nil none (.node .nil (some b70) .nil)) none .nil) none .nil) none .nil) none .nil) none .nil) none (.node
  (.node (.node .nil none (.node (.node (.node .nil none (.node .nil (some b96) .nil)) none .nil) none .nil)) none .nil) none .nil)) none (.node (.node .nil none (.node (.node .nil none (.node (.node (.node .nil none (.node .nil (some (.deferred
  true)) .nil)) none .nil) none .nil)) none (.node .nil none (.node .nil none (.node (.node .nil none (.node .nil (some (.deferred true)) .nil)) none .nil))))) none (.node .nil none (.node (.node .nil none (.node .nil none (.node .nil none (.node
  (.node .nil (some b71) .nil) none .nil)))) none .nil)))))), 1825⟩⟩
theorem s6 : (iterA P 20000 400 m5).map (pruneM [1, 4, 6, 8, 9, 10, 11, 12, 13, 14, 15, 16, 17, 18, 19, 20, 21, 22] [[2, 3, 4, 5, 7, 15, 16, 17, 32], [3, 4, 5, 17, 18], [4, 5, 14, 15], [0, 1, 2, 3, 4, 5, 6, 7, 8, 9, 41, 42]] [0, 1, 2, 3, 909,
  1502, 1503, 1533, 1537, 1538, 1608, 1609, 1610, 1611, 1612, 1622, 1781, 1782, 1783, 1785]) = some m6 := by kernel_rfl
end Go.Ev.Aw
