/- awake's run, in pieces. -/
import Derived.Test.YtmlfbcahdiomoaaDoorP4
import Derived.KernelRfl
import Derived.Test.YtmlfbcahdiomoaaDoorProg
set_option linter.unusedVariables false
set_option linter.unusedSimpArgs false
set_option linter.unnecessarySimpa false
open Go Go.Ev Go.Proofs
namespace Go.Ev.Aw
set_option maxRecDepth 1000000
noncomputable def c175 : Code := partOf (bodyOf P 84) [0, 0, 1]
noncomputable def f176 : AFrame := ⟨84, 14, (.node (.node (.node .nil (some (.val (.int .u16 9))) .nil) (some (.ptr 2867 0)) .nil) (some (.yld 2869)) (.node (.node .nil (some (.val (.bool true))) .nil) none .nil)), [.code c175, .inLoop c85, .inBlock 0], [],
  .run, .normal, none⟩
noncomputable def f177 : AFrame := ⟨96, 23, .nil, [.inRangeFunc 2869, .inBlock 0], [.collected 2868], .run, .normal, none⟩
noncomputable def f178 : AFrame := ⟨88, 52, (.node (.node (.node (.node (.node .nil (some (.sliceE 2684 0 2 9)) .nil) none (.node .nil (some (.ptr 2098 0)) .nil)) (some (.ptr 2729 0)) (.node (.node .nil (some (.ptr 2684 9)) (.node .nil (some (.val (.int .i64
  1))) .nil)) none .nil)) none (.node (.node (.node .nil (some (.val (.int .i64 1))) .nil) none (.node .nil (some (.agg [(.val (.int .i8 2)), (.val (.int .i8 0)), (.val (.int .i8 3)), (.val (.int .i8 1)), (.val (.int .i8 4)), (.val (.int .i8
  5)), (.val (.int .i8 6)), (.val (.int .i8 7)), (.val (.int .i8 8))])) .nil)) none (.node (.node .nil (some (.ptr 2098 0)) .nil) none .nil))) none (.node (.node (.node (.node .nil (some (.val (.int .i64 2))) .nil) none (.node .nil (some (.ptr
  1766 0)) .nil)) none (.node (.node .nil (some (.agg [(.val (.int .i8 2)), (.val (.int .i8 0)), (.val (.int .i8 3)), (.val (.int .i8 1)), (.val (.int .i8 4)), (.val (.int .i8 5)), (.val (.int .i8 6)), (.val (.int .i8 7)), (.val (.int .i8 8))]))
  .nil) none .nil)) (some (.ptr 2728 0)) (.node (.node (.node .nil (some (.val (.bool true))) .nil) none (.node .nil (some (.func (.func 96) [] [(.ptr 2854 0), (.ptr 2853 0)])) .nil)) (some (.ptr 2846 0)) (.node (.node .nil (some (.ptr 2098 0))
  .nil) none .nil)))), [.inRangeFunc 2856, .inBlock 2, .inBlock 1, .code c26, .inLoop c27, .inBlock 0], [.collected 2855, .collected 2739], .run, .normal, none⟩
noncomputable def f179 : AFrame := ⟨93, 13, (.node .nil none (.node (.node .nil (some (.val (.slice none 0 0))) .nil) (some (.ptr 2725 0)) .nil)), [.inRangeFunc 2727, .inBlock 0, .code c29], [.collected 2726], .run, .normal, none⟩
noncomputable def f180 : AFrame := ⟨74, 26, (.node (.node (.node (.node (.node .nil (some (.sliceE 2687 0 2 9)) .nil) (some (.sliceE 2687 0 2 9)) (.node .nil (some (.slice 2723 0 1 1)) .nil)) none (.node (.node .nil (some (.func (.func 88) [(.ptr 2098 0)]
  [])) .nil) none .nil)) none (.node (.node (.node .nil (some (.val (.bool true))) .nil) none .nil) (some (.sliceE 2724 0 4 1)) (.node (.node .nil (some (.sliceE 2485 0 3 1)) .nil) none .nil))) none (.node (.node (.node (.node .nil (some (.val
  (.int .i64 2))) .nil) none (.node .nil (some (.sliceE 2724 0 4 1)) .nil)) (some (.val (.slice none 0 0))) (.node (.node .nil (some (.sliceE 2687 0 2 9)) .nil) none .nil)) none (.node (.node (.node .nil (some (.ptr 2098 0)) .nil) none .nil)
  (some (.ptr 2098 0)) (.node (.node .nil (some (.sliceE 2687 0 2 9)) .nil) none .nil)))), [.inRegion (opsOf c33) 2 (restOf c33 2), .inLoop c34, .inBlock 0, .code c35], [], .run, .normal, none⟩
noncomputable def b181 : AB := .loop .ready none 93 (.node (.node .nil (some (.func (.func 88) [(.ptr 2098 0)] [])) .nil) (some (.val (.slice none 0 0))) (.node (.node .nil (some (.val (.slice none 0 0))) .nil) (some (.ptr 2725 0)) (.node .nil (some (.func
  (.func 88) [(.ptr 2098 0)] [])) .nil))) 13 #[7] c43 c44 2726
noncomputable def b182 : AB := .cells [(.val (.int .i8 0)), (.val (.int .i8 3)), (.val (.int .i8 1)), (.val (.int .i8 2)), (.val (.int .i8 4)), (.val (.int .i8 5)), (.val (.int .i8 6)), (.val (.int .i8 7)), (.val (.int .i8 8))] 82 true false
noncomputable def b183 : AB := .cells [(.sliceE 2687 0 2 9)] 76 false false
noncomputable def b184 : AB := .cells [(.val (.int .u16 9))] 86 false false
noncomputable def b185 : AB := .cells [(.val (.int .i64 1))] 3 false false
noncomputable def b186 : AB := .cells [(.sliceE 2810 0 1 9)] 76 false false
noncomputable def b187 : AB := .loop .ready none 96 (.node (.node (.node (.node .nil (some (.val (.int .i64 1))) .nil) (some (.ptr 2857 0)) (.node .nil (some (.ptr 1766 1)) .nil)) (some (.ptr 2854 0)) (.node (.node .nil (some (.val (.int .i64 1))) .nil) none
  (.node .nil (some (.val (.int .u16 9))) .nil))) (some (.yld 2856)) (.node (.node (.node .nil (some (.ptr 1766 0)) .nil) (some (.ptr 2859 0)) (.node .nil (some (.ptr 1766 2)) .nil)) (some (.ptr 2853 0)) (.node (.node .nil (some (.ptr 1766 0))
  .nil) (some (.agg [(.val (.int .i8 2)), (.val (.int .i8 0)), (.val (.int .i8 3)), (.val (.int .i8 1)), (.val (.int .i8 4)), (.val (.int .i8 5)), (.val (.int .i8 6)), (.val (.int .i8 7)), (.val (.int .i8 8))])) (.node .nil (some (.func (.func
  84) [] [(.ptr 2867 0)])) .nil)))) 23 #[15] c53 c54 2868
noncomputable def b188 : AB := .loop .ready none 88 (.node (.node (.node (.node (.node .nil (some (.sliceE 2684 0 2 9)) .nil) none (.node .nil (some (.ptr 2098 0)) .nil)) (some (.ptr 2729 0)) (.node (.node .nil (some (.ptr 2684 9)) (.node .nil (some (.val
  (.int .i64 1))) .nil)) (some (.sliceE 2684 0 2 9)) .nil)) (some (.yld 2727)) (.node (.node (.node .nil (some (.val (.int .i64 1))) .nil) (some (.ptr 2098 0)) (.node .nil (some (.agg [(.val (.int .i8 2)), (.val (.int .i8 0)), (.val (.int .i8
  3)), (.val (.int .i8 1)), (.val (.int .i8 4)), (.val (.int .i8 5)), (.val (.int .i8 6)), (.val (.int .i8 7)), (.val (.int .i8 8))])) .nil)) none (.node (.node .nil (some (.ptr 2098 0)) .nil) (some (.ptr 2098 0)) .nil))) (some (.ptr 2098 0))
  (.node (.node (.node (.node .nil (some (.val (.int .i64 2))) .nil) (some (.ptr 2098 0)) (.node .nil (some (.ptr 1766 0)) .nil)) (some (.sliceE 2684 0 2 9)) (.node (.node .nil (some (.agg [(.val (.int .i8 2)), (.val (.int .i8 0)), (.val (.int
  .i8 3)), (.val (.int .i8 1)), (.val (.int .i8 4)), (.val (.int .i8 5)), (.val (.int .i8 6)), (.val (.int .i8 7)), (.val (.int .i8 8))])) .nil) (some (.ptr 2098 0)) .nil)) (some (.ptr 2728 0)) (.node (.node (.node .nil (some (.val (.bool true)))
  .nil) (some (.ptr 2098 2)) (.node .nil (some (.func (.func 96) [] [(.ptr 2854 0), (.ptr 2853 0)])) .nil)) (some (.ptr 2846 0)) (.node (.node .nil (some (.ptr 2098 0)) .nil) (some (.ptr 2098 2)) .nil)))) 52 #[27] c57 c58 2855
noncomputable def b189 : AB := .cells [(.slice 2096 0 1 1), (.sliceE 2244 0 2 9), (.sliceE 2483 0 2 9), (.sliceE 2687 0 2 9)] 76 true false
noncomputable def b190 : AB := .cells [(.ptr 1766 0), (.map 2090), (.sliceE 2807 0 1 9)] 125 false false
noncomputable def b191 : AB := .map [((.agg [(.val (.int .i8 0)), (.val (.int .i8 1)), (.val (.int .i8 2)), (.val (.int .i8 3)), (.val (.int .i8 4)), (.val (.int .i8 5)), (.val (.int .i8 6)), (.val (.int .i8 7)), (.val (.int .i8 8))]), (.agg [(.val (.int .i8
  0)), (.val (.int .i8 1)), (.val (.int .i8 2)), (.val (.int .i8 3)), (.val (.int .i8 4)), (.val (.int .i8 5)), (.val (.int .i8 6)), (.val (.int .i8 7)), (.val (.int .i8 8))]), 0), ((.agg [(.val (.int .i8 1)), (.val (.int .i8 0)), (.val (.int
  .i8 2)), (.val (.int .i8 3)), (.val (.int .i8 4)), (.val (.int .i8 5)), (.val (.int .i8 6)), (.val (.int .i8 7)), (.val (.int .i8 8))]), (.agg [(.val (.int .i8 0)), (.val (.int .i8 1)), (.val (.int .i8 2)), (.val (.int .i8 3)), (.val (.int
  .i8 4)), (.val (.int .i8 5)), (.val (.int .i8 6)), (.val (.int .i8 7)), (.val (.int .i8 8))]), 1), ((.agg [(.val (.int .i8 2)), (.val (.int .i8 1)), (.val (.int .i8 0)), (.val (.int .i8 3)), (.val (.int .i8 4)), (.val (.int .i8 5)), (.val (.int
  .i8 6)), (.val (.int .i8 7)), (.val (.int .i8 8))]), (.agg [(.val (.int .i8 0)), (.val (.int .i8 1)), (.val (.int .i8 2)), (.val (.int .i8 3)), (.val (.int .i8 4)), (.val (.int .i8 5)), (.val (.int .i8 6)), (.val (.int .i8 7)), (.val (.int
  .i8 8))]), 2), ((.agg [(.val (.int .i8 1)), (.val (.int .i8 3)), (.val (.int .i8 2)), (.val (.int .i8 0)), (.val (.int .i8 4)), (.val (.int .i8 5)), (.val (.int .i8 6)), (.val (.int .i8 7)), (.val (.int .i8 8))]), (.agg [(.val (.int .i8 1)),
  (.val (.int .i8 0)), (.val (.int .i8 2)), (.val (.int .i8 3)), (.val (.int .i8 4)), (.val (.int .i8 5)), (.val (.int .i8 6)), (.val (.int .i8 7)), (.val (.int .i8 8))]), 3), ((.agg [(.val (.int .i8 2)), (.val (.int .i8 1)), (.val (.int .i8
  3)), (.val (.int .i8 0)), (.val (.int .i8 4)), (.val (.int .i8 5)), (.val (.int .i8 6)), (.val (.int .i8 7)), (.val (.int .i8 8))]), (.agg [(.val (.int .i8 2)), (.val (.int .i8 1)), (.val (.int .i8 0)), (.val (.int .i8 3)), (.val (.int .i8
  4)), (.val (.int .i8 5)), (.val (.int .i8 6)), (.val (.int .i8 7)), (.val (.int .i8 8))]), 4), ((.agg [(.val (.int .i8 1)), (.val (.int .i8 3)), (.val (.int .i8 0)), (.val (.int .i8 2)), (.val (.int .i8 4)), (.val (.int .i8 5)), (.val (.int
  .i8 6)), (.val (.int .i8 7)), (.val (.int .i8 8))]), (.agg [(.val (.int .i8 1)), (.val (.int .i8 3)), (.val (.int .i8 2)), (.val (.int .i8 0)), (.val (.int .i8 4)), (.val (.int .i8 5)), (.val (.int .i8 6)), (.val (.int .i8 7)), (.val (.int
  .i8 8))]), 5), ((.agg [(.val (.int .i8 2)), (.val (.int .i8 0)), (.val (.int .i8 3)), (.val (.int .i8 1)), (.val (.int .i8 4)), (.val (.int .i8 5)), (.val (.int .i8 6)), (.val (.int .i8 7)), (.val (.int .i8 8))]), (.agg [(.val (.int .i8 2)),
  (.val (.int .i8 1)), (.val (.int .i8 3)), (.val (.int .i8 0)), (.val (.int .i8 4)), (.val (.int .i8 5)), (.val (.int .i8 6)), (.val (.int .i8 7)), (.val (.int .i8 8))]), 6), ((.agg [(.val (.int .i8 0)), (.val (.int .i8 3)), (.val (.int .i8
  1)), (.val (.int .i8 2)), (.val (.int .i8 4)), (.val (.int .i8 5)), (.val (.int .i8 6)), (.val (.int .i8 7)), (.val (.int .i8 8))]), (.agg [(.val (.int .i8 1)), (.val (.int .i8 3)), (.val (.int .i8 0)), (.val (.int .i8 2)), (.val (.int .i8
  4)), (.val (.int .i8 5)), (.val (.int .i8 6)), (.val (.int .i8 7)), (.val (.int .i8 8))]), 7)] 8
noncomputable def b192 : AB := .cells [(.val (.int .i8 2)), (.val (.int .i8 0)), (.val (.int .i8 3)), (.val (.int .i8 1)), (.val (.int .i8 4)), (.val (.int .i8 5)), (.val (.int .i8 6)), (.val (.int .i8 7)), (.val (.int .i8 8))] 82 false false
noncomputable def m11 : M := ⟨f176, [f177, f178, f179, f148, f180, f150, f137, f140], ⟨(.node (.node (.node (.node (.node (.node (.node (.node .nil none (.node (.node .nil none (.node (.node .nil (some b76) .nil) none .nil)) none .nil)) none .nil) none .nil) none .nil) (some
  b20) (.node (.node .nil none (.node (.node (.node .nil none (.node .nil none (.node (.node .nil (some (.deferred true)) .nil) none .nil))) none (.node (.node .nil none (.node (.node .nil (some b181) .nil) none .nil)) none .nil)) none .nil))
  none (.node .nil none (.node .nil none (.node .nil none (.node (.node .nil none (.node (.node .nil (some b182) .nil) none .nil)) none .nil)))))) none (.node (.node (.node .nil none (.node (.node .nil none (.node (.node .nil none (.node (.node
  .nil (some b183) .nil) none .nil)) none .nil)) none .nil)) none (.node .nil none (.node (.node (.node .nil none (.node .nil none (.node (.node .nil (some b184) .nil) none .nil))) none (.node (.node .nil none (.node (.node .nil (some (.deferred
  true)) .nil) none .nil)) none (.node (.node (.node .nil (some b66) .nil) none .nil) none .nil))) none .nil))) none (.node (.node .nil none (.node (.node (.node .nil none (.node .nil none (.node (.node .nil (some b185) .nil) none .nil))) none
  .nil) none .nil)) none .nil))) none (.node (.node .nil none (.node (.node .nil none (.node (.node (.node .nil none (.node .nil none (.node (.node .nil (some (.cells [(.yld 2856)] 133 false false)) .nil) none .nil))) none (.node (.node .nil
  none (.node (.node .nil (some (.cells [(.yld 2727)] 133 false false)) .nil) none .nil)) none .nil)) none .nil)) none .nil)) none (.node (.node (.node .nil none (.node (.node (.node .nil none (.node .nil none (.node (.node .nil (some (.cells
  [(.ptr 1766 0)] 75 false false)) .nil) none .nil))) none (.node (.node .nil none (.node (.node .nil (some b186) .nil) none .nil)) none .nil)) none .nil)) none (.node .nil none (.node (.node (.node .nil none (.node .nil none (.node (.node .nil
  (some b187) .nil) none .nil))) none .nil) none .nil))) none .nil))) none (.node (.node (.node (.node .nil none (.node .nil none (.node (.node (.node (.node (.node (.node .nil (some b47) .nil) none .nil) none .nil) none .nil) none .nil) none
  .nil))) none (.node (.node .nil none (.node (.node (.node .nil none (.node .nil none (.node (.node .nil (some b188) .nil) none .nil))) none (.node (.node .nil none (.node (.node .nil (some (.cells [(.ptr 2098 0)] 119 false false)) .nil) none
  .nil)) none .nil)) none .nil)) none .nil)) none (.node (.node (.node (.node .nil none (.node .nil none (.node (.node (.node (.node .nil (some b49) .nil) none .nil) none .nil) none .nil))) none (.node (.node .nil none (.node (.node .nil none
  (.node (.node .nil (some b189) .nil) none .nil)) none .nil)) none .nil)) none (.node .nil none (.node (.node (.node .nil none (.node .nil none (.node (.node .nil (some (.deferred true)) .nil) none .nil))) none .nil) none .nil))) none (.node
  .nil none (.node .nil none (.node .nil none (.node (.node (.node .nil none (.node (.node .nil (some b76) .nil) none .nil)) none .nil) none .nil)))))) none (.node (.node (.node .nil none (.node .nil none (.node (.node (.node (.node (.node (.node
  .nil (some b190) .nil) none .nil) none .nil) none .nil) none .nil) none .nil))) none (.node (.node .nil none (.node (.node (.node (.node (.node (.node .nil (some b191) .nil) none .nil) none .nil) none .nil) none .nil) none .nil)) none (.node
  .nil none (.node .nil none (.node .nil none (.node (.node .nil none (.node (.node .nil (some b182) .nil) none .nil)) none .nil)))))) none (.node (.node (.node .nil none (.node (.node (.node .nil none (.node .nil none (.node (.node .nil (some
  b192) .nil) none .nil))) none (.node (.node .nil none (.node (.node .nil (some (.deferred true)) .nil) none .nil)) none .nil)) none (.node .nil none (.node (.node .nil none (.node .nil (some b23) .nil)) none .nil)))) none .nil) none (.node
  .nil none (.node (.node (.node (.node .nil none (.node .nil none (.node (.node .nil (some b192) .nil) none .nil))) none .nil) none .nil) none .nil)))))), 2870⟩⟩
theorem s11 : (iterA P 60000 400 m10).map (pruneM [0, 1, 3, 4] [[], [2, 3, 6, 15, 16, 17, 18, 19, 20, 21, 22, 23, 24, 25, 26, 51], [2, 4], [2, 3], [4, 5, 6, 7, 15, 16, 17, 18, 19, 20, 21, 22, 23, 24], [2, 3, 8, 9], [4, 5, 19], [0, 1, 3, 4, 5,
  26, 27]] [7, 1766, 2090, 2096, 2098, 2244, 2483, 2684, 2687, 2723, 2724, 2725, 2726, 2727, 2728, 2729, 2739, 2807, 2810, 2846, 2853, 2854, 2855, 2856, 2857, 2859, 2867, 2868, 2869]) = some m11 := by kernel_rfl
noncomputable def c193 : Code := partOf (bodyOf P 88) [1]
noncomputable def f194 : AFrame := ⟨88, 52, (.node (.node (.node .nil (some (.ptr 3207 0)) .nil) none .nil) none (.node .nil (some (.ptr 3206 0)) .nil)), [.code c193], [], .run, .normal, none⟩
noncomputable def f195 : AFrame := ⟨93, 13, (.node .nil none (.node (.node .nil (some (.val (.slice none 0 0))) .nil) (some (.ptr 3203 0)) .nil)), [.inRangeFunc 3205, .inBlock 0, .code c29], [.collected 3204], .run, .normal, none⟩
noncomputable def f196 : AFrame := ⟨74, 26, (.node (.node (.node (.node (.node .nil (some (.sliceE 3200 0 2 9)) .nil) (some (.sliceE 3200 0 2 9)) (.node .nil (some (.slice 3201 0 1 1)) .nil)) none (.node (.node .nil (some (.func (.func 88) [(.ptr 2098 0)]
  [])) .nil) none .nil)) none (.node (.node (.node .nil (some (.val (.bool true))) .nil) none .nil) (some (.sliceE 3202 0 6 1)) (.node (.node .nil (some (.sliceE 2963 0 5 1)) .nil) none .nil))) none (.node (.node (.node (.node .nil (some (.val
  (.int .i64 2))) .nil) none (.node .nil (some (.sliceE 3202 0 6 1)) .nil)) (some (.val (.slice none 0 0))) (.node (.node .nil (some (.sliceE 3200 0 2 9)) .nil) none .nil)) none (.node (.node (.node .nil (some (.ptr 2098 0)) .nil) none .nil)
  (some (.ptr 2098 0)) (.node (.node .nil (some (.sliceE 3200 0 2 9)) .nil) none .nil)))), [.inRegion (opsOf c33) 2 (restOf c33 2), .inLoop c34, .inBlock 0, .code c35], [], .run, .normal, none⟩
noncomputable def b197 : AB := .cells [(.sliceE 3200 0 2 9)] 76 false false
noncomputable def b198 : AB := .loop .ready none 93 (.node (.node .nil (some (.func (.func 88) [(.ptr 2098 0)] [])) .nil) (some (.val (.slice none 0 0))) (.node (.node .nil (some (.val (.slice none 0 0))) .nil) (some (.ptr 3203 0)) (.node .nil (some (.func
  (.func 88) [(.ptr 2098 0)] [])) .nil))) 13 #[7] c43 c44 3204
noncomputable def b199 : AB := .cells [(.slice 2096 0 1 1), (.sliceE 2244 0 2 9), (.sliceE 2483 0 2 9), (.sliceE 2687 0 2 9), (.sliceE 2926 0 2 9), (.sliceE 3200 0 2 9)] 76 true false
noncomputable def b200 : AB := .cells [(.ptr 1766 0), (.map 2090), (.sliceE 3197 0 2 9)] 125 false false
noncomputable def b201 : AB := .map [((.agg [(.val (.int .i8 0)), (.val (.int .i8 1)), (.val (.int .i8 2)), (.val (.int .i8 3)), (.val (.int .i8 4)), (.val (.int .i8 5)), (.val (.int .i8 6)), (.val (.int .i8 7)), (.val (.int .i8 8))]), (.agg [(.val (.int .i8
  0)), (.val (.int .i8 1)), (.val (.int .i8 2)), (.val (.int .i8 3)), (.val (.int .i8 4)), (.val (.int .i8 5)), (.val (.int .i8 6)), (.val (.int .i8 7)), (.val (.int .i8 8))]), 0), ((.agg [(.val (.int .i8 1)), (.val (.int .i8 0)), (.val (.int
  .i8 2)), (.val (.int .i8 3)), (.val (.int .i8 4)), (.val (.int .i8 5)), (.val (.int .i8 6)), (.val (.int .i8 7)), (.val (.int .i8 8))]), (.agg [(.val (.int .i8 0)), (.val (.int .i8 1)), (.val (.int .i8 2)), (.val (.int .i8 3)), (.val (.int
  .i8 4)), (.val (.int .i8 5)), (.val (.int .i8 6)), (.val (.int .i8 7)), (.val (.int .i8 8))]), 1), ((.agg [(.val (.int .i8 2)), (.val (.int .i8 1)), (.val (.int .i8 0)), (.val (.int .i8 3)), (.val (.int .i8 4)), (.val (.int .i8 5)), (.val (.int
  .i8 6)), (.val (.int .i8 7)), (.val (.int .i8 8))]), (.agg [(.val (.int .i8 0)), (.val (.int .i8 1)), (.val (.int .i8 2)), (.val (.int .i8 3)), (.val (.int .i8 4)), (.val (.int .i8 5)), (.val (.int .i8 6)), (.val (.int .i8 7)), (.val (.int
  .i8 8))]), 2), ((.agg [(.val (.int .i8 1)), (.val (.int .i8 3)), (.val (.int .i8 2)), (.val (.int .i8 0)), (.val (.int .i8 4)), (.val (.int .i8 5)), (.val (.int .i8 6)), (.val (.int .i8 7)), (.val (.int .i8 8))]), (.agg [(.val (.int .i8 1)),
  (.val (.int .i8 0)), (.val (.int .i8 2)), (.val (.int .i8 3)), (.val (.int .i8 4)), (.val (.int .i8 5)), (.val (.int .i8 6)), (.val (.int .i8 7)), (.val (.int .i8 8))]), 3), ((.agg [(.val (.int .i8 2)), (.val (.int .i8 1)), (.val (.int .i8
  3)), (.val (.int .i8 0)), (.val (.int .i8 4)), (.val (.int .i8 5)), (.val (.int .i8 6)), (.val (.int .i8 7)), (.val (.int .i8 8))]), (.agg [(.val (.int .i8 2)), (.val (.int .i8 1)), (.val (.int .i8 0)), (.val (.int .i8 3)), (.val (.int .i8
  4)), (.val (.int .i8 5)), (.val (.int .i8 6)), (.val (.int .i8 7)), (.val (.int .i8 8))]), 4), ((.agg [(.val (.int .i8 1)), (.val (.int .i8 3)), (.val (.int .i8 0)), (.val (.int .i8 2)), (.val (.int .i8 4)), (.val (.int .i8 5)), (.val (.int
  .i8 6)), (.val (.int .i8 7)), (.val (.int .i8 8))]), (.agg [(.val (.int .i8 1)), (.val (.int .i8 3)), (.val (.int .i8 2)), (.val (.int .i8 0)), (.val (.int .i8 4)), (.val (.int .i8 5)), (.val (.int .i8 6)), (.val (.int .i8 7)), (.val (.int
  .i8 8))]), 5), ((.agg [(.val (.int .i8 2)), (.val (.int .i8 0)), (.val (.int .i8 3)), (.val (.int .i8 1)), (.val (.int .i8 4)), (.val (.int .i8 5)), (.val (.int .i8 6)), (.val (.int .i8 7)), (.val (.int .i8 8))]), (.agg [(.val (.int .i8 2)),
  (.val (.int .i8 1)), (.val (.int .i8 3)), (.val (.int .i8 0)), (.val (.int .i8 4)), (.val (.int .i8 5)), (.val (.int .i8 6)), (.val (.int .i8 7)), (.val (.int .i8 8))]), 6), ((.agg [(.val (.int .i8 0)), (.val (.int .i8 3)), (.val (.int .i8
  1)), (.val (.int .i8 2)), (.val (.int .i8 4)), (.val (.int .i8 5)), (.val (.int .i8 6)), (.val (.int .i8 7)), (.val (.int .i8 8))]), (.agg [(.val (.int .i8 1)), (.val (.int .i8 3)), (.val (.int .i8 0)), (.val (.int .i8 2)), (.val (.int .i8
  4)), (.val (.int .i8 5)), (.val (.int .i8 6)), (.val (.int .i8 7)), (.val (.int .i8 8))]), 7), ((.agg [(.val (.int .i8 0)), (.val (.int .i8 2)), (.val (.int .i8 3)), (.val (.int .i8 1)), (.val (.int .i8 4)), (.val (.int .i8 5)), (.val (.int
  .i8 6)), (.val (.int .i8 7)), (.val (.int .i8 8))]), (.agg [(.val (.int .i8 2)), (.val (.int .i8 0)), (.val (.int .i8 3)), (.val (.int .i8 1)), (.val (.int .i8 4)), (.val (.int .i8 5)), (.val (.int .i8 6)), (.val (.int .i8 7)), (.val (.int
  .i8 8))]), 8), ((.agg [(.val (.int .i8 3)), (.val (.int .i8 0)), (.val (.int .i8 1)), (.val (.int .i8 2)), (.val (.int .i8 4)), (.val (.int .i8 5)), (.val (.int .i8 6)), (.val (.int .i8 7)), (.val (.int .i8 8))]), (.agg [(.val (.int .i8 0)),
  (.val (.int .i8 3)), (.val (.int .i8 1)), (.val (.int .i8 2)), (.val (.int .i8 4)), (.val (.int .i8 5)), (.val (.int .i8 6)), (.val (.int .i8 7)), (.val (.int .i8 8))]), 9), ((.agg [(.val (.int .i8 3)), (.val (.int .i8 2)), (.val (.int .i8
  0)), (.val (.int .i8 1)), (.val (.int .i8 4)), (.val (.int .i8 5)), (.val (.int .i8 6)), (.val (.int .i8 7)), (.val (.int .i8 8))]), (.agg [(.val (.int .i8 0)), (.val (.int .i8 2)), (.val (.int .i8 3)), (.val (.int .i8 1)), (.val (.int .i8
  4)), (.val (.int .i8 5)), (.val (.int .i8 6)), (.val (.int .i8 7)), (.val (.int .i8 8))]), 10)] 11
noncomputable def m12 : M := ⟨f194, [f195, f148, f196, f150, f137, f140], ⟨(.node (.node (.node (.node (.node (.node (.node (.node .nil none (.node (.node .nil none (.node (.node .nil (some b76) .nil) none .nil)) none .nil)) none .nil) none .nil) none .nil) (some b20) (.node
  (.node (.node (.node .nil none (.node (.node (.node .nil none (.node .nil (some (.cells [(.yld 3205)] 133 false false)) .nil)) none .nil) none .nil)) none .nil) none .nil) none .nil)) none (.node (.node (.node (.node (.node .nil none (.node
  (.node (.node .nil none (.node .nil (some b70) .nil)) none .nil) none .nil)) none .nil) none .nil) none (.node .nil none (.node (.node .nil none (.node .nil none (.node (.node (.node .nil (some b66) .nil) none .nil) none .nil))) none .nil)))
  none .nil)) none (.node (.node (.node (.node (.node (.node .nil none (.node (.node (.node .nil none (.node .nil (some b197) .nil)) none .nil) none .nil)) none .nil) none .nil) none .nil) none .nil) none (.node (.node (.node (.node (.node .nil
  none (.node (.node (.node .nil none (.node .nil (some b198) .nil)) none .nil) none .nil)) none .nil) none .nil) none .nil) none (.node .nil none (.node .nil none (.node .nil none (.node (.node (.node (.node .nil none (.node .nil (some b114)
  .nil)) none .nil) none .nil) none .nil))))))) none (.node (.node (.node (.node (.node (.node (.node .nil none (.node (.node (.node .nil none (.node .nil (some b114) .nil)) none .nil) none .nil)) none .nil) none .nil) none (.node .nil none (.node
  (.node (.node (.node (.node (.node .nil (some b47) .nil) none .nil) none .nil) none .nil) none .nil) none .nil))) none .nil) none (.node (.node (.node (.node (.node .nil none (.node (.node (.node .nil none (.node .nil (some (.deferred true))
  .nil)) none .nil) none .nil)) none (.node .nil none (.node (.node (.node (.node .nil (some b49) .nil) none .nil) none .nil) none .nil))) none .nil) none .nil) none .nil)) none (.node (.node (.node (.node (.node (.node .nil none (.node (.node
  (.node .nil none (.node .nil (some b199) .nil)) none .nil) none .nil)) none .nil) none .nil) none (.node .nil none (.node (.node (.node (.node (.node (.node .nil (some b200) .nil) none .nil) none .nil) none .nil) none .nil) none .nil))) none
  (.node (.node .nil none (.node (.node (.node (.node (.node (.node .nil (some b201) .nil) none .nil) none .nil) none .nil) none .nil) none .nil)) none .nil)) none (.node (.node (.node (.node (.node .nil none (.node (.node (.node .nil none (.node
  .nil (some (.cells [(.ptr 2098 0)] 119 false false)) .nil)) none .nil) none .nil)) none .nil) none (.node .nil none (.node .nil none (.node (.node .nil none (.node .nil (some b23) .nil)) none .nil)))) none .nil) none (.node (.node .nil none
  (.node .nil none (.node (.node .nil none (.node .nil none (.node (.node .nil (some b94) .nil) none .nil))) none .nil))) none .nil))))), 3208⟩⟩
theorem s12 : (iterA P 60000 400 m11).map (pruneM [2, 3] [[2, 4], [2, 3], [4, 5, 6, 7, 15, 16, 17, 18, 19, 20, 21, 22, 23, 24], [2, 3, 8, 9], [4, 5, 19], [0, 1, 3, 4, 5, 26, 27]] [7, 1766, 2090, 2096, 2098, 2244, 2483, 2687, 2926, 3197, 3200,
  3201, 3202, 3203, 3204, 3205, 3206, 3207]) = some m12 := by kernel_rfl
end Go.Ev.Aw
