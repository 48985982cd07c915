/- awake's run, in pieces. -/
import Derived.Test.YtmhmkhdgpfhnfaaGreatDoorEvS
import Derived.KernelRfl
import Derived.Test.YtmhmkhdgpfhnfaaGreatDoorProg
set_option linter.unusedVariables false
set_option linter.unusedSimpArgs false
set_option linter.unnecessarySimpa false
open Go Go.Ev Go.Proofs
namespace Go.Ev.Aw
set_option maxRecDepth 1000000
noncomputable abbrev P : Program := Tryz.prog
noncomputable def c0 : Code := partOf (bodyOf P 14) []
noncomputable def f1 : AFrame := ⟨14, 136, .nil, [.code c0], [], .run, .normal, none⟩
noncomputable def m0 : M := ⟨f1, [], ⟨.nil, 0⟩⟩
theorem start : startA P 14 = some m0 := by kernel_rfl
noncomputable def c2 : Code := partOf (bodyOf P 145) [1, 1, 1, 0, 1, 0, 0, 1, 1, 0, 0, 1, 1, 1, 1, 0, 1, 0, 0, 1, 0, 1]
noncomputable def c3 : Code := partOf (bodyOf P 145) [1, 1, 1, 0, 1, 0, 0, 1, 1, 0, 0, 1, 1, 1, 1, 0, 1, 0, 0, 1, 1]
noncomputable def c4 : Code := partOf (bodyOf P 145) [1, 1, 1, 0, 1, 0, 0, 1, 1, 0, 0, 1, 1, 1, 1, 0, 1, 0, 0]
noncomputable def c5 : Code := partOf (bodyOf P 145) [1, 1, 1, 0, 1, 0, 0, 1, 1, 0, 0, 1, 1, 1, 1, 1]
noncomputable def c6 : Code := partOf (bodyOf P 145) [1, 1, 1, 0, 1, 0, 0, 1, 1, 1]
noncomputable def c7 : Code := partOf (bodyOf P 145) [1, 1, 1, 0, 1, 0, 0]
noncomputable def c8 : Code := partOf (bodyOf P 145) [1, 1, 1, 1]
noncomputable def f9 : AFrame := ⟨145, 82, (.node (.node (.node (.node (.node (.node (.node .nil (some (.val (.int .u64 2))) .nil) (some (.val (.int .i64 0))) .nil) none (.node .nil (some (.val (.bool false))) .nil)) (some (.val (.int .u32 1))) (.node (.node
  (.node .nil (some (.val (.int .u64 0))) .nil) (some (.slice 176 0 1 1)) .nil) none (.node .nil (some (.val (.int .u64 2))) .nil))) none (.node (.node (.node (.node .nil (some (.val (.int .u64 2))) .nil) (some (.val (.bool false))) .nil) none
  (.node .nil (some (.val (.int .u32 1))) .nil)) (some (.val (.int .u32 2))) (.node (.node .nil (some (.slice 277 0 2 2)) .nil) (some (.slice 153 0 1 1)) (.node .nil (some (.val (.int .u32 0))) .nil)))) (some (.slice 176 0 1 1)) (.node (.node
  (.node (.node (.node .nil (some (.val (.int .i64 0))) .nil) (some (.val (.int .u32 1))) .nil) none (.node .nil (some (.ptr 176 0)) .nil)) (some (.val (.int .u64 0))) (.node (.node .nil (some (.val (.int .i64 1))) .nil) none (.node .nil (some
  (.val (.int .i64 0))) .nil))) (some (.slice 277 0 2 2)) (.node (.node (.node (.node .nil (some (.ptr 277 0)) .nil) (some (.val (.int .i64 0))) .nil) none (.node .nil (some (.val (.int .u32 2))) .nil)) none (.node (.node .nil (some (.val (.int
  .i64 1))) .nil) (some (.val (.int .i64 0))) (.node .nil (some (.val (.int .u64 2))) .nil))))) none (.node (.node (.node (.node (.node (.node .nil (some (.slice 277 0 2 2)) .nil) (some (.ptr 153 0)) .nil) none (.node .nil (some (.val (.int .i64
  0))) .nil)) (some (.slice 277 0 2 2)) (.node (.node (.node .nil (some (.val (.int .i64 1))) .nil) (some (.val (.int .i64 1))) .nil) none (.node .nil (some (.slice 277 0 2 2)) .nil))) (some (.val (.slice none 0 0))) (.node (.node (.node (.node
  .nil (some (.val (.int .u32 2))) .nil) (some (.slice 277 0 2 2)) .nil) none (.node .nil (some (.val (.int .u64 1))) .nil)) (some (.val (.int .u64 2))) (.node (.node .nil (some (.slice 176 0 1 1)) .nil) (some (.val (.int .i64 1))) (.node .nil
  (some (.val (.int .u64 0))) .nil)))) none (.node (.node (.node (.node (.node .nil (some (.val (.int .u64 2))) .nil) (some (.val (.int .u32 1))) .nil) none (.node .nil (some (.val (.int .u32 2))) .nil)) (some (.val (.int .i64 0))) (.node (.node
  .nil (some (.val (.int .i64 2))) .nil) none (.node .nil (some (.ptr 277 0)) .nil))) (some (.val (.int .i64 0))) (.node (.node (.node (.node .nil (some (.val (.int .u64 2))) .nil) (some (.val (.int .i64 0))) .nil) none (.node .nil (some (.val
  (.int .u64 2))) .nil)) none (.node (.node .nil (some (.val (.int .i64 1))) .nil) (some (.val (.bool true))) (.node .nil (some (.val (.int .u64 0))) .nil)))))), [.code c2, .code c3, .inLoop c4, .inBlock 2, .code c5, .inBlock 1, .code c6, .inLoop
  c7, .inBlock 0, .code c8], [], .run, .normal, none⟩
noncomputable def c10 : Code := partOf (bodyOf P 140) [1, 1, 0]
noncomputable def c11 : Code := partOf (bodyOf P 140) [1, 1, 1]
noncomputable def f12 : AFrame := ⟨140, 28, (.node (.node .nil none (.node .nil none (.node (.node .nil (some (.slice 153 0 1 1)) .nil) none .nil))) none (.node (.node .nil (some (.val (.slice none 0 0))) .nil) none (.node .nil none (.node (.node .nil (some
  (.slice 176 0 1 1)) .nil) none .nil)))), [.inRegion (opsOf c10) 2 (restOf c10 2), .code c11], [], .run, .normal, none⟩
noncomputable def c13 : Code := partOf (bodyOf P 83) [1, 1, 1, 1, 1, 1, 0]
noncomputable def c14 : Code := partOf (bodyOf P 83) [1, 1, 1, 1, 1, 1, 1]
noncomputable def f15 : AFrame := ⟨83, 56, (.node (.node .nil none (.node (.node .nil (some (.slice 264 0 1 1)) .nil) none .nil)) none (.node (.node (.node .nil (some (.ptr 188 0)) .nil) (some (.ptr 106 0)) (.node .nil none (.node (.node .nil (some (.slice
  153 0 1 1)) .nil) none .nil))) none (.node (.node .nil (some (.slice 275 0 1 1)) .nil) none (.node .nil none (.node (.node .nil (some (.slice 176 0 1 1)) .nil) none .nil))))), [.inRegion (opsOf c13) 4 (restOf c13 4), .code c14], [], .run, .normal,
  none⟩
noncomputable def c16 : Code := partOf (bodyOf P 82) [1, 0]
noncomputable def f17 : AFrame := ⟨82, 6, (.node (.node (.node .nil (some (.agg [(.val (.bool false)), (.slice 36 0 1 1), (.slice 37 0 1 1)])) .nil) none .nil) none (.node (.node .nil (some (.agg [(.val (.bool false)), (.slice 55 0 1 1), (.slice 61 0 1 1)]))
  .nil) (some (.ptr 103 0)) .nil)), [.inRegion (opsOf c16) 2 (restOf c16 2), .code .ret], [], .run, .normal, none⟩
noncomputable def c18 : Code := partOf (bodyOf P 66) [1, 1, 0]
noncomputable def f19 : AFrame := ⟨66, 7, (.node (.node (.node .nil (some (.ptr 102 0)) .nil) none (.node .nil (some (.func (.func 82) [] [(.ptr 98 0), (.ptr 99 0)])) .nil)) none (.node .nil (some (.ptr 101 0)) .nil)), [.inRegion (opsOf c18) 1 (restOf c18
  1), .code .ret], [.fn ⟨(.func 128), [(.ptr 102 0)], []⟩], .run, .normal, none⟩
noncomputable def c20 : Code := partOf (bodyOf P 27) [1, 0]
noncomputable def f21 : AFrame := ⟨27, 10, (.node (.node .nil none (.node .nil (some (.val (.int .i64 0))) .nil)) none (.node (.node .nil (some (.ptr 100 0)) .nil) none (.node .nil (some (.func (.func 82) [] [(.ptr 98 0), (.ptr 99 0)])) .nil))), [.inRegion
  (opsOf c20) 1 (restOf c20 1), .code .ret], [], .run, .normal, none⟩
noncomputable def c22 : Code := partOf (bodyOf P 14) [1, 1, 1, 0]
noncomputable def c23 : Code := partOf (bodyOf P 14) [1, 1, 1, 1]
noncomputable def f24 : AFrame := ⟨14, 136, (.node (.node (.node .nil none (.node .nil none (.node .nil (some (.agg [(.val (.bool false)), (.slice 55 0 1 1), (.slice 61 0 1 1)])) .nil))) none .nil) (some (.val (.bool false))) (.node (.node .nil (some (.val
  (.int .i64 0))) .nil) (some (.val (.int .i64 0))) (.node (.node .nil none (.node .nil (some (.agg [(.val (.bool false)), (.slice 36 0 1 1), (.slice 37 0 1 1)])) .nil)) none .nil))), [.inRegion (opsOf c22) 2 (restOf c22 2), .code c23], [], .run,
  .normal, none⟩
noncomputable def b25 : AB := .cells [(.val (.bool false)), (.val (.slice none 0 0)), (.val (.slice none 0 0))] 27 false false
noncomputable def b26 : AB := .cells [(.val (.int .u32 1))] 153 false false
noncomputable def b27 : AB := .cells [(.val (.bool false)), (.slice 55 0 1 1), (.slice 61 0 1 1)] 27 false false
noncomputable def b28 : AB := .cells [(.val (.int .u32 3))] 153 true false
noncomputable def b29 : AB := .cells [(.val (.int .u32 2)), (.val (.int .u32 0))] 153 false false
noncomputable def b30 : AB := .cells [(.val (.int .u32 6))] 153 false false
noncomputable def b31 : AB := .cells [(.val (.int .u32 2))] 153 false false
noncomputable def b32 : AB := .cells [(.val (.int .u32 1))] 153 true false
noncomputable def b33 : AB := .cells [(.val (.int .u32 3)), (.val (.int .u32 0))] 153 false false
noncomputable def b34 : AB := .cells [(.val (.bool false)), (.slice 236 0 1 1)] 25 false false
noncomputable def b35 : AB := .cells [(.val (.bool false)), (.slice 36 0 1 1), (.slice 37 0 1 1)] 27 false false
noncomputable def b36 : AB := .cells [(.val (.int .i64 0))] 28 false false
noncomputable def m1 : M := ⟨f9, [f12, f15, f17, f19, f21, f24], ⟨(.node (.node (.node (.node .nil none (.node (.node .nil none (.node .nil (some b25) .nil)) none (.node .nil (some b26) .nil))) none (.node (.node (.node .nil none (.node .nil (some b27) .nil)) none (.node
  (.node (.node (.node .nil (some b26) .nil) none .nil) none .nil) none .nil)) none .nil)) none (.node (.node .nil none (.node .nil none (.node (.node (.node .nil (some b26) .nil) none .nil) none .nil))) none (.node (.node (.node .nil (some b28)
  (.node .nil (some b25) .nil)) none (.node (.node (.node (.node .nil (some b29) .nil) none .nil) none .nil) none .nil)) none (.node .nil none (.node .nil (some b30) .nil))))) none (.node (.node (.node (.node .nil none (.node .nil none (.node
  (.node .nil (some b31) .nil) none .nil))) none (.node (.node (.node (.node (.node .nil (some b26) .nil) none .nil) none .nil) none .nil) none .nil)) none (.node (.node (.node .nil (some b32) (.node .nil (some b25) .nil)) none .nil) none (.node
  (.node .nil none (.node .nil none (.node .nil (some b33) .nil))) none (.node .nil none (.node (.node .nil (some b34) .nil) none .nil))))) none (.node (.node (.node (.node .nil none (.node .nil (some b35) .nil)) none .nil) none (.node (.node
  .nil none (.node .nil (some b25) .nil)) none .nil)) none (.node (.node (.node .nil none (.node .nil (some b36) .nil)) none .nil) none .nil)))), 278⟩⟩
theorem s1 : (iterA P 60000 2400 m0).map (pruneM [1, 4, 5, 6, 7, 8, 9, 10, 11, 12, 27, 28, 29, 30, 31, 32, 33, 34, 35, 36, 37, 38, 39, 40, 41, 42, 43, 44, 45, 46, 47, 48, 49, 50, 51, 52, 53, 54, 55, 56, 57, 58, 59, 60, 61, 62, 63, 64, 65, 66,
  67, 68, 69, 70, 71, 72] [[4, 21, 22], [4, 8, 9, 10, 44, 46], [2, 3, 4], [2, 3, 5], [4, 5, 6], [0, 2, 4, 26, 27]] [36, 37, 55, 61, 98, 99, 100, 101, 102, 103, 106, 153, 176, 188, 236, 264, 275, 277]) = some m1 := by kernel_rfl
noncomputable def c37 : Code := partOf (bodyOf P 121) [1, 1, 0, 0]
noncomputable def c38 : Code := partOf (bodyOf P 121) [1, 1, 1]
noncomputable def f39 : AFrame := ⟨121, 24, (.node (.node (.node .nil (some (.val (.int .i64 1))) .nil) none .nil) (some (.sliceE 399 0 1 1)) (.node .nil (some (.val (.slice none 0 0))) .nil)), [.code c37, .inBlock 0, .code c38], [], .run, .normal, none⟩
noncomputable def c40 : Code := partOf (bodyOf P 94) [1, 0]
noncomputable def f41 : AFrame := ⟨94, 6, (.node .nil none (.node (.node .nil (some (.sliceE 399 0 1 1)) .nil) (some (.val (.slice none 0 0))) .nil)), [.inRegion (opsOf c40) 2 (restOf c40 2), .code .ret], [], .run, .normal, none⟩
noncomputable def c42 : Code := partOf (bodyOf P 64) [1, 0]
noncomputable def c43 : Code := partOf (bodyOf P 64) [1, 1]
noncomputable def f44 : AFrame := ⟨64, 78, (.node (.node .nil (some (.slice 395 0 1 1)) .nil) (some (.slice 398 0 1 1)) (.node (.node .nil (some (.val (.slice none 0 0))) (.node .nil (some (.slice 398 0 1 1)) .nil)) none .nil)), [.inRegion (opsOf c42) 1 (restOf
  c42 1), .code c43], [], .run, .normal, none⟩
noncomputable def c45 : Code := partOf (bodyOf P 135) [1, 0]
noncomputable def c46 : Code := partOf (bodyOf P 135) [1, 1]
noncomputable def f47 : AFrame := ⟨135, 16, (.node (.node (.node (.node .nil (some (.slice 398 0 1 1)) .nil) none .nil) (some (.slice 395 0 1 1)) (.node .nil (some (.val (.slice none 0 0))) .nil)) (some (.slice 398 0 1 1)) (.node (.node (.node .nil (some (.slice
  395 0 1 1)) .nil) (some (.val (.slice none 0 0))) .nil) none .nil)), [.inRegion (opsOf c45) 2 (restOf c45 2), .code c46], [], .run, .normal, none⟩
noncomputable def c48 : Code := partOf (bodyOf P 167) [1, 1, 0, 1, 0, 0, 1, 1, 0, 0, 1, 0]
noncomputable def c49 : Code := partOf (bodyOf P 167) [1, 1, 0, 1, 0, 0, 1, 1, 0, 0, 1, 1]
noncomputable def c50 : Code := partOf (bodyOf P 167) [1, 1, 0, 1, 0, 0, 1, 1, 1]
noncomputable def c51 : Code := partOf (bodyOf P 167) [1, 1, 0, 1, 0, 0]
noncomputable def c52 : Code := partOf (bodyOf P 167) [1, 1, 1]
noncomputable def f53 : AFrame := ⟨167, 27, (.node (.node (.node (.node (.node .nil (some (.tuple [(.slice 393 0 1 1), (.slice 394 0 1 1)])) .nil) none (.node .nil (some (.slice 393 0 1 1)) .nil)) (some (.slice 395 0 1 1)) (.node (.node .nil (some (.tuple
  [(.slice 393 0 1 1), (.slice 394 0 1 1)])) .nil) (some (.val (.int .i64 1))) .nil)) none (.node (.node (.node .nil (some (.slice 398 0 1 1)) .nil) (some (.sliceE 370 0 2 3)) (.node .nil (some (.val (.int .i64 1))) .nil)) (some (.ptr 396 0))
  (.node (.node .nil (some (.slice 394 0 1 1)) .nil) (some (.ptr 370 3)) .nil))) none (.node (.node (.node (.node .nil (some (.agg [(.val (.bool false)), (.slice 341 0 1 1), (.val (.slice none 0 0))])) .nil) none (.node .nil (some (.slice 395
  0 1 1)) .nil)) none (.node (.node .nil (some (.slice 393 0 1 1)) .nil) (some (.val (.bool true))) .nil)) (some (.val (.slice none 0 0))) (.node (.node (.node .nil (some (.slice 395 0 1 1)) .nil) (some (.val (.int .i64 2))) .nil) (some (.slice
  393 0 1 1)) (.node (.node .nil (some (.slice 371 0 1 1)) .nil) (some (.agg [(.val (.bool false)), (.slice 341 0 1 1), (.val (.slice none 0 0))])) .nil)))), [.inRegion (opsOf c48) 3 (restOf c48 3), .code c49, .inBlock 1, .code c50, .inLoop c51,
  .inBlock 0, .code c52], [], .run, .normal, none⟩
noncomputable def c54 : Code := partOf (bodyOf P 146) [1, 1, 0, 1, 0, 0, 1, 1, 0, 0, 1, 1, 1, 0]
noncomputable def c55 : Code := partOf (bodyOf P 146) [1, 1, 0, 1, 0, 0, 1, 1, 0, 0, 1, 1, 1, 1]
noncomputable def c56 : Code := partOf (bodyOf P 146) [1, 1, 0, 1, 0, 0, 1, 1, 1]
noncomputable def c57 : Code := partOf (bodyOf P 146) [1, 1, 0, 1, 0, 0]
noncomputable def c58 : Code := partOf (bodyOf P 146) [1, 1, 1]
noncomputable def f59 : AFrame := ⟨146, 84, (.node (.node (.node (.node (.node (.node .nil (some (.val (.bool false))) .nil) none .nil) (some (.slice 342 0 2 2)) (.node .nil (some (.val (.bool true))) .nil)) none (.node .nil none (.node .nil (some (.slice
  342 0 2 2)) .nil))) (some (.val (.slice none 0 0))) (.node (.node .nil none (.node .nil (some (.ptr 350 0)) .nil)) (some (.ptr 366 0)) (.node (.node .nil (some (.val (.int .i64 2))) .nil) none (.node .nil (some (.val (.slice none 0 0))) .nil))))
  none (.node (.node (.node .nil (some (.sliceE 370 0 2 3)) (.node .nil (some (.val (.int .i64 0))) .nil)) (some (.val (.pointer none))) (.node (.node .nil (some (.slice 350 0 2 2)) .nil) none (.node .nil (some (.sliceE 370 0 2 3)) .nil))) none
  (.node (.node .nil none (.node .nil (some (.slice 342 0 2 2)) .nil)) (some (.val (.int .i64 0))) (.node (.node (.node .nil (some (.sliceE 370 0 2 3)) .nil) (some (.val (.int .i64 0))) .nil) none (.node .nil (some (.val (.int .i64 0))) .nil))))),
  [.inRegion (opsOf c54) 1 (restOf c54 1), .code c55, .inBlock 1, .code c56, .inLoop c57, .inBlock 0, .code c58], [], .run, .normal, none⟩
noncomputable def c60 : Code := partOf (bodyOf P 100) [1, 0]
noncomputable def c61 : Code := partOf (bodyOf P 100) [1, 1]
noncomputable def f62 : AFrame := ⟨100, 12, (.node (.node (.node (.node .nil (some (.val (.slice none 0 0))) .nil) none .nil) none .nil) none (.node (.node .nil (some (.val (.pointer none))) .nil) none (.node .nil (some (.slice 350 0 2 2)) .nil))), [.inRegion
  (opsOf c60) 2 (restOf c60 2), .code c61], [], .run, .normal, none⟩
noncomputable def c63 : Code := partOf (bodyOf P 99) [1, 0]
noncomputable def f64 : AFrame := ⟨99, 5, (.node (.node .nil (some (.ptr 359 0)) .nil) none (.node .nil (some (.slice 350 0 2 2)) .nil)), [.inRegion (opsOf c63) 1 (restOf c63 1), .code .ret], [], .run, .normal, none⟩
noncomputable def f65 : AFrame := ⟨66, 7, (.node (.node (.node .nil (some (.ptr 358 0)) .nil) none (.node .nil (some (.func (.func 99) [] [(.ptr 351 0)])) .nil)) none (.node .nil (some (.ptr 357 0)) .nil)), [.inRegion (opsOf c18) 1 (restOf c18 1), .code .ret],
  [.fn ⟨(.func 128), [(.ptr 358 0)], []⟩], .run, .normal, none⟩
noncomputable def c66 : Code := partOf (bodyOf P 43) [1, 1, 0]
noncomputable def f67 : AFrame := ⟨43, 15, (.node (.node (.node .nil (some (.val (.int .i64 0))) (.node .nil (some (.func (.func 99) [] [(.ptr 351 0)])) .nil)) none .nil) none (.node .nil (some (.ptr 352 0)) .nil)), [.inRegion (opsOf c66) 1 (restOf c66 1),
  .code .ret], [], .run, .normal, none⟩
noncomputable def c68 : Code := partOf (bodyOf P 14) [1, 1, 1, 1, 1, 1, 0]
noncomputable def c69 : Code := partOf (bodyOf P 14) [1, 1, 1, 1, 1, 1, 1]
noncomputable def f70 : AFrame := ⟨14, 136, (.node (.node (.node .nil none (.node .nil none (.node (.node .nil (some (.slice 350 0 2 2)) .nil) none .nil))) none (.node .nil (some (.ptr 283 0)) .nil)) (some (.val (.bool false))) (.node (.node (.node .nil (some
  (.val (.int .i64 10))) .nil) (some (.val (.int .i64 0))) .nil) (some (.val (.int .i64 0))) (.node .nil (some (.val (.int .i64 0))) .nil))), [.inRegion (opsOf c68) 1 (restOf c68 1), .code c69], [], .run, .normal, none⟩
noncomputable def b71 : AB := .cells [(.slice 350 0 2 2)] 66 false false
noncomputable def b72 : AB := .cells [(.val (.int .u32 1)), (.val (.int .u32 0)), (.val (.int .u32 0))] 153 false false
noncomputable def b73 : AB := .cells [(.val (.int .u32 1)), (.val (.int .u32 0))] 153 false false
noncomputable def b74 : AB := .cells [(.val (.bool false)), (.slice 264 0 1 1), (.slice 278 0 1 1)] 27 false false
noncomputable def b75 : AB := .cells [(.val (.int .u32 3)), (.val (.int .u32 0)), (.val (.int .u32 0))] 153 false false
noncomputable def b76 : AB := .cells [(.val (.int .u32 2)), (.val (.int .u32 0)), (.val (.int .u32 0))] 153 false false
noncomputable def b77 : AB := .cells [(.val (.bool false)), (.slice 345 0 1 1), (.val (.slice none 0 0)), (.val (.bool false)), (.slice 348 0 1 1), (.val (.slice none 0 0))] 27 false false
noncomputable def b78 : AB := .cells [(.val (.bool false)), (.slice 341 0 1 1), (.val (.slice none 0 0))] 27 false false
noncomputable def b79 : AB := .cells [(.val (.int .u32 4)), (.val (.int .u32 0)), (.val (.int .u32 0))] 153 false false
noncomputable def b80 : AB := .cells [(.val (.bool false)), (.slice 338 0 1 1), (.val (.slice none 0 0)), (.val (.bool false)), (.slice 341 0 1 1), (.val (.slice none 0 0))] 27 true false
noncomputable def b81 : AB := .cells [(.val (.bool false)), (.slice 338 0 1 1), (.val (.slice none 0 0)), (.val (.bool false)), (.slice 341 0 1 1), (.val (.slice none 0 0))] 27 false false
noncomputable def b82 : AB := .cells [(.val (.slice none 0 0)), (.val (.slice none 0 0)), (.val (.int .i64 2)), (.val (.slice none 0 0)), (.val (.bool false)), (.slice 369 0 1 1), (.val (.bool false))] 130 false false
noncomputable def b83 : AB := .cells [(.slice 342 0 2 2), (.slice 349 0 2 2)] 74 false false
noncomputable def m2 : M := ⟨f39, [f41, f44, f47, f53, f59, f62, f64, f65, f67, f70], ⟨(.node (.node (.node (.node (.node (.node .nil none (.node .nil none (.node (.node .nil (some b71) .nil) none .nil))) none (.node (.node (.node .nil none (.node .nil (some b32) .nil))
  none .nil) none .nil)) none (.node (.node .nil none (.node .nil none (.node (.node .nil (some b25) .nil) none .nil))) none .nil)) none (.node (.node .nil none (.node .nil none (.node .nil none (.node (.node .nil (some b72) .nil) none .nil))))
  none (.node (.node (.node (.node .nil none (.node .nil (some b73) .nil)) none .nil) none .nil) none (.node (.node (.node (.node .nil (some b74) .nil) none .nil) none .nil) none .nil)))) none (.node (.node (.node .nil none (.node .nil none (.node
  .nil none (.node (.node .nil (some b72) .nil) none .nil)))) none (.node (.node (.node (.node .nil none (.node .nil (some b32) .nil)) none .nil) none .nil) none (.node (.node .nil none (.node (.node .nil (some b75) .nil) none .nil)) none .nil)))
  none (.node (.node (.node .nil none (.node .nil none (.node (.node .nil (some b25) .nil) none .nil))) none (.node (.node .nil none (.node (.node .nil (some b76) .nil) none .nil)) none .nil)) none (.node .nil none (.node (.node .nil none (.node
  (.node .nil (some b77) .nil) none .nil)) none .nil))))) none (.node (.node (.node (.node (.node .nil none (.node .nil none (.node (.node .nil (some b25) .nil) none .nil))) none .nil) none (.node (.node (.node (.node (.node .nil (some b26) .nil)
  none .nil) none .nil) none .nil) none .nil)) none (.node .nil none (.node (.node (.node (.node .nil none (.node .nil (some b78) .nil)) none .nil) none .nil) none (.node (.node .nil none (.node (.node .nil (some b79) .nil) none .nil)) none .nil))))
  none (.node (.node (.node .nil none (.node (.node .nil none (.node (.node .nil (some b72) .nil) none .nil)) none (.node .nil none (.node (.node .nil (some b80) .nil) none .nil)))) none (.node (.node (.node (.node .nil none (.node .nil (some
  b32) .nil)) none .nil) none .nil) none .nil)) none (.node (.node (.node .nil none (.node .nil none (.node (.node .nil (some b36) .nil) none .nil))) none (.node (.node (.node (.node .nil (some b29) .nil) none .nil) none (.node (.node .nil (some
  b81) .nil) none .nil)) none .nil)) none (.node (.node (.node (.node .nil none (.node .nil (some b72) .nil)) none .nil) none (.node .nil none (.node (.node .nil (some b82) .nil) none .nil))) none (.node (.node .nil none (.node (.node .nil (some
  b83) .nil) none .nil)) none .nil)))))), 400⟩⟩
theorem s2 : (iterA P 60000 2400 m1).map (pruneM [0, 2, 3] [[2, 4], [0, 1, 4, 12], [0, 1, 4, 5, 7, 8], [2, 3, 5, 6, 9, 10, 11, 12, 13, 14, 15, 16, 17, 18, 19, 20, 21, 22, 23, 24, 25], [1, 4, 5, 6, 7, 8, 20, 21, 22, 23, 24, 25, 26, 27, 28, 29,
  30, 31, 38], [4, 6, 7], [1, 2], [2, 3, 5], [2, 3, 11], [0, 2, 4, 5, 6, 8, 43]] [264, 278, 283, 338, 341, 342, 345, 348, 349, 350, 351, 352, 357, 358, 359, 366, 369, 370, 371, 393, 394, 395, 396, 398, 399]) = some m2 := by kernel_rfl
noncomputable def c84 : Code := partOf (bodyOf P 121) [1, 1, 0]
noncomputable def f85 : AFrame := ⟨121, 24, (.node (.node (.node .nil (some (.val (.int .i64 3))) .nil) none .nil) (some (.slice 1207 0 3 3)) (.node .nil (some (.val (.slice none 0 0))) .nil)), [.code c84, .code c38], [], .run, .normal, none⟩
noncomputable def c86 : Code := partOf (bodyOf P 127) [1, 0]
noncomputable def f87 : AFrame := ⟨127, 16, (.node .nil none (.node .nil (some (.val (.slice none 0 0))) (.node .nil none (.node .nil (some (.slice 1207 0 3 3)) .nil)))), [.inRegion (opsOf c86) 12 (restOf c86 12), .code .ret], [], .run, .normal, none⟩
noncomputable def c88 : Code := partOf (bodyOf P 78) [1, 1, 0]
noncomputable def f89 : AFrame := ⟨78, 14, (.node (.node (.node .nil none (.node .nil (some (.val (.int .u64 1))) .nil)) none .nil) none (.node .nil (some (.ptr 1206 0)) .nil)), [.inRegion (opsOf c88) 2 (restOf c88 2), .code .ret], [], .run, .normal, none⟩
noncomputable def c90 : Code := partOf (bodyOf P 20) [1, 0]
noncomputable def f91 : AFrame := ⟨20, 6, (.node (.node (.node .nil (some (.val (.int .i64 1))) .nil) none .nil) none (.node .nil (some (.ptr 1205 0)) .nil)), [.inRegion (opsOf c90) 1 (restOf c90 1), .code .ret], [], .run, .normal, none⟩
noncomputable def c92 : Code := partOf (bodyOf P 14) [1, 1, 1, 1, 1, 1, 1, 0]
noncomputable def c93 : Code := partOf (bodyOf P 14) [1, 1, 1, 1, 1, 1, 1, 1]
noncomputable def f94 : AFrame := ⟨14, 136, (.node (.node (.node .nil none (.node .nil (some (.val (.int .i64 0))) .nil)) none (.node .nil (some (.ptr 283 0)) .nil)) (some (.val (.bool false))) (.node (.node (.node .nil (some (.val (.int .i64 10))) .nil) (some
  (.val (.int .i64 0))) .nil) (some (.val (.int .i64 0))) (.node (.node .nil (some (.ptr 1204 0)) .nil) (some (.val (.int .i64 0))) .nil))), [.inRegion (opsOf c92) 0 (restOf c92 0), .code c93], [], .run, .normal, none⟩
noncomputable def b95 : AB := .cells [(.val (.bool true)), (.slice 1198 0 1 1), (.val (.slice none 0 0))] 27 false false
noncomputable def b96 : AB := .cells [(.val (.bool false)), (.val (.slice none 0 0))] 25 false false
noncomputable def b97 : AB := .cells [(.val (.int .u32 2))] 153 true false
noncomputable def m3 : M := ⟨f85, [f87, f89, f91, f94], ⟨(.node (.node (.node (.node .nil none (.node .nil none (.node .nil none (.node (.node .nil none (.node (.node (.node .nil (some b72) .nil) none .nil) none .nil)) none .nil)))) none (.node .nil none (.node .nil none
  (.node (.node (.node (.node .nil (some b74) .nil) none .nil) none .nil) none .nil)))) none (.node .nil none (.node (.node .nil none (.node .nil none (.node (.node .nil none (.node (.node (.node .nil (some b25) .nil) none .nil) none .nil)) none
  .nil))) none .nil))) none (.node (.node (.node .nil none (.node (.node (.node (.node (.node .nil (some b26) .nil) none .nil) none .nil) none .nil) none .nil)) none (.node (.node .nil none (.node .nil none (.node (.node .nil none (.node (.node
  (.node .nil (some b95) .nil) none .nil) none .nil)) none .nil))) none .nil)) none (.node .nil none (.node (.node .nil none (.node (.node (.node (.node .nil (some b29) .nil) none .nil) none .nil) none (.node (.node .nil none (.node (.node (.node
  .nil (some b96) .nil) none .nil) none .nil)) none .nil))) none (.node (.node .nil none (.node (.node .nil none (.node (.node (.node .nil (some b97) .nil) none .nil) none .nil)) none .nil)) none .nil))))), 1208⟩⟩
theorem s3 : (iterA P 60000 2400 m2).map (pruneM [0, 2, 3] [[2, 14], [2, 11], [2, 3], [0, 2, 4, 5, 6, 8, 10, 11]] [264, 278, 283, 1198, 1204, 1205, 1206, 1207]) = some m3 := by kernel_rfl
noncomputable def c98 : Code := partOf (bodyOf P 109) [1, 1, 1, 0]
noncomputable def c99 : Code := partOf (bodyOf P 109) [1, 1, 1, 1]
noncomputable def f100 : AFrame := ⟨109, 44, (.node (.node (.node .nil (some (.val (.slice none 0 0))) .nil) (some (.val (.slice none 0 0))) .nil) none (.node .nil (some (.ptr 1227 0)) .nil)), [.code c98, .code c99], [], .run, .normal, none⟩
noncomputable def c101 : Code := partOf (bodyOf P 108) [1, 1, 0]
noncomputable def f102 : AFrame := ⟨108, 7, (.node (.node (.node .nil (some (.ptr 1220 0)) .nil) none (.node .nil (some (.func (.func 109) [] [(.ptr 1216 0)])) .nil)) none (.node .nil (some (.val (.slice none 0 0))) .nil)), [.inRegion (opsOf c101) 1 (restOf
  c101 1), .code .ret], [.fn ⟨(.func 150), [(.ptr 1220 0)], []⟩], .run, .normal, none⟩
noncomputable def c103 : Code := partOf (bodyOf P 46) [1, 1, 0]
noncomputable def f104 : AFrame := ⟨46, 14, (.node (.node (.node .nil (some (.val (.int .i64 0))) .nil) none .nil) none (.node .nil (some (.val (.slice none 0 0))) (.node (.node .nil (some (.func (.func 109) [] [(.ptr 1216 0)])) .nil) none .nil))), [.inRegion
  (opsOf c103) 1 (restOf c103 1), .code .ret], [], .run, .normal, none⟩
noncomputable def f105 : AFrame := ⟨14, 136, (.node (.node (.node .nil none (.node .nil (some (.val (.int .i64 0))) .nil)) none (.node .nil (some (.ptr 283 0)) .nil)) (some (.val (.bool false))) (.node (.node (.node .nil (some (.val (.int .i64 10))) .nil)
  (some (.val (.int .i64 0))) (.node (.node .nil none (.node .nil (some (.slice 1215 0 1 1)) .nil)) none .nil)) (some (.val (.int .i64 0))) (.node (.node .nil (some (.ptr 1204 0)) .nil) (some (.val (.int .i64 0))) .nil))), [.inRegion (opsOf c92)
  5 (restOf c92 5), .code c93], [], .run, .normal, none⟩
noncomputable def b106 : AB := .cells [(.slice 1214 0 3 3)] 74 false false
noncomputable def b107 : AB := .cells [(.sliceE 1406 0 1 1), (.sliceE 1408 0 1 1), (.val (.int .i64 3)), (.sliceE 1426 0 1 1), (.val (.bool false)), (.slice 1337 0 1 1), (.val (.bool false))] 130 false false
noncomputable def b108 : AB := .cells [(.val (.bool false)), (.slice 1337 0 1 1), (.val (.bool false)), (.slice 1370 0 1 1), (.val (.bool false)), (.slice 1403 0 1 1)] 25 false false
noncomputable def b109 : AB := .cells [(.slice 1304 0 1 1)] 23 true false
noncomputable def b110 : AB := .cells [(.slice 1215 0 1 1)] 66 false false
noncomputable def b111 : AB := .cells [(.val (.int .i64 0))] 3 true false
noncomputable def b112 : AB := .cells [(.val (.bool false)), (.slice 1207 0 1 1), (.val (.slice none 0 0)), (.val (.bool false)), (.slice 1210 0 1 1), (.val (.slice none 0 0)), (.val (.bool false)), (.slice 1213 0 1 1), (.val (.slice none 0 0))] 27 false false
noncomputable def b113 : AB := .cells [(.slice 1305 0 3 3)] 132 true false
noncomputable def m4 : M := ⟨f100, [f102, f104, f105], ⟨(.node (.node (.node (.node (.node (.node (.node .nil none (.node .nil none (.node (.node (.node .nil (some b106) .nil) none .nil) none .nil))) none .nil) none .nil) none (.node .nil none (.node .nil none (.node (.node
  .nil none (.node (.node (.node .nil (some b72) .nil) none .nil) none .nil)) none .nil)))) none (.node .nil none (.node (.node (.node .nil none (.node .nil none (.node (.node (.node .nil (some b107) .nil) none .nil) none .nil))) none .nil) none
  (.node (.node (.node (.node .nil (some b74) .nil) none .nil) none .nil) none (.node .nil none (.node (.node .nil none (.node (.node .nil (some b33) .nil) none .nil)) none .nil)))))) none (.node (.node .nil none (.node .nil none (.node (.node
  (.node (.node .nil none (.node (.node .nil (some b108) .nil) none .nil)) none .nil) none .nil) none (.node (.node (.node .nil none (.node (.node .nil (some b73) .nil) none .nil)) none .nil) none .nil)))) none (.node .nil none (.node .nil none
  (.node .nil none (.node (.node .nil none (.node (.node (.node .nil (some b75) .nil) none .nil) none .nil)) none .nil)))))) none (.node (.node (.node (.node (.node (.node (.node .nil none (.node .nil none (.node (.node .nil (some b109) .nil)
  none .nil))) none (.node .nil none (.node (.node (.node .nil (some b110) .nil) none .nil) none .nil))) none .nil) none .nil) none (.node (.node (.node (.node (.node .nil (some b26) .nil) none .nil) none .nil) none .nil) none (.node (.node (.node
  (.node .nil none (.node (.node .nil (some b73) .nil) none .nil)) none .nil) none .nil) none .nil))) none (.node (.node (.node (.node .nil none (.node .nil none (.node (.node (.node .nil (some b36) .nil) none .nil) none .nil))) none .nil) none
  (.node .nil none (.node (.node .nil none (.node (.node (.node .nil (some b95) .nil) none .nil) none .nil)) none .nil))) none .nil)) none (.node (.node (.node .nil none (.node (.node (.node .nil none (.node .nil none (.node (.node .nil (some
  b111) .nil) none .nil))) none .nil) none .nil)) none (.node .nil none (.node (.node .nil none (.node (.node .nil none (.node (.node .nil (some b29) .nil) none .nil)) none .nil)) none (.node (.node .nil none (.node (.node (.node .nil (some b76)
  .nil) none .nil) none .nil)) none .nil)))) none (.node (.node .nil none (.node (.node (.node (.node .nil (some b29) .nil) none .nil) none .nil) none .nil)) none (.node (.node .nil none (.node (.node .nil none (.node (.node (.node .nil (some
  b97) .nil) none .nil) none .nil)) none .nil)) none (.node .nil none (.node (.node .nil none (.node (.node (.node .nil (some b112) .nil) none .nil) none .nil)) none (.node (.node .nil none (.node (.node .nil (some b113) .nil) none .nil)) none
  .nil)))))))), 1427⟩⟩
theorem s4 : (iterA P 60000 2400 m3).map (pruneM [1, 2, 3] [[2, 3, 5], [2, 3, 10], [0, 2, 4, 5, 6, 8, 10, 11, 52]] [264, 278, 283, 1198, 1204, 1207, 1210, 1213, 1214, 1215, 1216, 1220, 1227, 1304, 1305, 1337, 1370, 1403, 1406, 1408, 1426]) =
  some m4 := by kernel_rfl
noncomputable def f114 : AFrame := ⟨94, 6, (.node .nil (some (.slice 1763 0 1 1)) (.node .nil (some (.val (.slice none 0 0))) .nil)), [.code c40, .code .ret], [], .run, .normal, none⟩
noncomputable def f115 : AFrame := ⟨64, 78, (.node (.node .nil (some (.slice 1763 0 1 1)) (.node .nil none (.node .nil (some (.slice 1767 0 1 1)) .nil))) (some (.slice 1766 0 1 1)) (.node (.node .nil (some (.val (.slice none 0 0))) .nil) none (.node .nil none
  (.node .nil (some (.slice 1763 0 1 1)) .nil)))), [.inRegion (opsOf c42) 3 (restOf c42 3), .code c43], [], .run, .normal, none⟩
noncomputable def f116 : AFrame := ⟨135, 16, (.node (.node (.node (.node .nil (some (.slice 1766 0 1 1)) .nil) none .nil) (some (.slice 1763 0 1 1)) (.node .nil (some (.val (.slice none 0 0))) .nil)) (some (.slice 1766 0 1 1)) (.node (.node (.node .nil (some
  (.slice 1763 0 1 1)) .nil) (some (.val (.slice none 0 0))) .nil) none .nil)), [.inRegion (opsOf c45) 2 (restOf c45 2), .code c46], [], .run, .normal, none⟩
noncomputable def f117 : AFrame := ⟨167, 27, (.node (.node (.node (.node (.node .nil (some (.tuple [(.slice 1761 0 1 1), (.slice 1762 0 1 1)])) .nil) none (.node .nil (some (.slice 1761 0 1 1)) .nil)) (some (.slice 1763 0 1 1)) (.node (.node .nil (some (.tuple
  [(.slice 1761 0 1 1), (.slice 1762 0 1 1)])) .nil) (some (.val (.int .i64 2))) .nil)) none (.node (.node (.node .nil (some (.slice 1766 0 1 1)) .nil) (some (.sliceE 1714 0 4 3)) (.node .nil (some (.val (.int .i64 2))) .nil)) (some (.ptr 1764
  0)) (.node (.node .nil (some (.slice 1762 0 1 1)) .nil) (some (.ptr 1714 6)) .nil))) none (.node (.node (.node (.node .nil (some (.agg [(.val (.bool false)), (.slice 1689 0 1 1), (.val (.slice none 0 0))])) .nil) none (.node .nil (some (.slice
  1763 0 1 1)) .nil)) none (.node (.node .nil (some (.slice 1761 0 1 1)) .nil) (some (.val (.bool true))) .nil)) (some (.val (.slice none 0 0))) (.node (.node (.node .nil (some (.slice 1763 0 1 1)) .nil) (some (.val (.int .i64 4))) .nil) (some
  (.slice 1761 0 1 1)) (.node (.node .nil (some (.slice 1739 0 1 1)) .nil) (some (.agg [(.val (.bool false)), (.slice 1689 0 1 1), (.val (.slice none 0 0))])) .nil)))), [.inRegion (opsOf c48) 3 (restOf c48 3), .code c49, .inBlock 1, .code c50,
  .inLoop c51, .inBlock 0, .code c52], [], .run, .normal, none⟩
noncomputable def f118 : AFrame := ⟨146, 84, (.node (.node (.node (.node (.node (.node .nil (some (.val (.bool true))) .nil) none .nil) (some (.slice 1690 0 3 3)) (.node .nil (some (.val (.bool true))) .nil)) none (.node (.node (.node .nil (some (.ptr 1700
  0)) .nil) none .nil) none (.node .nil (some (.slice 1690 0 3 3)) .nil))) (some (.slice 1700 0 1 1)) (.node (.node (.node (.node .nil (some (.slice 1700 0 1 1)) .nil) none .nil) none (.node .nil (some (.ptr 1691 0)) .nil)) (some (.ptr 1709 0))
  (.node (.node (.node .nil (some (.sliceE 1714 0 4 3)) .nil) (some (.val (.int .i64 1))) .nil) none (.node .nil (some (.slice 1700 0 1 1)) .nil)))) none (.node (.node (.node (.node (.node .nil (some (.sliceE 1713 0 3 3)) .nil) none .nil) (some
  (.sliceE 1714 0 4 3)) (.node .nil (some (.val (.int .i64 0))) .nil)) (some (.val (.pointer none))) (.node (.node (.node .nil (some (.slice 1702 0 1 1)) .nil) (some (.slice 1691 0 1 1)) .nil) none (.node .nil (some (.sliceE 1713 0 3 3)) .nil)))
  none (.node (.node (.node (.node .nil (some (.val (.int .i64 0))) .nil) none .nil) none (.node .nil (some (.slice 1690 0 3 3)) .nil)) (some (.val (.int .i64 0))) (.node (.node (.node .nil (some (.sliceE 1714 0 4 3)) .nil) (some (.val (.int
  .i64 0))) .nil) none (.node .nil (some (.val (.int .i64 1))) .nil))))), [.inRegion (opsOf c54) 1 (restOf c54 1), .code c55, .inBlock 1, .code c56, .inLoop c57, .inBlock 0, .code c58], [], .run, .normal, none⟩
noncomputable def f119 : AFrame := ⟨100, 12, (.node (.node (.node (.node .nil (some (.slice 1700 0 1 1)) .nil) none .nil) none .nil) none (.node (.node .nil (some (.val (.pointer none))) .nil) none (.node .nil (some (.slice 1691 0 1 1)) .nil))), [.inRegion
  (opsOf c60) 2 (restOf c60 2), .code c61], [], .run, .normal, none⟩
noncomputable def c120 : Code := partOf (bodyOf P 45) [1, 1, 1, 1, 0]
noncomputable def c121 : Code := partOf (bodyOf P 45) [1, 1, 1, 1, 1]
noncomputable def f122 : AFrame := ⟨45, 85, (.node (.node (.node (.node .nil none (.node (.node .nil (some (.slice 1700 0 1 1)) .nil) none .nil)) none .nil) none (.node .nil (some (.val (.int .i64 0))) .nil)) none (.node (.node .nil (some (.val (.slice none
  0 0))) .nil) none (.node .nil (some (.val (.int .i64 0))) (.node (.node (.node .nil (some (.slice 1691 0 1 1)) .nil) none .nil) none .nil)))), [.inRegion (opsOf c120) 2 (restOf c120 2), .code c121], [], .run, .normal, none⟩
noncomputable def c123 : Code := partOf (bodyOf P 14) [1, 1, 1, 1, 1, 1, 1, 1, 0]
noncomputable def c124 : Code := partOf (bodyOf P 14) [1, 1, 1, 1, 1, 1, 1, 1, 1]
noncomputable def f125 : AFrame := ⟨14, 136, (.node (.node (.node (.node (.node (.node (.node .nil (some (.slice 1695 0 1 1)) .nil) none .nil) none .nil) none .nil) none (.node .nil (some (.val (.int .i64 0))) .nil)) none (.node .nil (some (.ptr 283 0)) (.node
  .nil (some (.val (.int .i64 0))) (.node .nil none (.node .nil (some (.slice 1691 0 1 1)) .nil))))) (some (.val (.bool false))) (.node (.node (.node .nil (some (.val (.int .i64 10))) .nil) (some (.val (.int .i64 0))) (.node .nil (some (.sliceE
  1680 0 2 1)) .nil)) (some (.val (.int .i64 0))) (.node (.node .nil (some (.ptr 1204 0)) .nil) (some (.val (.int .i64 0))) .nil))), [.inRegion (opsOf c123) 7 (restOf c123 7), .code c124], [], .run, .normal, none⟩
noncomputable def b126 : AB := .cells [(.val (.bool false)), (.slice 1694 0 1 1), (.val (.slice none 0 0))] 27 false false
noncomputable def b127 : AB := .cells [(.val (.bool true)), (.slice 1507 0 1 1), (.val (.slice none 0 0)), (.val (.bool false)), (.slice 1553 0 1 1), (.val (.slice none 0 0)), (.val (.bool false)), (.val (.slice none 0 0)), (.val (.slice none 0 0))] 27 false
  false
noncomputable def b128 : AB := .cells [(.slice 1690 0 3 3)] 74 false false
noncomputable def b129 : AB := .cells [(.val (.slice none 0 0)), (.val (.slice none 0 0)), (.val (.int .i64 3)), (.val (.slice none 0 0)), (.val (.bool false)), (.slice 1712 0 1 1), (.val (.bool false))] 130 false false
noncomputable def b130 : AB := .cells [(.slice 1431 0 3 3), (.slice 1556 0 3 3)] 74 true false
noncomputable def b131 : AB := .cells [(.slice 1702 0 1 1)] 74 false false
noncomputable def b132 : AB := .cells [(.val (.bool false)), (.slice 1689 0 1 1), (.val (.slice none 0 0))] 27 false false
noncomputable def b133 : AB := .cells [(.val (.bool true)), (.slice 1632 0 1 1), (.val (.slice none 0 0)), (.val (.bool false)), (.val (.slice none 0 0)), (.val (.slice none 0 0)), (.val (.bool false)), (.slice 1678 0 1 1), (.val (.slice none 0 0))] 27 false
  false
noncomputable def b134 : AB := .cells [(.val (.bool false)), (.slice 1683 0 1 1), (.val (.slice none 0 0)), (.val (.bool false)), (.slice 1686 0 1 1), (.val (.slice none 0 0)), (.val (.bool false)), (.slice 1689 0 1 1), (.val (.slice none 0 0)), (.val (.bool
  false)), (.slice 1694 0 1 1), (.val (.slice none 0 0))] 27 true false
noncomputable def b135 : AB := .cells [(.val (.bool false)), (.slice 1683 0 1 1), (.val (.slice none 0 0)), (.val (.bool false)), (.slice 1686 0 1 1), (.val (.slice none 0 0)), (.val (.bool false)), (.slice 1689 0 1 1), (.val (.slice none 0 0))] 27 false false
noncomputable def b136 : AB := .cells [(.val (.int .u32 6)), (.val (.int .u32 0)), (.val (.int .u32 0))] 153 false false
noncomputable def m5 : M := ⟨f114, [f115, f116, f117, f118, f119, f122, f125], ⟨(.node (.node (.node (.node (.node (.node .nil none (.node (.node .nil none (.node (.node .nil none (.node .nil (some b126) .nil)) none .nil)) none .nil)) none .nil) none (.node (.node .nil
  none (.node .nil none (.node .nil none (.node (.node .nil none (.node .nil (some b32) .nil)) none .nil)))) none (.node (.node (.node .nil none (.node .nil none (.node (.node .nil (some b127) .nil) none .nil))) none .nil) none .nil))) none (.node
  (.node (.node .nil none (.node .nil none (.node .nil none (.node (.node .nil none (.node .nil (some b73) .nil)) none (.node (.node .nil (some b97) .nil) none .nil))))) none (.node (.node (.node .nil none (.node (.node .nil none (.node .nil
  (some b72) .nil)) none .nil)) none .nil) none .nil)) none (.node (.node (.node .nil none (.node .nil none (.node (.node .nil none (.node .nil (some b73) .nil)) none .nil))) none .nil) none (.node (.node (.node (.node .nil (some b74) .nil) none
  (.node (.node .nil none (.node .nil (some b128) .nil)) none .nil)) none .nil) none .nil)))) none (.node (.node (.node (.node .nil none (.node .nil none (.node .nil none (.node (.node .nil none (.node .nil (some b32) .nil)) none .nil)))) none
  (.node (.node (.node (.node (.node .nil none (.node .nil (some b72) .nil)) none .nil) none .nil) none .nil) none .nil)) none (.node .nil none (.node (.node (.node .nil none (.node (.node .nil none (.node .nil (some b75) .nil)) none .nil)) none
  .nil) none .nil))) none (.node .nil none (.node (.node .nil none (.node (.node .nil none (.node (.node .nil none (.node .nil (some b129) .nil)) none .nil)) none .nil)) none .nil)))) none (.node (.node (.node (.node (.node .nil none (.node .nil
  none (.node (.node (.node .nil none (.node .nil (some b28) .nil)) none .nil) none .nil))) none (.node (.node (.node .nil none (.node (.node .nil none (.node .nil (some b130) .nil)) none .nil)) none .nil) none (.node (.node .nil none (.node
  (.node .nil none (.node .nil (some b72) .nil)) none .nil)) none .nil))) none (.node (.node (.node (.node (.node .nil (some b26) .nil) none .nil) none .nil) none .nil) none .nil)) none (.node (.node (.node .nil none (.node (.node .nil none (.node
  (.node .nil none (.node .nil (some b131) .nil)) none .nil)) none (.node .nil none (.node (.node .nil none (.node .nil (some b132) .nil)) none .nil)))) none (.node (.node (.node (.node (.node .nil none (.node .nil (some b133) .nil)) none .nil)
  none .nil) none .nil) none (.node (.node .nil none (.node (.node (.node .nil (some b95) .nil) none .nil) none .nil)) none .nil))) none .nil)) none (.node (.node (.node (.node .nil none (.node .nil none (.node .nil none (.node (.node .nil none
  (.node .nil (some b32) .nil)) none .nil)))) none (.node .nil none (.node (.node .nil none (.node (.node .nil none (.node .nil (some b134) .nil)) none .nil)) none .nil))) none (.node .nil none (.node (.node (.node .nil none (.node (.node .nil
  none (.node .nil (some b135) .nil)) none .nil)) none .nil) none .nil))) none (.node (.node (.node .nil none (.node (.node .nil none (.node (.node .nil none (.node .nil (some b126) .nil)) none .nil)) none (.node .nil none (.node (.node .nil
  none (.node .nil (some b72) .nil)) none .nil)))) none (.node (.node (.node (.node .nil (some b29) .nil) none (.node (.node .nil none (.node .nil (some b76) .nil)) none .nil)) none .nil) none .nil)) none (.node (.node (.node (.node .nil none
  (.node (.node .nil none (.node .nil (some b72) .nil)) none .nil)) none .nil) none (.node (.node .nil none (.node (.node (.node .nil (some b97) .nil) none .nil) none .nil)) none .nil)) none (.node (.node (.node .nil none (.node (.node .nil none
  (.node .nil (some b136) .nil)) none .nil)) none .nil) none .nil)))))), 1768⟩⟩
theorem s5 : (iterA P 60000 2400 m4).map (pruneM [0, 2] [[0, 1, 4, 13, 14], [0, 1, 4, 5, 7, 8], [2, 3, 5, 6, 9, 10, 11, 12, 13, 14, 15, 16, 17, 18, 19, 20, 21, 22, 23, 24, 25], [1, 4, 5, 6, 7, 8, 20, 21, 22, 23, 24, 25, 26, 27, 28, 29, 30, 31,
  32, 33, 34, 35, 36, 37, 38], [4, 6, 7], [4, 5, 6, 38, 39], [0, 2, 4, 5, 6, 8, 10, 11, 12, 13, 61, 63]] [264, 278, 283, 1198, 1204, 1431, 1507, 1553, 1556, 1632, 1678, 1680, 1683, 1686, 1689, 1690, 1691, 1694, 1695, 1700, 1702, 1709, 1712, 1714,
  1739, 1761, 1762, 1763, 1764, 1766, 1767]) = some m5 := by kernel_rfl
end Go.Ev.Aw
