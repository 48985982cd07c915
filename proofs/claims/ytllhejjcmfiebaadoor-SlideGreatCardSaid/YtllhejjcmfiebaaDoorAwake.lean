/- awake's closed self-check, by the evaluator, in pieces. -/
import Derived.Test.YtllhejjcmfiebaaDoorP0
import Derived.Test.YtllhejjcmfiebaaDoorOrc
set_option linter.unusedVariables false
set_option linter.unusedSimpArgs false
set_option linter.unnecessarySimpa false
open Go Go.Ev Go.Proofs
namespace Go.Ev.Aw
set_option maxRecDepth 1000000
theorem follows_mixed : P.follows .mixedOrders = true := by kernel_rfl
theorem awake_calls (w : World) (hw : OKW w) : Calls Tryd.prog 22 #[] w fun e w' => e = .returned (.bool true) ∧ Kept w w' := by
 haveI : OrcSound P := Go.Proofs.YtllhejjcmfiebaaDoor.orc_sound
 have h := sound_end follows_mixed e
 have h := sound_piece follows_mixed s12 h
 have h := sound_piece follows_mixed s6 h
 exact sound_calls start h w hw
end Go.Ev.Aw
namespace Go.Proofs.YtllhejjcmfiebaaDoor
open Go.RowKit
theorem awake_spec (w : World) (h : Tab w) : Calls Tryd.prog 22 #[] w fun e w' => e = .returned (.bool true) ∧ Below w.heap.size w w' :=
 (Go.Ev.Aw.awake_calls w (okw_of_tab h)).mono fun e w' ⟨he, hk⟩ => ⟨he, ⟨hk.os, hk.tape, hk.output, hk.size, hk.heap⟩⟩
end Go.Proofs.YtllhejjcmfiebaaDoor
