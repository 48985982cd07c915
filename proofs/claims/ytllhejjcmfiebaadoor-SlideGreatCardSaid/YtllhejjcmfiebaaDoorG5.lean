/- SlideGrids: the law. -/
import Derived.Test.YtllhejjcmfiebaaDoorG4
import Derived.Test.YtllhejjcmfiebaaDoorAwake
set_option linter.unusedVariables false
set_option linter.unusedSimpArgs false
set_option linter.unnecessarySimpa false
namespace Go.Proofs.YtllhejjcmfiebaaDoor
open Go.RowKit
theorem tmodN (x : Int) (n : Nat) (hn : 0 < n) : ∃ z : Nat, z < n ∧ (IntKind.u64.wrap x).tmod n = (z : Int) := by
 have h : IntKind.u64.wrap x = x % 2 ^ 64 := by simp [IntKind.wrap, IntKind.bits, IntKind.signed]
 have h0 : 0 ≤ IntKind.u64.wrap x := by rw [h]; omega
 have h1 := Int.tmod_nonneg (n : Int) h0
 have h2 := Int.tmod_lt_of_pos (IntKind.u64.wrap x) (by omega : (0 : Int) < n)
 exact ⟨((IntKind.u64.wrap x).tmod n).toNat, by omega, by omega⟩
end Go.Proofs.YtllhejjcmfiebaaDoor
