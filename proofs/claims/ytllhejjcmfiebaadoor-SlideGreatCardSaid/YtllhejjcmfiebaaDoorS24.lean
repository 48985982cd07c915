/- The program's Sides. -/
import Derived.Test.YtllhejjcmfiebaaDoorS23
import Derived.Test.YtllhejjcmfiebaaDoorS16
import Derived.Deep.RegionWith
import Derived.Deep.RegionHeld3
set_option linter.unusedVariables false
set_option linter.unusedSimpArgs false
set_option linter.unnecessarySimpa false
namespace Go.Proofs.YtllhejjcmfiebaaDoor
open Go.RowKit Go.Shelf
theorem check_lt {n : Int} {l : Ps} (h : checkB n l = 0) : ∃ N : Nat, n = (N : Int) ∧ 2 ≤ N ∧ N ≤ 9 ∧ Lt (toE l) N := by
 have hs := size_of_check h
 have hs' := hs
 simp only [sizeB, Bool.and_eq_true, decide_eq_true_eq] at hs'
 obtain ⟨N, rfl⟩ : ∃ N : Nat, n = (N : Int) := ⟨n.toNat, by omega⟩
 refine ⟨N, rfl, by omega, by omega, ?_⟩
 unfold checkB at h
 rw [if_pos hs] at h
 split at h
 ·rename_i hc
  have hok : boardOk N l = true := (Bool.and_eq_true _ _ ▸ hc : _ ∧ _).1
  have := ok_lt (n := N) (l := l) (k := l.length) (by omega) (Nat.le_refl _) fun j hj => List.all_eq_true.1 hok j (List.mem_range.2 hj)
  rwa [List.take_length] at this
 ·cases h
end Go.Proofs.YtllhejjcmfiebaaDoor
