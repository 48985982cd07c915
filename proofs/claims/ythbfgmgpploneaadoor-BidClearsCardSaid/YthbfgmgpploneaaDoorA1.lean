import Derived.Test.YthbfgmgpploneaaDoorChecked
import Derived.Test.YthbfgmgpploneaaDoorWords
import Derived.Test.YthbfgmgpploneaaDoorPure2
import Derived.Deep.RegionHeld3
import Derived.Deep.DeepCutAuto
set_option linter.unusedVariables false
set_option linter.unusedSimpArgs false
set_option linter.unnecessarySimpa false
namespace Go.Proofs.YthbfgmgpploneaaDoor
open Go.RowKit

theorem Tryd.info2 : (Tryd.prog.info? 2).map (fun i => (i.zero, i.size, i.bytes)) = some (some (.int .i64 0), 1, 8) := by kernel_rfl
theorem Tryd.info3 : (Tryd.prog.info? 3).map (fun i => (i.zero, i.size, i.bytes)) = some (some (.int .i64 0), 1, 8) := by kernel_rfl

set_option maxHeartbeats 400000 in
theorem list_any (v : Value) (l : List Int) (most : Nat) (w : World) (hl : SlA w v (ints l)) (hm : most ≤ 1000) :
    Calls Tryd.prog 36 #[v, .int .i64 most] w fun e w' => ∃ v', e = .returned v' ∧ Own 2 w.heap.size w' v' (ints (l.take most)) ∧ Below w.heap.size w w' := by
  obtain ⟨p, cap, rfl, hlc, hcm⟩ := hl.form
  have HL := Lib.hid hl
  clear hl
  by_cases h : most < l.length
  · have HT : Hid (SlA w (.slice p most cap) (ints (l.take most))) := by rw [← ints_take]; exact HL.out.take most (by omega)
    have hc : most ≤ cap := by omega
    have HQ : Hid ((ints (l.take most)).length = most) := by show _ = _; rw [ints_length, List.length_take]; omega
    go_enter Tryd.func36, Tryd.ntmps36
    go_wp2_with (first | (at_builtin; refine wpList_append_sl _ rfl (.tmp 6) (.tmp 12) 31 rfl 2 (.int .i64 0) 8 Tryd.underlying31 Tryd.info2 rfl w.heap.size (.slice none 0 0) [] rfl (World.ownsRow_nil _ _ _ _) (.slice p most cap) (ints (l.take most)) rfl HT.out (ints_one _) ?c1 ?c2 (Nat.le_refl _) ?_))
    case c1 => rw [HQ.out]; simp [maxLen]; omega
    case c2 => rw [HQ.out]; simp; omega
    intro v' w' hown hg
    have HO := Lib.hid hown
    have HG := Lib.hid hg
    clear hown hg
    go_wp2
    go_ret
    exact ⟨v', rfl, HO.out, (Below.refl _ _).grown HG.out (Nat.le_refl _) (fun k hk => by cases hk)⟩
  · have hc : l.length ≤ 1000 := by omega
    have HQ : Hid (l.take most = l) := List.take_of_length_le (by omega)
    go_enter Tryd.func36, Tryd.ntmps36
    go_wp2_with (first | (at_builtin; refine wpList_append_sl _ rfl (.tmp 6) (.tmp 12) 31 rfl 2 (.int .i64 0) 8 Tryd.underlying31 Tryd.info2 rfl w.heap.size (.slice none 0 0) [] rfl (World.ownsRow_nil _ _ _ _) (.slice p l.length cap) (ints l) rfl HL.out (ints_one _) ?c1 ?c2 (Nat.le_refl _) ?_))
    case c1 => rw [ints_length]; simp [maxLen]; omega
    case c2 => rw [ints_length]; simp; omega
    intro v' w' hown hg
    have HO := Lib.hid hown
    have HG := Lib.hid hg
    clear hown hg
    go_wp2
    go_ret
    exact ⟨v', rfl, by rw [HQ.out]; exact HO.out, (Below.refl _ _).grown HG.out (Nat.le_refl _) (fun k hk => by cases hk)⟩
end Go.Proofs.YthbfgmgpploneaaDoor
