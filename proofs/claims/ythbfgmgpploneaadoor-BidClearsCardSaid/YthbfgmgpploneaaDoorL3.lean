/- From what comes in to what the walks speak of. -/
import Derived.Test.YthbfgmgpploneaaDoorL2
import Derived.ProofKit
set_option linter.unusedVariables false
set_option linter.unusedSimpArgs false
set_option linter.unnecessarySimpa false
namespace Go.Proofs.YthbfgmgpploneaaDoor
open Go.RowKit

theorem in64_of_wf {l : List Int} (h : ∀ n ∈ l, (Lit.int .i64 n).wf = true) : In64 l := fun i => by
  by_cases hi : i < l.length
  · have := h (l.getD i 0) (by rw [List.getD_eq_getElem?_getD, List.getElem?_eq_getElem hi]; exact List.getElem_mem hi)
    simp [Lit.wf, IntKind.min, IntKind.max, IntKind.bits, IntKind.signed] at this
    rw [List.getD_eq_getElem?_getD]; omega
  · rw [List.getD_eq_getElem?_getD, List.getElem?_eq_none (by omega)]; simp
theorem slA_row {w : World} {x : Addr} {len cap : Nat} {zs : List Int} (hl : len ≤ cap) (hm : cap ≤ maxLen) (hz : zs.length = cap) (hc : ∀ i, i < zs.length → w.cell? (x.add i) = some (.int .i64 (zs.getD i 0))) :
    SlA w (.slice (some x) len cap) (ints (zs.take len)) := by
  have e : (ints (zs.take len)).length = len := by rw [ints_length, List.length_take]; omega
  refine ⟨some x, cap, by rw [e], by omega, hm, (fun h => by cases h), fun h0 => ?_⟩
  rw [e] at h0
  refine ⟨x, rfl, ?_, fun i hi => ?_⟩
  · have := World.block_lt_of_cell? _ _ (hc 0 (by omega))
    rw [block_add] at this; exact this
  · rw [e] at hi
    rw [hc i (by omega), ints_get _ _ (by rw [List.length_take]; omega)]
    have : (zs.take len).getD i 0 = zs.getD i 0 := by rw [List.getD_eq_getElem?_getD, List.getD_eq_getElem?_getD, List.getElem?_take_of_lt hi]
    rw [this]
end Go.Proofs.YthbfgmgpploneaaDoor
