/- The table of math/bits out of what the row lays. -/
import Derived.Test.YtllhejjcmfiebaaDoorRows
import Derived.Test.YtllhejjcmfiebaaDoorTz
import Derived.ProofKit
import Derived.OpenShut
import Derived.LaidMore
import Derived.Lay
import Derived.MakeChecks
import Derived.SevenTiedAt
set_option linter.unusedVariables false
set_option linter.unusedSimpArgs false
set_option linter.unnecessarySimpa false
namespace Go.Proofs.YtllhejjcmfiebaaDoor
open Go.RowKit Go.ChangeShapes Go.WideShapes Go.ChangeAt
theorem Tryd.under_tab : Tryd.prog.underlying 135 = some (.array 32 5) := by kernel_rfl
theorem Tryd.under_u8 : Tryd.prog.underlying 5 = some (.int .u8) := by kernel_rfl
theorem tab_cell {W : World} (h : laidMetH Tryd.prog [("math/bits.deBruijn32tab", Rows.laid_math_bits_deBruijn32tab)] W) (r : Nat) (hr : r < 32) : W.cell? ⟨0, r, none⟩ = some (.int .u8 (tabList.getD r 0)) := by
 rw [MakeChecks.laidMetH_plain _ _ _ (by kernel_rfl)] at h
 obtain ⟨ps, ⟨g, t, cs, fuel, p, q, hg, ht, hv, hd, _⟩, _⟩ := h
 obtain rfl := Option.some.inj ((show Tryd.prog.globalNamed "math/bits.deBruijn32tab" = some 0 by kernel_rfl).symm.trans hg)
 obtain rfl := Option.some.inj ((show (Tryd.prog.globals[0]?).map (·.type) = some 135 by kernel_rfl).symm.trans ht)
 obtain ⟨xs, m, _, ex, _, hl, hel⟩ := DataW.trod_array Tryd.under_tab hd
 have c5 : Tryd.prog.cellsOf 5 = 1 := by kernel_rfl
 have hE := hel r (by omega)
 rw [c5, Nat.mul_one, List.getElem?_eq_getElem (by omega)] at hE
 obtain ⟨z, e1, e2, _⟩ := DataW.trod_int Tryd.under_u8 hE
 have hx : xs[r]? = some xs[r] := List.getElem?_eq_getElem (by omega)
 have e3 : (xs.map (·.1)) = (match (Rows.laid_math_bits_deBruijn32tab : DataW Unit) with | .agg l => l | _ => []) := by rw [show (Rows.laid_math_bits_deBruijn32tab : DataW Unit) = _ from (Prod.mk.inj ex).1]
 have e4 : (xs.map (·.1))[r]? = some (.lit (.int .u8 (tabList.getD r 0)) : DataW Unit) := by
  rw [e3]
  have key : ((List.range 32).all fun r => match ((match (Rows.laid_math_bits_deBruijn32tab : DataW Unit) with | .agg l => l | _ => [])[r]? : Option (DataW Unit)) with | some (.lit (.int .u8 n)) => n == tabList.getD r 0 | _ => false) = true := by kernel_rfl
  have h1 := List.all_eq_true.1 key r (List.mem_range.2 hr)
  split at h1
  ·rename_i n hn
   rw [hn, show n = tabList.getD r 0 by simpa using h1]
  ·cases h1
 rw [List.getElem?_map, hx, Option.map_some, e2] at e4
 have hz : z = tabList.getD r 0 := by
  simp only [Option.some.injEq, DataW.lit.injEq, Lit.int.injEq, true_and] at e4
  exact e4
 rw [World.var?_cell hg hv r, ← hz]
 have : cs.toList[r]? = some (.int .u8 z) := by
  have h0 : ((cs.toList.drop r).take 1)[0]? = some (.int .u8 z) := by rw [e1]; rfl
  simpa using h0
 simpa using this
theorem tab_of {W : World} (h : laidMetH Tryd.prog [("math/bits.deBruijn32tab", Rows.laid_math_bits_deBruijn32tab)] W) : Tab W := by
 refine ⟨fun r hr => tab_cell h r hr, ?_⟩
 have h0 := tab_cell h 0 (by omega)
 refine Nat.lt_of_not_le fun hle => ?_
 have : W.heap[0]? = none := Array.getElem?_eq_none hle
 simp [World.cell?, this] at h0
end Go.Proofs.YtllhejjcmfiebaaDoor
