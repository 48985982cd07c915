/- The law's copies of what comes in: own, list; and a slice of pairs that comes in, opened. -/
import Derived.Test.YtllhejjcmfiebaaDoorS16
import Derived.Deep.Slices
import Derived.OpenShut
set_option linter.unusedVariables false
set_option linter.unusedSimpArgs false
set_option linter.unnecessarySimpa false
namespace Go.Proofs.YtllhejjcmfiebaaDoor
open Go.RowKit Go.Shelf
def PaA (w : World) (v : Value) (l : Ps) : Prop :=
 (v = .slice none 0 0 ∧ l = []) ∨ ∃ (ad : Addr) (cap : Nat), v = .slice (some ad) l.length cap ∧ l.length ≤ cap ∧ cap ≤ maxLen ∧ ∀ j u, (prs l)[j]? = some u → w.cell? (ad.add j) = some u
theorem prs_take (l : Ps) (k j : Nat) (u : Value) (h : (prs (l.take k))[j]? = some u) : (prs l)[j]? = some u := by
 have e : prs l = prs (l.take k) ++ prs (l.drop k) := by rw [← prs_append, List.take_append_drop]
 rw [e, List.getElem?_append_left (List.getElem?_eq_some_iff.1 h).1]
 exact h
theorem PaA.take {w : World} {p : Option Addr} {n cap : Nat} {l : Ps} (h : PaA w (.slice p n cap) l) (k : Nat) (hk : k ≤ n) : PaA w (.slice p k cap) (l.take k) := by
 rcases h with ⟨h1, rfl⟩ | ⟨ad, c, h1, h2, h3, h4⟩
 ·cases h1
  have : k = 0 := by omega
  subst this
  exact Or.inl ⟨rfl, rfl⟩
 ·cases h1
  have e : (l.take k).length = k := by rw [List.length_take]; omega
  exact Or.inr ⟨ad, cap, by rw [e], by omega, h3, fun j u hj => h4 j u (prs_take l k j u hj)⟩
theorem PaA.form {w : World} {v : Value} {l : Ps} (h : PaA w v l) : ∃ p cap, v = .slice p l.length cap ∧ l.length ≤ cap ∧ cap ≤ 9223372036854775807 := by
 rcases h with ⟨rfl, rfl⟩ | ⟨ad, c, rfl, h2, h3, h4⟩
 ·exact ⟨none, 0, rfl, Nat.le_refl _, by omega⟩
 ·unfold maxLen at h3; exact ⟨_, c, rfl, h2, h3⟩
theorem Tryd.infoI : (Tryd.prog.info? 3).map (fun i => (i.zero, i.size, i.bytes)) = some (some (.int .i64 0), 1, 8) := by kernel_rfl
theorem slA_row {w : World} {x : Addr} {len cap : Nat} {zs : List Int} (hl : len ≤ cap) (hm : cap ≤ maxLen) (hz : len ≤ zs.length) (hc : ∀ i, i < zs.length → w.cell? (x.add i) = some (.int .i64 (zs.getD i 0))) :
  SlA w (.slice (some x) len cap) (ints (zs.take len)) := by
 have e : (ints (zs.take len)).length = len := by rw [ints_length, List.length_take]; omega
 refine ⟨some x, cap, by rw [e], by omega, hm, (fun h => by cases h), fun h0 => ?_⟩
 rw [e] at h0
 refine ⟨x, rfl, ?_, fun i hi => ?_⟩
 ·have := World.block_lt_of_cell? _ _ (hc 0 (by omega))
  rw [block_add] at this; exact this
 ·rw [e] at hi
  rw [hc i (by omega), ints_get _ _ (by rw [List.length_take]; omega)]
  have : (zs.take len).getD i 0 = zs.getD i 0 := by rw [List.getD_eq_getElem?_getD, List.getD_eq_getElem?_getD, List.getElem?_take_of_lt hi]
  rw [this]
end Go.Proofs.YtllhejjcmfiebaaDoor
