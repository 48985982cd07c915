/- The law's copies of what comes in: own, list; and a slice of pairs that comes in, opened. -/
import Derived.Test.YtllhejjcmfiebaaDoorS16
import Derived.Deep.Slices
import Derived.OpenShut
set_option linter.unusedVariables false
set_option linter.unusedSimpArgs false
set_option linter.unnecessarySimpa false
namespace Go.Proofs.YtllhejjcmfiebaaDoor
open Go.RowKit Go.Shelf
def PaA (w : World) (v : Value) (l : Ps) : Prop :=
 (v = .slice none 0 0 ∧ l = []) ∨ ∃ (ad : Addr) (cap : Nat), v = .slice (some ad) l.length cap ∧ l.length ≤ cap ∧ cap ≤ maxLen ∧ ∀ j u, (prs l)[j]? = some u → w.cell? (ad.add j) = some u
theorem prs_take (l : Ps) (k j : Nat) (u : Value) (h : (prs (l.take k))[j]? = some u) : (prs l)[j]? = some u := by
 have e : prs l = prs (l.take k) ++ prs (l.drop k) := by rw [← prs_append, List.take_append_drop]
 rw [e, List.getElem?_append_left (List.getElem?_eq_some_iff.1 h).1]
 exact h
theorem PaA.take {w : World} {p : Option Addr} {n cap : Nat} {l : Ps} (h : PaA w (.slice p n cap) l) (k : Nat) (hk : k ≤ n) : PaA w (.slice p k cap) (l.take k) := by
 rcases h with ⟨h1, rfl⟩ | ⟨ad, c, h1, h2, h3, h4⟩
 ·cases h1
  have : k = 0 := by omega
  subst this
  exact Or.inl ⟨rfl, rfl⟩
 ·cases h1
  have e : (l.take k).length = k := by rw [List.length_take]; omega
  exact Or.inr ⟨ad, cap, by rw [e], by omega, h3, fun j u hj => h4 j u (prs_take l k j u hj)⟩
theorem PaA.form {w : World} {v : Value} {l : Ps} (h : PaA w v l) : ∃ p cap, v = .slice p l.length cap ∧ l.length ≤ cap ∧ cap ≤ 9223372036854775807 := by
 rcases h with ⟨rfl, rfl⟩ | ⟨ad, c, rfl, h2, h3, h4⟩
 ·exact ⟨none, 0, rfl, Nat.le_refl _, by omega⟩
 ·unfold maxLen at h3; exact ⟨_, c, rfl, h2, h3⟩
theorem Tryd.infoI : (Tryd.prog.info? 3).map (fun i => (i.zero, i.size, i.bytes)) = some (some (.int .i64 0), 1, 8) := by kernel_rfl
set_option maxHeartbeats 400000 in
theorem list_any (v : Value) (l : List Int) (most : Nat) (w : World) (hl : SlA w v (ints l)) (hm : most ≤ 1000) :
  Calls Tryd.prog 13 #[v, .int .i64 most] w fun e w' => ∃ v', e = .returned v' ∧ Own 3 w.heap.size w' v' (ints (l.take most)) ∧ Below w.heap.size w w' := by
 obtain ⟨p, cap, rfl, hlc, hcm⟩ := hl.form
 have HL := Lib.hid hl
 clear hl
 by_cases h : most < l.length
 ·have HT : Hid (SlA w (.slice p most cap) (ints (l.take most))) := by rw [← ints_take]; exact HL.out.take most (by omega)
  have hc : most ≤ cap := by omega
  have HQ : Hid ((ints (l.take most)).length = most) := by show _ = _; rw [ints_length, List.length_take]; omega
  go_enter Tryd.func13, Tryd.ntmps13
  go_wp2_with (first | (at_builtin; refine wpList_append_sl _ rfl (.tmp 6) (.tmp 12) 23 rfl 3 (.int .i64 0) 8 Tryd.underlying23 Tryd.infoI rfl w.heap.size (.slice none 0 0) [] rfl (World.ownsRow_nil _ _ _ _) (.slice p most cap) (ints (l.take most)) rfl HT.out (ints_one _) ?c1 ?c2 (Nat.le_refl _) ?_))
  case c1 => rw [HQ.out]; simp [maxLen]; omega
  case c2 => rw [HQ.out]; simp; omega
  intro v' w' hown hg
  have HO := Lib.hid hown
  have HG := Lib.hid hg
  clear hown hg
  go_wp2
  go_ret
  exact ⟨v', rfl, HO.out, (Below.refl _ _).grown HG.out (Nat.le_refl _) (fun k hk => by cases hk)⟩
 ·have hc : l.length ≤ 1000 := by omega
  have HQ : Hid (l.take most = l) := List.take_of_length_le (by omega)
  go_enter Tryd.func13, Tryd.ntmps13
  go_wp2_with (first | (at_builtin; refine wpList_append_sl _ rfl (.tmp 6) (.tmp 12) 23 rfl 3 (.int .i64 0) 8 Tryd.underlying23 Tryd.infoI rfl w.heap.size (.slice none 0 0) [] rfl (World.ownsRow_nil _ _ _ _) (.slice p l.length cap) (ints l) rfl HL.out (ints_one _) ?c1 ?c2 (Nat.le_refl _) ?_))
  case c1 => rw [ints_length]; simp [maxLen]; omega
  case c2 => rw [ints_length]; simp; omega
  intro v' w' hown hg
  have HO := Lib.hid hown
  have HG := Lib.hid hg
  clear hown hg
  go_wp2
  go_ret
  exact ⟨v', rfl, by rw [HQ.out]; exact HO.out, (Below.refl _ _).grown HG.out (Nat.le_refl _) (fun k hk => by cases hk)⟩
theorem slA_row {w : World} {x : Addr} {len cap : Nat} {zs : List Int} (hl : len ≤ cap) (hm : cap ≤ maxLen) (hz : len ≤ zs.length) (hc : ∀ i, i < zs.length → w.cell? (x.add i) = some (.int .i64 (zs.getD i 0))) :
  SlA w (.slice (some x) len cap) (ints (zs.take len)) := by
 have e : (ints (zs.take len)).length = len := by rw [ints_length, List.length_take]; omega
 refine ⟨some x, cap, by rw [e], by omega, hm, (fun h => by cases h), fun h0 => ?_⟩
 rw [e] at h0
 refine ⟨x, rfl, ?_, fun i hi => ?_⟩
 ·have := World.block_lt_of_cell? _ _ (hc 0 (by omega))
  rw [block_add] at this; exact this
 ·rw [e] at hi
  rw [hc i (by omega), ints_get _ _ (by rw [List.length_take]; omega)]
  have : (zs.take len).getD i 0 = zs.getD i 0 := by rw [List.getD_eq_getElem?_getD, List.getD_eq_getElem?_getD, List.getElem?_take_of_lt hi]
  rw [this]
theorem list_get_pair (f : Nat → Int × Int) (n : Nat) : ∀ j u, (prs ((List.range n).map f))[j]? = some u → j / 2 < n ∧ u = .int .i64 (if j % 2 = 0 then (f (j / 2)).1 else (f (j / 2)).2) := by
 intro j u hj
 have hlt := (List.getElem?_eq_some_iff.1 hj).1
 rw [prs_len, List.length_map, List.length_range] at hlt
 have hd : j / 2 < n := by omega
 have hg : ((List.range n).map f)[j / 2]? = some (f (j / 2)) := by
  rw [List.getElem?_map, List.getElem?_range hd]; rfl
 obtain ⟨h1, h2⟩ := prs_get _ _ _ hg
 refine ⟨hd, ?_⟩
 by_cases he : j % 2 = 0
 ·rw [if_pos he]
  rw [show j / 2 * 2 = j by omega, hj] at h1
  exact Option.some.inj h1
 ·rw [if_neg he]
  rw [show j / 2 * 2 + 1 = j by omega, hj] at h2
  exact Option.some.inj h2
set_option maxRecDepth 100000 in
theorem open_pairs {H : Type} {enc : TypeId × Value → H} {w : World} {base : Nat} {spare : Nat → Bool} {held : Bool} {ad : Option Addr} {len cap : Nat} {d : DataW H} {ps : List MemPlace}
  (h : DataW.Trod enc Tryd.prog w base spare held 22 (.slice ad len cap) d ps) : ∃ l, PaA w (.slice ad len cap) l := by
 obtain ⟨fuel, hf⟩ := h
 rcases Go.Deep.open_slice Tryd.underlying22 hf with ⟨hcs, _⟩ | ⟨a, len', cap', m, n, D, Pl, hcs, hb, hl, hm, hmm, hx, hel⟩
 ·simp [Value.cells] at hcs
  obtain ⟨rfl, rfl, rfl⟩ := hcs
  exact ⟨[], Or.inl ⟨rfl, rfl⟩⟩
 ·simp [Value.cells] at hcs
  obtain ⟨rfl, rfl, rfl⟩ := hcs
  have hlm : len ≤ m := by rw [hmm]; split <;> omega
  have c2 : Tryd.prog.cellsOf 90 = 2 := by kernel_rfl
  have c1 : Tryd.prog.cellsOf 3 = 1 := by kernel_rfl
  have each : ∀ i, i < len → ∃ q : Int × Int, w.cell? (a.add (i * 2)) = some (.int .i64 q.1) ∧ w.cell? (a.add (i * 2 + 1)) = some (.int .i64 q.2) := by
   intro i hi
   obtain ⟨cs', h1, h2⟩ := hel i (by omega)
   rw [c2] at h1
   obtain ⟨_, hlen, hcell⟩ := World.cells?_some h1
   obtain ⟨xs, k, hk, hxy, _, hxl, hf2⟩ := DataW.trod_array Tryd.underlying90 h2
   have g0 := hf2 0 (by omega)
   have g1 := hf2 1 (by omega)
   rw [c1] at g0 g1
   have e0 := hcell 0 (by omega)
   have e1 := hcell 1 (by omega)
   rw [Go.Deep.add_add] at e0 e1
   obtain ⟨y0, y1, rfl⟩ : ∃ y0 y1, xs = [y0, y1] := by
    match xs, hxl with
    | [y0, y1], _ => exact ⟨y0, y1, rfl⟩
   obtain ⟨v0, v1, rfl⟩ : ∃ v0 v1, cs' = [v0, v1] := by
    match cs', hlen with
    | [v0, v1], _ => exact ⟨v0, v1, rfl⟩
   simp at g0 g1 e0 e1
   obtain ⟨z0, q0, _, _⟩ := DataW.trod_int Tryd.underlying3 g0
   obtain ⟨z1, q1, _, _⟩ := DataW.trod_int Tryd.underlying3 g1
   simp at q0 q1
   subst q0 q1
   exact ⟨(z0, z1), e0, e1⟩
  obtain ⟨q, hq⟩ := Go.Deep.choose_lt each
  refine ⟨(List.range len).map q, Or.inr ⟨a, cap, by simp, by simpa using hl, hm, fun j u hj => ?_⟩⟩
  obtain ⟨hd, rfl⟩ := list_get_pair q len j u hj
  have := hq (j / 2) hd
  by_cases he : j % 2 = 0
  ·rw [if_pos he, show j = j / 2 * 2 by omega]
   rw [this.1, show j / 2 * 2 / 2 = j / 2 by omega]
  ·rw [if_neg he]
   have h3 := this.2
   rw [show j / 2 * 2 + 1 = j by omega] at h3
   exact h3
end Go.Proofs.YtllhejjcmfiebaaDoor
