/- slices.Grow of nothing, slices.Concat of two lists of offers. -/
import Derived.Test.YtoenpecdhjadmaaDoorR11
import Derived.Lib.AppendZerosOnto
set_option linter.unusedVariables false
set_option linter.unusedSimpArgs false
set_option linter.unnecessarySimpa false
namespace Go.Proofs.YtoenpecdhjadmaaDoor
open Go.RowKit

/-- 'append(nil, make([]T, k)...)' -/
theorem wpList_append_zeros {P : Program} (w : World) {ops : Array Oper} {rest : List Oper} {o : Oper} {a : Act} {Q : Exit → Act → World → Prop} (hgd : o.guard = none) (s x : Operand) (t tn : TypeId)
    (ho : o.op = .call { callee := .builtin .append, args := #[s, x], argTypes := #[t, tn] })
    (e : TypeId) (z : Value) (bytes : Nat) (kn kq : IntKind) (ht : P.underlying t = some (.slice e)) (htn : P.underlying tn = some (.int kn)) (hinfo : (P.info? e).map (fun i => (i.zero, i.size, i.bytes)) = some (some z, 1, bytes))
    (k : Nat) (hs : a.eval s = .slice none 0 0) (hx : a.eval x = .int kq k) (h0 : 0 < k) (hk : k ≤ 1000) (hb : bytes ≤ 100) (hzc : z.cells.size = 1)
    (h : ∀ w' cap xs, Row e w' w.heap.size xs → Hid (xs.length = cap) → k ≤ cap → cap ≤ maxLen → Below w.heap.size w w' → wpList P ops Q rest (a.put o.dst (.slice (some ⟨w.heap.size, 0, none⟩) k cap)) w') : wpList P ops Q (o :: rest) a w := by
  obtain ⟨i, hi, hz0, hz1, hz2⟩ := info_parts hinfo
  have hkb : k * i.bytes ≤ 1000 * 100 := by rw [hz2]; exact Nat.mul_le_mul hk hb
  have hn : Builtin.nextslicecap (0 + k) 0 = k := by unfold Builtin.nextslicecap; rw [if_pos (by omega)]; omega
  have hrun := Lib.run_append_grow_zeros w t tn o.type e i z kq kn ht htn hi hz0 none 0 0 [] (run_firstCells_none w.drew i.size 0 0 0) k h0 (by omega) (by omega) (by omega) (by omega) (by rw [hn]; omega)
  rw [Nat.zero_add] at hrun
  have hge := grownCap_ge w k 0 e
  have hle := grownCap_le_maxLen w k 0 e (by unfold maxLen; omega)
  obtain ⟨G, hG⟩ : ∃ G, grownCap w k 0 e = G := ⟨_, rfl⟩
  rw [hG] at hrun hge hle
  obtain ⟨cs, hcs⟩ : ∃ cs, #[] ++ Builtin.zeroCells z.cells k ++ Builtin.zeroCells z.cells (G - k) = cs := ⟨_, rfl⟩
  have hcl : cs.toList.length = G := by rw [← hcs]; simp [size_zeroCells, hzc]; omega
  rw [hcs] at hrun
  refine Go.Great.wpList_runTo hgd o.dst rfl (.slice (some ⟨w.heap.size, 0, none⟩) k G) (w.drew.alloc (.cells cs e)) ?_ (h _ G cs.toList (row_new e w.drew cs) (Lib.hid hcl) hge hle ((Below.refl w.heap.size w).drew.alloc (Nat.le_refl _) _))
  unfold execOp
  simp only [ho, resolve, invoke, builtin, Sem.run_bind, Sem.run_pure, Result.andThen_ok, List.map_toArray, List.map_cons, List.map_nil, hs, hx, hrun]
set_option maxRecDepth 100000 in
set_option maxHeartbeats 2000000 in
theorem grow_go (n : Nat) (w : World) (hn : n ≤ 7) :
    Calls Tryd.prog 82 #[.slice none 0 0, .int .i64 n] w fun e w' => ∃ v', e = .returned v' ∧ Own 31 w.heap.size w' v' [] ∧ Below w.heap.size w w' := by
  have hneg : decide ((n : Int) < 0) = false := by rw [decide_eq_false_iff_not]; omega
  have hn0 : (0 : Int) ≤ (n : Int) := by omega
  by_cases h0 : 0 < n
  · have hp : decide ((0 : Int) < (n : Int)) = true := by rw [decide_eq_true_eq]; omega
    have hp' : (0 : Int) < (n : Int) := by omega
    go_enter Tryd.func82, Tryd.ntmps82
    go_wp2_with (first | (at_builtin; refine wpList_append_zeros w rfl (.tmp 20) (.tmp 21) 22 3 rfl 31 (.slice none 0 0) 24 .i64 .i64 Tryd.underlying22 Tryd.underlying3 Tryd.info31 n rfl rfl h0 (by omega) (by omega) rfl ?_))
    intro w1 cap xs hrow hl hk hm hb
    have HROW := Lib.hid hrow
    have HB := Lib.hid hb
    have HOWN : Hid (Own 31 w.heap.size w1 (.slice (some ⟨w.heap.size, 0, none⟩) 0 cap) []) := Own.of_row (xs := []) (more := xs) hrow (Nat.le_refl _) hm (by simp [hl.out])
    have hcap : (0 : Int) ≤ (cap : Int) := by omega
    clear hrow hb
    unfold maxLen at hm
    go_wp2
    go_ret
    exact ⟨_, rfl, HOWN.out, HB.out⟩
  · obtain rfl : n = 0 := by omega
    go_enter Tryd.func82, Tryd.ntmps82
    go_wp2
    go_ret
    exact ⟨_, rfl, World.ownsRow_nil _ _ _ _, Below.refl _ _⟩
/-- a slice of slices of one-cell values -/
def Lists (w : World) (v : Value) (parts : List (List Value)) : Prop :=
  ∃ vs, vs.length = parts.length ∧ Sl w v vs ∧ ∀ i u, vs[i]? = some u → Sl w u (parts.getD i [])
theorem Lists.below {w w' : World} {v : Value} {parts : List (List Value)} (h : Lists w v parts) (hb : Below w.heap.size w w') : Lists w' v parts := by
  obtain ⟨vs, hl, hs, hr⟩ := h
  exact ⟨vs, hl, hs.below hb, fun i u hu => (hr i u hu).below hb⟩
theorem Lists.form_ {w : World} {v : Value} {parts : List (List Value)} (h : Lists w v parts) : ∃ p cap, v = .slice p parts.length cap ∧ parts.length ≤ cap ∧ cap ≤ maxLen := by
  obtain ⟨vs, hl, ⟨p, cap, hv, h1, h2, _, _⟩, _⟩ := h
  exact ⟨p, cap, by rw [hv, hl], by omega, h2⟩
theorem Lists.part_at {w : World} {v : Value} {parts : List (List Value)} (h : Lists w v parts) (i : Nat) (hi : i < parts.length) :
    ∃ b off cap u, v = .slice (some ⟨b, off, none⟩) parts.length cap ∧ w.cell? ⟨b, off + i, none⟩ = some u ∧ Sl w u (parts.getD i []) := by
  obtain ⟨vs, hl, ⟨p, cap, hv, h1, h2, _, hp⟩, hr⟩ := h
  obtain ⟨u, hu⟩ : ∃ u, vs[i]? = some u := ⟨vs[i]'(by omega), List.getElem?_eq_getElem (by omega)⟩
  rw [hl] at hv h1 hp
  obtain ⟨b, off, rfl, hb, hc⟩ := hp (by omega)
  exact ⟨b, off, cap, u, hv, by rw [hc i hi, hu], hr i u hu⟩
def lenTo (parts : List (List Value)) : Nat → Nat
  | 0 => 0
  | k + 1 => lenTo parts k + (parts.getD k []).length
theorem lenTo_cat (parts : List (List Value)) (k : Nat) (hk : k ≤ parts.length) : lenTo parts k = (parts.take k).flatten.length := by
  induction k with
  | zero => rfl
  | succ k ih =>
    rw [List.take_succ_eq_append_getElem (by omega), List.flatten_append, List.length_append, ← ih (by omega)]
    show _ + (parts.getD k []).length = _
    rw [List.getD_eq_getElem?_getD, List.getElem?_eq_getElem (by omega)]
    simp
theorem cat_succ (parts : List (List Value)) (k : Nat) (hk : k < parts.length) : (parts.take (k + 1)).flatten = (parts.take k).flatten ++ parts.getD k [] := by
  rw [List.take_succ_eq_append_getElem hk, List.flatten_append, List.getD_eq_getElem?_getD, List.getElem?_eq_getElem hk]
  simp
theorem lenTo_mono (parts : List (List Value)) {j k : Nat} (h : j ≤ k) : lenTo parts j ≤ lenTo parts k := by
  induction k with
  | zero => have : j = 0 := by omega
            subst this; exact Nat.le_refl _
  | succ k ih =>
    rcases Nat.lt_or_ge j (k + 1) with g | g
    · exact Nat.le_trans (ih (by omega)) (Nat.le_add_right _ _)
    · have : j = k + 1 := by omega
      subst this; exact Nat.le_refl _
set_option maxRecDepth 100000 in
set_option maxHeartbeats 2000000 in
theorem concat_go (v : Value) (parts : List (List Value)) (w : World) (hl : Lists w v parts) (hn : parts.length ≤ 7) (ht : parts.flatten.length ≤ 7) (hone : ∀ p ∈ parts, ∀ u ∈ p, u.oneCell' = true) :
    Calls Tryd.prog 70 #[v] w fun e w' => ∃ v', e = .returned v' ∧ Own 31 w.heap.size w' v' parts.flatten ∧ Below w.heap.size w w' := by
  obtain ⟨p, cap, rfl, hlc, hcm⟩ := hl.form_
  unfold maxLen at hcm
  have HL := Lib.hid hl
  have hl0 : (0 : Int) ≤ (parts.length : Int) := by omega
  have HTOT : Hid (lenTo parts parts.length = parts.flatten.length) := by
    show _ = _; rw [lenTo_cat _ _ (Nat.le_refl _), List.take_length]
  have HLE : Hid (∀ k, k ≤ parts.length → lenTo parts k ≤ 7) := fun k hk => by
    have := lenTo_mono parts hk; have := HTOT.out; omega
  have HONE : Hid (∀ k, k < parts.length → ∀ u ∈ parts.getD k [], u.oneCell' = true) := fun k hk => by
    rw [List.getD_eq_getElem?_getD, List.getElem?_eq_getElem hk]
    exact hone _ (List.getElem_mem hk)
  clear hl hone
  go_enter Tryd.func70, Tryd.ntmps70
  go_wp2
  go_loop [3, 11] (fun s i => ∃ k : Nat, k ≤ parts.length ∧ i = .int .i64 k ∧ s = .int .i64 (lenTo parts k : Nat)) (fun _ i => parts.length - (intOf i).toNat)
  case atStart => exact ⟨0, Nat.zero_le _, rfl, rfl⟩
  case round =>
    obtain ⟨k, hk, rfl, rfl⟩ := hrel
    by_cases hlt : k < parts.length
    · obtain ⟨b, off, cap', u, hv, hcu, hsu⟩ := HL.out.part_at k hlt
      cases hv
      obtain ⟨up, uc, rfl, hulc, hucm, _⟩ := hsu
      have HS : Hid (lenTo parts (k + 1) = lenTo parts k + (parts.getD k []).length) := rfl
      have h1 := HLE.out (k + 1) hlt
      have h1' : lenTo parts k + (parts.getD k []).length ≤ 7 := h1
      obtain ⟨r, hr⟩ : ∃ r, (parts.getD k []).length = r := ⟨_, rfl⟩
      obtain ⟨x, hx⟩ : ∃ x, lenTo parts k = x := ⟨_, rfl⟩
      rw [hr] at hcu HS h1' hulc
      rw [hx] at HS h1' ⊢
      unfold maxLen at hucm
      have hw1 : IntKind.i64.wrap ((x : Int) + (r : Int)) = ((x : Int) + (r : Int)) := IntWalk.i64_in _ (by omega)
      have hneg : decide ((x : Int) + (r : Int) < 0) = false := by rw [decide_eq_false_iff_not]; omega
      have hge : (0 : Int) ≤ (x : Int) + (r : Int) := by omega
      clear hr hx h1
      go_wp2
      go_round
      case rel => exact ⟨k + 1, by omega, by go_num, by rw [HS.out]; rfl⟩
      case measure => simp [intOf]; omega
    · obtain rfl : k = parts.length := by omega
      rw [HTOT.out]
      obtain ⟨n, hn'⟩ : ∃ n, parts.flatten.length = n := ⟨_, rfl⟩
      rw [hn'] at ht ⊢
      have HGR := Lib.hid (grow_go n w ht)
      have HNN := Lib.hid hn'
      clear hn'
      go_wp2_with (first | (go_at_call 82; refine HGR.out.mono ?_; rintro e w1 ⟨v1, rfl, hown1, hb1⟩; have HOWN1 := Lib.hid hown1; have HB1 := Lib.hid hb1; clear hown1 hb1))
      go_loopw [6, 27] (fun o i wr => ∃ k : Nat, k ≤ parts.length ∧ i = .int .i64 k ∧ Own 31 w.heap.size wr o (parts.take k).flatten ∧ Below w.heap.size w wr) (fun _ i _ => parts.length - (intOf i).toNat)
      case atStart => exact ⟨0, Nat.zero_le _, rfl, HOWN1.out, HB1.out⟩
      case round =>
        clear HOWN1 HB1
        obtain ⟨k, hk, rfl, hown, hb⟩ := hrel
        by_cases hlt2 : k < parts.length
        · obtain ⟨b, off, cap', u, hv, hcu, hsu⟩ := (HL.out.below hb).part_at k hlt2
          cases hv
          have HOWN := Lib.hid hown
          have HB := Lib.hid hb
          have HSU := Lib.hid hsu.toA
          have HCAT := Lib.hid (cat_succ parts k hlt2)
          have HO := Lib.hid (HONE.out k hlt2)
          have h7 : (parts.take k).flatten.length + (parts.getD k []).length ≤ 7 := by
            rw [← lenTo_cat _ _ (by omega)]; exact HLE.out (k + 1) hlt2
          have H7 := Lib.hid h7
          obtain ⟨q, hq⟩ : ∃ q, parts.getD k [] = q := ⟨_, rfl⟩
          rw [hq] at HSU HCAT HO H7
          obtain ⟨up, uc, hue, hulc, hucm, _⟩ := hsu
          subst hue
          rw [hq] at hcu hulc HSU
          unfold maxLen at hucm
          clear hown hb h7 hq
          go_wp2_with (first | (at_builtin; refine wpList_append_sl wr rfl (.tmp 31) (.tmp 32) 22 rfl 31 (.slice none 0 0) 24 Tryd.underlying22 Tryd.info31 rfl w.heap.size u6 (parts.take k).flatten rfl HOWN.out _ q rfl HSU.out HO.out ?a1 ?a2 ?a3 ?_))
          case a1 => have := H7.out; unfold maxLen; omega
          case a2 => have := H7.out; omega
          case a3 => exact HB.out.size
          intro v' w' hown hg
          have HOWN2 : Hid (Own 31 w.heap.size w' v' (parts.take (k + 1)).flatten) := by rw [HCAT.out]; exact hown
          have HB2 := Lib.hid (HB.out.grown hg HB.out.size HOWN.out.row_ge)
          clear hown hg
          go_wp2
          go_roundw
          case rel => exact ⟨k + 1, by omega, by go_num, HOWN2.out, HB2.out⟩
          case measure => simp [intOf]; omega
        · obtain rfl : k = parts.length := by omega
          rw [List.take_length] at hown
          have HOWN := Lib.hid hown
          have HB := Lib.hid hb
          clear hown hb
          go_wp2
          go_ret
          exact ⟨_, rfl, HOWN.out, HB.out⟩
end Go.Proofs.YtoenpecdhjadmaaDoor
