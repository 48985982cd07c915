/- slices.Reverse of an own slice of ints. -/
import Derived.Test.YtllhejjcmfiebaaDoorN1
import Derived.Test.YtllhejjcmfiebaaDoorS36
import Derived.Lib.AppendZerosOnto
import Derived.Great.Walk
set_option linter.unusedVariables false
set_option linter.unusedSimpArgs false
set_option linter.unnecessarySimpa false
namespace Go.Proofs.YtllhejjcmfiebaaDoor
open Go.RowKit Go.Shelf
def revV (X : List Value) (n : Nat) : Nat → List Value
 | 0 => X
 | i + 1 => ((revV X n i).set i (X.getD (n - 1 - i) (.bool false))).set (n - 1 - i) (X.getD i (.bool false))
theorem revV_length (X : List Value) (n : Nat) : ∀ i, (revV X n i).length = X.length
 | 0 => rfl
 | i + 1 => by show ((List.set _ _ _).set _ _).length = _; rw [List.length_set, List.length_set, revV_length X n i]
theorem revV_get (X : List Value) (n : Nat) (hn : n ≤ X.length) : ∀ i, 2 * i ≤ n → ∀ t, (revV X n i)[t]? = if t < n ∧ (t < i ∨ n ≤ t + i) then X[n - 1 - t]? else X[t]?
 | 0, _, t => by
  rw [if_neg (by omega)]; rfl
 | i + 1, h, t => by
  have ih := revV_get X n hn i (by omega)
  have hx : ∀ k, k < X.length → some (X.getD k (.bool false)) = X[k]? := fun k hk => by
   rw [List.getD_eq_getElem?_getD, List.getElem?_eq_getElem hk]; rfl
  show (((revV X n i).set i (X.getD (n - 1 - i) (.bool false))).set (n - 1 - i) (X.getD i (.bool false)))[t]? = _
  rw [List.getElem?_set, List.getElem?_set, List.length_set, revV_length]
  by_cases h1 : n - 1 - i = t
  ·rw [if_pos h1, if_pos (by omega), hx i (by omega), if_pos (by omega), show n - 1 - t = i by omega]
  ·rw [if_neg h1]
   by_cases h2 : i = t
   ·subst h2
    rw [if_pos rfl, if_pos (by omega), hx _ (by omega), if_pos (by omega)]
   ·rw [if_neg h2, ih t]
    by_cases h3 : t < n ∧ (t < i ∨ n ≤ t + i)
    ·rw [if_pos h3, if_pos (by omega)]
    ·rw [if_neg h3, if_neg (by omega)]
theorem revV_end (xs more : List Value) (i : Nat) (h1 : 2 * i ≤ xs.length) (h2 : xs.length ≤ 2 * i + 1) : revV (xs ++ more) xs.length i = xs.reverse ++ more := by
 refine List.ext_getElem? fun t => ?_
 rw [revV_get _ _ (by simp) i h1]
 by_cases ht : t < xs.length
 ·rw [List.getElem?_append_left (l₁ := xs.reverse) (by rw [List.length_reverse]; exact ht), List.getElem?_reverse ht]
  by_cases h3 : t < xs.length ∧ (t < i ∨ xs.length ≤ t + i)
  ·rw [if_pos h3, List.getElem?_append_left (by omega)]
  ·rw [if_neg h3, List.getElem?_append_left ht, show xs.length - 1 - t = t by omega]
 ·rw [if_neg (by omega), List.getElem?_append_right (by omega), List.getElem?_append_right (by rw [List.length_reverse]; omega), List.length_reverse]
set_option maxRecDepth 100000 in
set_option maxHeartbeats 2000000 in
theorem reverse_row (g n cap : Nat) (xs more : List Value) (w : World) (hr : Row 3 w g (xs ++ more)) (hn : xs.length = n) (hn6 : n ≤ 1000000) (hint : ∀ t, t < n → ∃ z : Int, (xs ++ more).getD t (.bool false) = .int .i64 z) :
  Calls Tryd.prog 81 #[.slice (some ⟨g, 0, none⟩) n cap] w fun e w' => (∃ u, e = .returned u) ∧ Row 3 w' g (xs.reverse ++ more) ∧ Same (fun b => b ≠ g) w w' := by
 have HEND := Lib.hid (revV_end xs more)
 have HGET := Lib.hid (fun i h t => revV_get (xs ++ more) n (by rw [List.length_append]; omega) i h t)
 have HLEN := Lib.hid (show n ≤ (xs ++ more).length by rw [List.length_append]; omega)
 rw [hn] at HEND
 obtain ⟨X, hX⟩ : ∃ X, xs ++ more = X := ⟨_, rfl⟩
 rw [hX] at hr HEND HGET HLEN hint
 have HINT := Lib.hid hint
 have HR := Lib.hid hr
 have gw0 : IntKind.i64.wrap ((n : Int) - 1) = (n : Int) - 1 := IntWalk.i64_in _ (by omega)
 clear hX hr hn hint
 go_enter Tryd.func81, Tryd.ntmps81
 go_wp2
 go_loopw [2, 3] (fun iv jv wr => ∃ i : Nat, 2 * i ≤ n ∧ iv = .int .i64 (i : Nat) ∧ jv = .int .i64 ((n : Int) - 1 - (i : Int)) ∧ Row 3 wr g (revV X n i) ∧ Same (fun b => b ≠ g) w wr) (fun iv _ _ => n - (intOf iv).toNat)
 case atStart => exact ⟨0, by omega, rfl, by go_num, HR.out, Same.refl _ _⟩
 case round =>
  obtain ⟨i, hi, rfl, rfl, hrow, hsame⟩ := hrel
  by_cases hlt : 2 * i + 1 < n
  ·obtain ⟨j, hj⟩ : ∃ j : Nat, (n : Int) - 1 - (i : Int) = (j : Int) := ⟨n - 1 - i, by omega⟩
   have hjn : n - 1 - i = j := by omega
   have gij : (i : Int) < (j : Int) := by omega
   have gjn : (j : Int) < (n : Int) := by omega
   have gin : (i : Int) < (n : Int) := by omega
   have hx1 : (revV X n i)[i]? = some (X.getD i (.bool false)) := by
    rw [HGET.out i hi i, if_neg (by omega), List.getD_eq_getElem?_getD, List.getElem?_eq_getElem (by have := HLEN.out; omega)]; rfl
   have hx2 : (revV X n i)[j]? = some (X.getD j (.bool false)) := by
    rw [HGET.out i hi j, if_neg (by omega), List.getD_eq_getElem?_getD, List.getElem?_eq_getElem (by have := HLEN.out; omega)]; rfl
   have ci := hrow.cell i
   rw [hx1] at ci
   have cj := hrow.cell j
   rw [hx2] at cj
   have fi := hrow.free i
   have fj := hrow.free j
   have hst := (hrow.store i (X.getD j (.bool false))).store j (X.getD i (.bool false))
   have hnext : ((revV X n i).set i (X.getD j (.bool false))).set j (X.getD i (.bool false)) = revV X n (i + 1) := by rw [← hjn]; rfl
   rw [hnext] at hst
   have hsm : Same (fun b => b ≠ g) w ((wr.setCell ⟨g, i, none⟩ (X.getD j (.bool false))).setCell ⟨g, j, none⟩ (X.getD i (.bool false))) :=
    ((hsame.trans (Same.setCell _ _ _ fun h => h rfl) fun _ _ h => h).trans (Same.setCell _ _ _ fun h => h rfl) fun _ _ h => h)
   obtain ⟨x, hx⟩ := HINT.out i (by omega)
   obtain ⟨y, hy⟩ := HINT.out j (by omega)
   rw [hx] at ci hst hsm
   rw [hy] at cj hst hsm
   have HST := Lib.hid hst
   have HSM := Lib.hid hsm
   have gne : ((j : Nat) : Int) ≠ (i : Int) := by omega
   have gwi : IntKind.i64.wrap ((i : Int) + 1) = (i : Int) + 1 := IntWalk.i64_in _ (by omega)
   have gwj : IntKind.i64.wrap ((j : Int) - 1) = (j : Int) - 1 := IntWalk.i64_in _ (by omega)
   have HJ := Lib.hid hj
   rw [hj]
   clear hst hsm hx hy hnext hx1 hx2 hrow hsame hj
   go_wp2
   go_region
   generalize hW2 : World.drew _ = W2
   have HST2 : Hid (Row 3 W2 g (revV X n (i + 1))) := Lib.hid (by rw [← hW2]; exact HST.out.drew)
   have HSM2 : Hid (Same (fun b => b ≠ g) w W2) := Lib.hid (by rw [← hW2]; exact HSM.out.trans (Same.drew _ _) fun _ _ h => h)
   clear hW2 HST HSM ci cj fi fj
   go_wp2
   go_roundw
   case rel => exact ⟨i + 1, by omega, by go_num, by rw [← HJ.out]; go_num, HST2.out, HSM2.out⟩
   case measure => simp [intOf]; omega
  ·have gij : ¬ (i : Int) < (n : Int) - 1 - (i : Int) := by omega
   have he := HEND.out i hi (by omega)
   rw [he] at hrow
   have HROW := Lib.hid hrow
   have HSA := Lib.hid hsame
   clear hrow hsame he
   go_wp2
   go_end0
   exact ⟨⟨_, rfl⟩, HROW.out, HSA.out⟩
theorem reverse_own (base : Nat) (p : Option Addr) (cap : Nat) (l : List Int) (w : World) (h0 : 0 < l.length) (h : Own 3 base w (.slice p l.length cap) (ints l)) (hl : l.length ≤ 1000000) :
  Calls Tryd.prog 81 #[.slice p l.length cap] w fun e w' => (∃ u, e = .returned u) ∧ Own 3 base w' (.slice p l.length cap) (ints l.reverse) ∧ Same (fun b => (Value.slice p l.length cap).ownBlock ≠ some b) w w' := by
 rcases h.form_ with ⟨hv, _⟩ | ⟨g, c, more, hv, hg, h1, h2, h3, hr⟩
 ·injection hv with _ e2 _; omega
 ·rw [ints_length] at hv h1 h3
  injection hv with e1 _ e3
  subst e1 e3
  have hrv := reverse_row g l.length cap (ints l) more w hr (ints_length l) hl (fun t ht => ⟨l.getD t 0, by
   rw [List.getD_eq_getElem?_getD, List.getElem?_append_left (by rw [ints_length]; exact ht), ints_get l t ht]; rfl⟩)
  refine hrv.mono ?_
  rintro e w' ⟨hu, hr', hs⟩
  refine ⟨hu, ?_, hs.mono fun x _ hx e => hx (by subst e; rfl)⟩
  have hrev : (ints l).reverse = ints l.reverse := by unfold ints; rw [List.map_reverse]
  rw [hrev] at hr'
  have hll : (ints l.reverse).length = l.length := by rw [ints_length, List.length_reverse]
  have := Own.of_row hr' hg h2 (by rw [hll]; exact h3)
  rw [hll] at this
  exact this
end Go.Proofs.YtllhejjcmfiebaaDoor
namespace Go.Proofs.YtllhejjcmfiebaaDoor
open Go.RowKit Go.Shelf
theorem wpList_append_zeros {P : Program} (w : World) {ops : Array Oper} {rest : List Oper} {o : Oper} {a : Act} {Q : Exit → Act → World → Prop} (hgd : o.guard = none) (s x : Operand) (t tn : TypeId)
  (ho : o.op = .call { callee := .builtin .append, args := #[s, x], argTypes := #[t, tn] })
  (e : TypeId) (z : Value) (bytes : Nat) (kn kq : IntKind) (ht : P.underlying t = some (.slice e)) (htn : P.underlying tn = some (.int kn)) (hinfo : (P.info? e).map (fun i => (i.zero, i.size, i.bytes)) = some (some z, 1, bytes))
  (k : Nat) (hs : a.eval s = .slice none 0 0) (hx : a.eval x = .int kq k) (h0 : 0 < k) (hk : k ≤ 1000000) (hb : bytes ≤ 100) (hzc : z.cells.size = 1)
  (h : ∀ w' cap xs, Row e w' w.heap.size xs → Hid (xs.length = cap) → k ≤ cap → cap ≤ maxLen → Below w.heap.size w w' → wpList P ops Q rest (a.put o.dst (.slice (some ⟨w.heap.size, 0, none⟩) k cap)) w') : wpList P ops Q (o :: rest) a w := by
 obtain ⟨i, hi, hz0, hz1, hz2⟩ := info_parts hinfo
 have hkb : k * i.bytes ≤ 1000000 * 100 := by rw [hz2]; exact Nat.mul_le_mul hk hb
 have hn : Builtin.nextslicecap (0 + k) 0 = k := by unfold Builtin.nextslicecap; rw [if_pos (by omega)]; omega
 have hrun := Lib.run_append_grow_zeros w t tn o.type e i z kq kn ht htn hi hz0 none 0 0 [] (run_firstCells_none w.drew i.size 0 0 0) k h0 (by omega) (by omega) (by omega) (by omega) (by rw [hn]; omega)
 rw [Nat.zero_add] at hrun
 have hge := grownCap_ge w k 0 e
 have hle := grownCap_le_maxLen w k 0 e (by unfold maxLen; omega)
 obtain ⟨G, hG⟩ : ∃ G, grownCap w k 0 e = G := ⟨_, rfl⟩
 rw [hG] at hrun hge hle
 obtain ⟨cs, hcs⟩ : ∃ cs, #[] ++ Builtin.zeroCells z.cells k ++ Builtin.zeroCells z.cells (G - k) = cs := ⟨_, rfl⟩
 have hcl : cs.toList.length = G := by rw [← hcs]; simp [size_zeroCells, hzc]; omega
 rw [hcs] at hrun
 refine Go.Great.wpList_runTo hgd o.dst rfl (.slice (some ⟨w.heap.size, 0, none⟩) k G) (w.drew.alloc (.cells cs e)) ?_ (h _ G cs.toList (row_new e w.drew cs) (Lib.hid hcl) hge hle ((Below.refl w.heap.size w).drew.alloc (Nat.le_refl _) _))
 unfold execOp
 simp only [ho, resolve, invoke, builtin, Sem.run_bind, Sem.run_pure, Result.andThen_ok, List.map_toArray, List.map_cons, List.map_nil, hs, hx, hrun]
set_option maxRecDepth 100000 in
set_option maxHeartbeats 2000000 in
theorem grow_go (n : Nat) (w : World) (hn : n ≤ 1000000) :
  Calls Tryd.prog 91 #[.slice none 0 0, .int .i64 n] w fun e w' => ∃ v', e = .returned v' ∧ Own 3 w.heap.size w' v' [] ∧ Below w.heap.size w w' := by
 have hneg : decide ((n : Int) < 0) = false := by rw [decide_eq_false_iff_not]; omega
 have hn0 : (0 : Int) ≤ (n : Int) := by omega
 by_cases h0 : 0 < n
 ·have hp : decide ((0 : Int) < (n : Int)) = true := by rw [decide_eq_true_eq]; omega
  have hp' : (0 : Int) < (n : Int) := by omega
  go_enter Tryd.func91, Tryd.ntmps91
  go_wp2_with (first | (at_builtin; refine wpList_append_zeros w rfl (.tmp 20) (.tmp 21) 23 3 rfl 3 (.int .i64 0) 8 .i64 .i64 Tryd.underlying23 Tryd.underlying3 Tryd.infoI n rfl rfl h0 (by omega) (by omega) rfl ?_))
  intro w1 cap xs hrow hl hk hm hb
  have HROW := Lib.hid hrow
  have HB := Lib.hid hb
  have HOWN : Hid (Own 3 w.heap.size w1 (.slice (some ⟨w.heap.size, 0, none⟩) 0 cap) []) := Own.of_row (xs := []) (more := xs) hrow (Nat.le_refl _) hm (by simp [hl.out])
  have hcap : (0 : Int) ≤ (cap : Int) := by omega
  clear hrow hb
  unfold maxLen at hm
  go_wp2
  go_ret
  exact ⟨_, rfl, HOWN.out, HB.out⟩
 ·obtain rfl : n = 0 := by omega
  go_enter Tryd.func91, Tryd.ntmps91
  go_wp2
  go_ret
  exact ⟨_, rfl, World.ownsRow_nil _ _ _ _, Below.refl _ _⟩
def Lists (w : World) (v : Value) (parts : List (List Value)) : Prop :=
 ∃ vs, vs.length = parts.length ∧ Sl w v vs ∧ ∀ i u, vs[i]? = some u → Sl w u (parts.getD i [])
theorem Lists.below {w w' : World} {v : Value} {parts : List (List Value)} (h : Lists w v parts) (hb : Below w.heap.size w w') : Lists w' v parts := by
 obtain ⟨vs, hl, hs, hr⟩ := h
 exact ⟨vs, hl, hs.below hb, fun i u hu => (hr i u hu).below hb⟩
theorem Lists.form_ {w : World} {v : Value} {parts : List (List Value)} (h : Lists w v parts) : ∃ p cap, v = .slice p parts.length cap ∧ parts.length ≤ cap ∧ cap ≤ maxLen := by
 obtain ⟨vs, hl, ⟨p, cap, hv, h1, h2, _, _⟩, _⟩ := h
 exact ⟨p, cap, by rw [hv, hl], by omega, h2⟩
theorem Lists.part_at {w : World} {v : Value} {parts : List (List Value)} (h : Lists w v parts) (i : Nat) (hi : i < parts.length) :
  ∃ b off cap u, v = .slice (some ⟨b, off, none⟩) parts.length cap ∧ w.cell? ⟨b, off + i, none⟩ = some u ∧ Sl w u (parts.getD i []) := by
 obtain ⟨vs, hl, ⟨p, cap, hv, h1, h2, _, hp⟩, hr⟩ := h
 obtain ⟨u, hu⟩ : ∃ u, vs[i]? = some u := ⟨vs[i]'(by omega), List.getElem?_eq_getElem (by omega)⟩
 rw [hl] at hv h1 hp
 obtain ⟨b, off, rfl, hb, hc⟩ := hp (by omega)
 exact ⟨b, off, cap, u, hv, by rw [hc i hi, hu], hr i u hu⟩
def lenTo (parts : List (List Value)) : Nat → Nat
 | 0 => 0
 | k + 1 => lenTo parts k + (parts.getD k []).length
theorem lenTo_cat (parts : List (List Value)) (k : Nat) (hk : k ≤ parts.length) : lenTo parts k = (parts.take k).flatten.length := by
 induction k with
 | zero => rfl
 | succ k ih =>
  rw [List.take_succ_eq_append_getElem (by omega), List.flatten_append, List.length_append, ← ih (by omega)]
  show _ + (parts.getD k []).length = _
  rw [List.getD_eq_getElem?_getD, List.getElem?_eq_getElem (by omega)]
  simp
theorem cat_succ (parts : List (List Value)) (k : Nat) (hk : k < parts.length) : (parts.take (k + 1)).flatten = (parts.take k).flatten ++ parts.getD k [] := by
 rw [List.take_succ_eq_append_getElem hk, List.flatten_append, List.getD_eq_getElem?_getD, List.getElem?_eq_getElem hk]
 simp
theorem lenTo_mono (parts : List (List Value)) {j k : Nat} (h : j ≤ k) : lenTo parts j ≤ lenTo parts k := by
 induction k with
 | zero => have : j = 0 := by omega
           subst this; exact Nat.le_refl _
 | succ k ih =>
  rcases Nat.lt_or_ge j (k + 1) with g | g
  ·exact Nat.le_trans (ih (by omega)) (Nat.le_add_right _ _)
  ·have : j = k + 1 := by omega
   subst this; exact Nat.le_refl _
set_option maxRecDepth 100000 in
set_option maxHeartbeats 2000000 in
theorem concat_go (v : Value) (parts : List (List Value)) (w : World) (hl : Lists w v parts) (hn : parts.length ≤ 7) (ht : parts.flatten.length ≤ 1000000) (hone : ∀ p ∈ parts, ∀ u ∈ p, u.oneCell' = true) :
  Calls Tryd.prog 82 #[v] w fun e w' => ∃ v', e = .returned v' ∧ Own 3 w.heap.size w' v' parts.flatten ∧ Below w.heap.size w w' := by
 obtain ⟨p, cap, rfl, hlc, hcm⟩ := hl.form_
 unfold maxLen at hcm
 have HL := Lib.hid hl
 have hl0 : (0 : Int) ≤ (parts.length : Int) := by omega
 have HTOT : Hid (lenTo parts parts.length = parts.flatten.length) := by
  show _ = _; rw [lenTo_cat _ _ (Nat.le_refl _), List.take_length]
 have HLE : Hid (∀ k, k ≤ parts.length → lenTo parts k ≤ 1000000) := fun k hk => by
  have := lenTo_mono parts hk; have := HTOT.out; omega
 have HONE : Hid (∀ k, k < parts.length → ∀ u ∈ parts.getD k [], u.oneCell' = true) := fun k hk => by
  rw [List.getD_eq_getElem?_getD, List.getElem?_eq_getElem hk]
  exact hone _ (List.getElem_mem hk)
 clear hl hone
 go_enter Tryd.func82, Tryd.ntmps82
 go_wp2
 go_loop [3, 11] (fun s i => ∃ k : Nat, k ≤ parts.length ∧ i = .int .i64 k ∧ s = .int .i64 (lenTo parts k : Nat)) (fun _ i => parts.length - (intOf i).toNat)
 case atStart => exact ⟨0, Nat.zero_le _, rfl, rfl⟩
 case round =>
  obtain ⟨k, hk, rfl, rfl⟩ := hrel
  by_cases hlt : k < parts.length
  ·obtain ⟨b, off, cap', u, hv, hcu, hsu⟩ := HL.out.part_at k hlt
   cases hv
   obtain ⟨up, uc, rfl, hulc, hucm, _⟩ := hsu
   have HS : Hid (lenTo parts (k + 1) = lenTo parts k + (parts.getD k []).length) := rfl
   have h1 := HLE.out (k + 1) hlt
   have h1' : lenTo parts k + (parts.getD k []).length ≤ 1000000 := h1
   obtain ⟨r, hr⟩ : ∃ r, (parts.getD k []).length = r := ⟨_, rfl⟩
   obtain ⟨x, hx⟩ : ∃ x, lenTo parts k = x := ⟨_, rfl⟩
   rw [hr] at hcu HS h1' hulc
   rw [hx] at HS h1' ⊢
   unfold maxLen at hucm
   have hw1 : IntKind.i64.wrap ((x : Int) + (r : Int)) = ((x : Int) + (r : Int)) := IntWalk.i64_in _ (by omega)
   have hneg : decide ((x : Int) + (r : Int) < 0) = false := by rw [decide_eq_false_iff_not]; omega
   have hge : (0 : Int) ≤ (x : Int) + (r : Int) := by omega
   clear hr hx h1
   go_wp2
   go_round
   case rel => exact ⟨k + 1, by omega, by go_num, by rw [HS.out]; rfl⟩
   case measure => simp [intOf]; omega
  ·obtain rfl : k = parts.length := by omega
   rw [HTOT.out]
   obtain ⟨n, hn'⟩ : ∃ n, parts.flatten.length = n := ⟨_, rfl⟩
   rw [hn'] at ht ⊢
   have HGR := Lib.hid (grow_go n w ht)
   have HNN := Lib.hid hn'
   clear hn'
   go_wp2_with (first | (go_at_call 91; refine HGR.out.mono ?_; rintro e w1 ⟨v1, rfl, hown1, hb1⟩; have HOWN1 := Lib.hid hown1; have HB1 := Lib.hid hb1; clear hown1 hb1))
   go_loopw [6, 27] (fun o i wr => ∃ k : Nat, k ≤ parts.length ∧ i = .int .i64 k ∧ Own 3 w.heap.size wr o (parts.take k).flatten ∧ Below w.heap.size w wr) (fun _ i _ => parts.length - (intOf i).toNat)
   case atStart => exact ⟨0, Nat.zero_le _, rfl, HOWN1.out, HB1.out⟩
   case round =>
    clear HOWN1 HB1
    obtain ⟨k, hk, rfl, hown, hb⟩ := hrel
    by_cases hlt2 : k < parts.length
    ·obtain ⟨b, off, cap', u, hv, hcu, hsu⟩ := (HL.out.below hb).part_at k hlt2
     cases hv
     have HOWN := Lib.hid hown
     have HB := Lib.hid hb
     have HSU := Lib.hid hsu.toA
     have HCAT := Lib.hid (cat_succ parts k hlt2)
     have HO := Lib.hid (HONE.out k hlt2)
     have h7 : (parts.take k).flatten.length + (parts.getD k []).length ≤ 1000000 := by
      rw [← lenTo_cat _ _ (by omega)]; exact HLE.out (k + 1) hlt2
     have H7 := Lib.hid h7
     obtain ⟨q, hq⟩ : ∃ q, parts.getD k [] = q := ⟨_, rfl⟩
     rw [hq] at HSU HCAT HO H7
     obtain ⟨up, uc, hue, hulc, hucm, _⟩ := hsu
     subst hue
     rw [hq] at hcu hulc HSU
     unfold maxLen at hucm
     clear hown hb h7 hq
     go_wp2_with (first | (at_builtin; refine wpList_append_sl wr rfl (.tmp 31) (.tmp 32) 23 rfl 3 (.int .i64 0) 8 Tryd.underlying23 Tryd.infoI rfl w.heap.size u6 (parts.take k).flatten rfl HOWN.out _ q rfl HSU.out HO.out ?a1 ?a2 ?a3 ?_))
     case a1 => have := H7.out; unfold maxLen; omega
     case a2 => have := H7.out; omega
     case a3 => exact HB.out.size
     intro v' w' hown hg
     have HOWN2 : Hid (Own 3 w.heap.size w' v' (parts.take (k + 1)).flatten) := by rw [HCAT.out]; exact hown
     have HB2 := Lib.hid (HB.out.grown hg HB.out.size (fun k hk => (World.ownsRow.lt HOWN.out k hk).1))
     clear hown hg
     go_wp2
     go_roundw
     case rel => exact ⟨k + 1, by omega, by go_num, HOWN2.out, HB2.out⟩
     case measure => simp [intOf]; omega
    ·obtain rfl : k = parts.length := by omega
     rw [List.take_length] at hown
     have HOWN := Lib.hid hown
     have HB := Lib.hid hb
     clear hown hb
     go_wp2
     go_ret
     exact ⟨_, rfl, HOWN.out, HB.out⟩
theorem Sl.drop {w : World} {b off n cap : Nat} {xs : List Value} (h : Sl w (.slice (some ⟨b, off, none⟩) n cap) xs) (k : Nat) (hk : k ≤ n) : Sl w (.slice (some ⟨b, off + k, none⟩) (n - k) (cap - k)) (xs.drop k) := by
 obtain ⟨p', cap', hv, hl, hm, hn, hp⟩ := h
 cases hv
 have e : (xs.drop k).length = xs.length - k := by simp
 refine ⟨some ⟨b, off + k, none⟩, cap - k, by rw [e], by rw [e]; omega, by omega, (fun h => by cases h), fun h0 => ?_⟩
 rw [e] at h0
 obtain ⟨b', off', h1, h2, h3⟩ := hp (by omega)
 cases h1
 refine ⟨b, off + k, rfl, h2, fun i hi => ?_⟩
 rw [e] at hi
 have := h3 (k + i) (by omega)
 rw [← Nat.add_assoc] at this
 rw [this, List.getElem?_drop]
theorem lists2 {w1 : World} {A B : Value} {xa xb : List Value} {T : Nat} (ha : Sl w1 A xa) (hb : Sl w1 B xb) : Lists (w1.alloc (.cells #[A, B] T)) (.slice (some ⟨w1.heap.size, 0, none⟩) 2 2) [xa, xb] := by
 have hbn := (Below.refl w1.heap.size w1).alloc (Nat.le_refl _) (.cells #[A, B] T)
 refine ⟨[A, B], rfl, Sl.of_row (xs := [A, B]) (more := []) (cap := 2) (row_new T w1 #[A, B]) (Nat.le_refl _) (by unfold maxLen; omega), fun j x hx => ?_⟩
 rcases j with _ | _ | j
 ·cases hx; exact ha.below hbn
 ·cases hx; exact hb.below hbn
 ·simp at hx
end Go.Proofs.YtllhejjcmfiebaaDoor
