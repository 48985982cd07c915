/- Best worths do not depend on the order of the bidders. -/
/- slices.Grow of nothing, slices.Concat of two lists of offers. -/
/- The program's payments. -/
/- The program's Payments. -/
import Derived.Test.YthbfgmgpploneaaDoorR9
import Derived.Test.YthbfgmgpploneaaDoorR11
import Derived.Lib.AppendZerosOnto
set_option linter.unusedVariables false
set_option linter.unusedSimpArgs false
set_option linter.unnecessarySimpa false
namespace Go.Proofs.YthbfgmgpploneaaDoor
open Go.RowKit

theorem bestTo_ge {b t : List Int} {set u : Nat} (hu : sans u set = 0) : b.getD u 0 + t.getD (sans set u) 0 ≤ bestTo b t true set (set + 1) :=
  (takeF_to b t set (set + 1)).2.2 u (by have := le_of_sans hu; omega) hu
theorem sans_comm (a b c : Nat) : sans (sans a b) c = sans (sans a c) b := bt_ext fun i => by
  rw [bt_sans, bt_sans, bt_sans, bt_sans]
  cases bt a i <;> cases bt b i <;> cases bt c i <;> rfl
theorem sans_sub {u v s : Nat} (h : sans v (sans s u) = 0) : sans v s = 0 := sans_zero_iff.2 fun i hi => by
  have := sans_eq_zero h i hi
  rw [bt_sans] at this
  simp at this; exact this.1
theorem sans_apart {u v s : Nat} (hu : sans u s = 0) (h : sans v (sans s u) = 0) : sans u (sans s v) = 0 := sans_zero_iff.2 fun i hi => by
  rw [bt_sans, sans_eq_zero hu i hi]
  cases hv : bt v i with
  | false => rfl
  | true =>
    have := sans_eq_zero h i hv
    rw [bt_sans, hi] at this
    simp at this
def NonNeg (t : List Int) : Prop := ∀ s, 0 ≤ t.getD s 0
theorem rowT_nonneg (m : Nat) (b t : List Int) (on : Bool) : NonNeg (rowT m b t on) := fun s => by
  by_cases hs : s < 2 ^ m
  · rw [rowT_get _ _ _ _ _ hs]; exact bestTo_lo _ _ _ _ _
  · rw [rowT_out _ _ _ _ _ hs]; exact Int.le_refl _
theorem ext_getD {a b : List Int} (hl : a.length = b.length) (h : ∀ s, s < a.length → a.getD s 0 = b.getD s 0) : a = b := by
  apply List.ext_getElem hl
  intro i h1 h2
  have := h i h1
  rw [List.getD_eq_getElem?_getD, List.getD_eq_getElem?_getD, List.getElem?_eq_getElem h1, List.getElem?_eq_getElem h2] at this
  exact this
theorem swap_le {m : Nat} {b1 b2 t : List Int} (h1 : b1.getD 0 0 = 0) (h2 : b2.getD 0 0 = 0) (ht : NonNeg t) {s : Nat} (hs : s < 2 ^ m) :
    (rowT m b1 (rowT m b2 t true) true).getD s 0 ≤ (rowT m b2 (rowT m b1 t true) true).getD s 0 := by
  rw [rowT_get _ _ _ _ _ hs, rowT_get _ _ _ _ _ hs]
  obtain ⟨u, _, hu, hu2⟩ := bestTo_got (set := s) (b := b1) (t := rowT m b2 t true) h1 (rowT_nonneg m b2 t true) (s + 1) (by omega)
  have hsu : sans s u < 2 ^ m := Nat.lt_of_le_of_lt (sans_le _ _) hs
  obtain ⟨v, _, hv, hv2⟩ := bestTo_got (set := sans s u) (b := b2) (t := t) h2 ht (sans s u + 1) (by omega)
  rw [rowT_get _ _ _ _ _ hsu] at hu2
  have hvs := sans_sub hv
  have hsv : sans s v < 2 ^ m := Nat.lt_of_le_of_lt (sans_le _ _) hs
  have g1 := bestTo_ge (b := b2) (t := rowT m b1 t true) hvs
  rw [rowT_get _ _ _ _ _ hsv] at g1
  have g2 := bestTo_ge (b := b1) (t := t) (sans_apart hu hv)
  rw [sans_comm s v u] at g2
  omega
theorem row_swap {m : Nat} {b1 b2 t : List Int} (h1 : b1.getD 0 0 = 0) (h2 : b2.getD 0 0 = 0) (ht : NonNeg t) : rowT m b1 (rowT m b2 t true) true = rowT m b2 (rowT m b1 t true) true := by
  refine ext_getD (by rw [rowT_len, rowT_len]) fun s hs => ?_
  rw [rowT_len] at hs
  have := swap_le h1 h2 ht hs
  have := swap_le h2 h1 ht hs
  omega
def addAll (m : Nat) (bs : List (List Int)) (t : List Int) : List Int := bs.foldl (fun t b => rowT m b t true) t
theorem addAll_nonneg (m : Nat) : ∀ (bs : List (List Int)) (t : List Int), NonNeg t → NonNeg (addAll m bs t)
  | [], _, h => h
  | b :: bs, t, _ => addAll_nonneg m bs _ (rowT_nonneg m b t true)
theorem addAll_len (m : Nat) : ∀ (bs : List (List Int)) (t : List Int), t.length = 2 ^ m → (addAll m bs t).length = 2 ^ m
  | [], _, h => h
  | b :: bs, t, _ => addAll_len m bs _ (rowT_len m b t true)
theorem addAll_row (m : Nat) : ∀ (bs : List (List Int)) (b t : List Int), (∀ c ∈ bs, c.getD 0 0 = 0) → b.getD 0 0 = 0 → NonNeg t → addAll m bs (rowT m b t true) = rowT m b (addAll m bs t) true
  | [], _, _, _, _, _ => rfl
  | c :: bs, b, t, hc, hb, ht => by
    show addAll m bs (rowT m c (rowT m b t true) true) = rowT m b (addAll m bs (rowT m c t true)) true
    rw [row_swap (hc c (by simp)) hb ht]
    exact addAll_row m bs b _ (fun d hd => hc d (by simp [hd])) hb (rowT_nonneg m c t true)
/-- the bidders of a set -/
def sel (who : Nat) : Nat → List (List Int) → List (List Int)
  | _, [] => []
  | k, b :: bs => if bt who k = true then b :: sel who (k + 1) bs else sel who (k + 1) bs
theorem bestTo_off {b t : List Int} {set : Nat} (h0 : b.getD 0 0 = 0) (ht : NonNeg t) : ∀ k, 0 < k → bestTo b t false set k = t.getD set 0 := by
  intro k
  induction k with
  | zero => intro h; omega
  | succ k ih =>
    intro _
    simp only [bestTo]
    by_cases hk : k = 0
    · subst hk
      rw [if_pos ⟨zero_sans _, Or.inl rfl⟩, sans_zero]
      have := ht set
      simp only [bestTo]; omega
    · rw [if_neg (by rintro ⟨_, h | h⟩; exact hk h; cases h)]
      exact ih (by omega)
theorem rowT_off {m : Nat} {b t : List Int} (h0 : b.getD 0 0 = 0) (ht : NonNeg t) (hl : t.length = 2 ^ m) : rowT m b t false = t := by
  refine ext_getD (by rw [rowT_len, hl]) fun s hs => ?_
  rw [rowT_len] at hs
  rw [rowT_get _ _ _ _ _ hs]
  exact bestTo_off h0 ht _ (by omega)
theorem sel_zero (who : Nat) : ∀ (k : Nat) (bs : List (List Int)), (∀ c ∈ bs, c.getD 0 0 = 0) → ∀ c ∈ sel who k bs, c.getD 0 0 = 0
  | _, [], _ => fun c hc => by cases hc
  | k, b :: bs, h => by
    intro c hc
    unfold sel at hc
    split at hc
    · rcases List.mem_cons.1 hc with rfl | hc
      · exact h _ (by simp)
      · exact sel_zero who (k + 1) bs (fun d hd => h d (by simp [hd])) c hc
    · exact sel_zero who (k + 1) bs (fun d hd => h d (by simp [hd])) c hc
theorem nonneg_zeros (n : Nat) : NonNeg (List.replicate n 0) := fun s => by
  rw [List.getD_eq_getElem?_getD, List.getElem?_replicate]; split <;> simp
theorem tabs_sel (m who : Nat) : ∀ (bs : List (List Int)) (k : Nat), (∀ c ∈ bs, c.getD 0 0 = 0) → (tabs m who k bs).headD [] = addAll m (sel who k bs) (List.replicate (2 ^ m) 0)
  | [], _, _ => rfl
  | b :: bs, k, h => by
    have ih := tabs_sel m who bs (k + 1) (fun c hc => h c (by simp [hc]))
    have hz := nonneg_zeros (2 ^ m)
    show rowT m b ((tabs m who (k + 1) bs).headD []) (bt who k) = _
    rw [ih]
    have e : sel who k (b :: bs) = if bt who k = true then b :: sel who (k + 1) bs else sel who (k + 1) bs := rfl
    rw [e]
    cases hb : bt who k with
    | true =>
      rw [if_pos rfl]
      exact (addAll_row m (sel who (k + 1) bs) b _ (sel_zero who _ _ (fun c hc => h c (by simp [hc]))) (h b (by simp)) hz).symm
    | false =>
      rw [if_neg (by decide)]
      exact rowT_off (h b (by simp)) (addAll_nonneg m _ _ hz) (addAll_len m _ _ (by simp))
theorem rowT_congr {m : Nat} {b t t' : List Int} (hm : m ≤ 6) (h : ∀ s, s < 64 → t.getD s 0 = t'.getD s 0) : rowT m b t true = rowT m b t' true := by
  have hM := pow_le64 hm
  refine ext_getD (by rw [rowT_len, rowT_len]) fun s hs => ?_
  rw [rowT_len] at hs
  rw [rowT_get _ _ _ _ _ hs, rowT_get _ _ _ _ _ hs]
  exact bestTo_congr h (by omega) _
theorem addAll_start {m : Nat} (hm : m ≤ 6) (bs : List (List Int)) (s : Nat) : (addAll m bs []).getD s 0 = (addAll m bs (List.replicate (2 ^ m) 0)).getD s 0 := by
  have hz : ∀ s, ([] : List Int).getD s 0 = (List.replicate (2 ^ m) (0 : Int)).getD s 0 := fun s => by
    rw [List.getD_eq_getElem?_getD, List.getD_eq_getElem?_getD, List.getElem?_replicate]; split <;> rfl
  cases bs with
  | nil => exact hz s
  | cons b bs =>
    show (addAll m bs (rowT m b [] true)).getD s 0 = (addAll m bs (rowT m b (List.replicate (2 ^ m) 0) true)).getD s 0
    rw [rowT_congr hm (fun s _ => hz s)]
/-- the best worth of a set of bidders is that of them alone -/
theorem worthP_alone {m : Nat} {bids : List (List Int)} (hm : m ≤ 6) (h : Offers m bids) (who : Nat) : aloneP m (sel who 0 bids) = worthP m bids who := by
  unfold aloneP worthP tk
  rw [List.drop_zero, tabs_sel m who bids 0 (fun c hc => offerB_zero (h c hc)), ← addAll_start hm]
  unfold upTo addAll
  rw [List.take_length]
theorem sel_all (who : Nat) : ∀ (bs : List (List Int)) (k : Nat), (∀ j, k ≤ j → j < k + bs.length → bt who j = true) → sel who k bs = bs
  | [], _, _ => rfl
  | b :: bs, k, h => by
    unfold sel
    rw [if_pos (h k (Nat.le_refl _) (by simp))]
    rw [sel_all who bs (k + 1) (fun j h1 h2 => h j (by omega) (by simp at h2 ⊢; omega))]
theorem sel_but (who i : Nat) : ∀ (bs : List (List Int)) (k : Nat), k ≤ i → (∀ j, k ≤ j → j < k + bs.length → bt who j = !(decide (j = i))) → sel who k bs = bs.eraseIdx (i - k)
  | [], _, _, _ => rfl
  | b :: bs, k, hk, h => by
    unfold sel
    have h0 := h k (Nat.le_refl _) (by simp)
    by_cases he : k = i
    · subst he
      rw [h0, if_neg (by simp), Nat.sub_self]
      refine sel_all who bs (k + 1) fun j h1 h2 => ?_
      rw [h j (by omega) (by simp at h2 ⊢; omega)]
      simp; omega
    · rw [h0, if_pos (by simp [he])]
      have e : i - k = (i - (k + 1)) + 1 := by omega
      rw [e, List.eraseIdx_cons_succ]
      rw [sel_but who i bs (k + 1) (by omega) (fun j h1 h2 => h j (by omega) (by simp at h2 ⊢; omega))]
theorem worthP_but {m : Nat} {bids : List (List Int)} (hm : m ≤ 6) (h : Offers m bids) {i : Nat} (hi : i < bids.length) : aloneP m (bids.eraseIdx i) = worthP m bids (sans (2 ^ bids.length - 1) (2 ^ i)) := by
  rw [← worthP_alone hm h, sel_but _ i bids 0 (Nat.zero_le _) fun j _ hj => ?_]
  · rfl
  · rw [bt_sans, bt_ones _ _ (by omega), bt_pow]
    simp
    omega
theorem othersTo_eq (bids : List (List Int)) (l : List Int) (i : Nat) (k : Nat) (hk : k ≤ l.length) : othersTo bids l i k = addTo (offP bids l) k - (if i < k then offAt bids l i else 0) := by
  induction k with
  | zero => simp [othersTo, addTo]
  | succ k ih =>
    have hi := ih (by omega)
    have e : addTo (offP bids l) (k + 1) = addTo (offP bids l) k + offAt bids l k := by
      show _ + (offP bids l).getD k 0 = _
      rw [offP_get _ _ _ (by omega)]
    rw [e]
    simp only [othersTo]
    by_cases hki : k = i
    · subst hki
      rw [if_pos rfl, hi, if_neg (by omega), if_pos (by omega)]; omega
    · rw [if_neg hki, hi]
      show _ + offAt bids l k = _
      by_cases hlt : i < k
      · rw [if_pos hlt, if_pos (by omega)]; omega
      · rw [if_neg hlt, if_neg (by omega)]; omega

/-- 'append(nil, make([]T, k)...)' -/
theorem wpList_append_zeros {P : Program} (w : World) {ops : Array Oper} {rest : List Oper} {o : Oper} {a : Act} {Q : Exit → Act → World → Prop} (hgd : o.guard = none) (s x : Operand) (t tn : TypeId)
    (ho : o.op = .call { callee := .builtin .append, args := #[s, x], argTypes := #[t, tn] })
    (e : TypeId) (z : Value) (bytes : Nat) (kn kq : IntKind) (ht : P.underlying t = some (.slice e)) (htn : P.underlying tn = some (.int kn)) (hinfo : (P.info? e).map (fun i => (i.zero, i.size, i.bytes)) = some (some z, 1, bytes))
    (k : Nat) (hs : a.eval s = .slice none 0 0) (hx : a.eval x = .int kq k) (h0 : 0 < k) (hk : k ≤ 1000) (hb : bytes ≤ 100) (hzc : z.cells.size = 1)
    (h : ∀ w' cap xs, Row e w' w.heap.size xs → Hid (xs.length = cap) → k ≤ cap → cap ≤ maxLen → Below w.heap.size w w' → wpList P ops Q rest (a.put o.dst (.slice (some ⟨w.heap.size, 0, none⟩) k cap)) w') : wpList P ops Q (o :: rest) a w := by
  obtain ⟨i, hi, hz0, hz1, hz2⟩ := info_parts hinfo
  have hkb : k * i.bytes ≤ 1000 * 100 := by rw [hz2]; exact Nat.mul_le_mul hk hb
  have hn : Builtin.nextslicecap (0 + k) 0 = k := by unfold Builtin.nextslicecap; rw [if_pos (by omega)]; omega
  have hrun := Lib.run_append_grow_zeros w t tn o.type e i z kq kn ht htn hi hz0 none 0 0 [] (run_firstCells_none w.drew i.size 0 0 0) k h0 (by omega) (by omega) (by omega) (by omega) (by rw [hn]; omega)
  rw [Nat.zero_add] at hrun
  have hge := grownCap_ge w k 0 e
  have hle := grownCap_le_maxLen w k 0 e (by unfold maxLen; omega)
  obtain ⟨G, hG⟩ : ∃ G, grownCap w k 0 e = G := ⟨_, rfl⟩
  rw [hG] at hrun hge hle
  obtain ⟨cs, hcs⟩ : ∃ cs, #[] ++ Builtin.zeroCells z.cells k ++ Builtin.zeroCells z.cells (G - k) = cs := ⟨_, rfl⟩
  have hcl : cs.toList.length = G := by rw [← hcs]; simp [size_zeroCells, hzc]; omega
  rw [hcs] at hrun
  refine Go.Great.wpList_runTo hgd o.dst rfl (.slice (some ⟨w.heap.size, 0, none⟩) k G) (w.drew.alloc (.cells cs e)) ?_ (h _ G cs.toList (row_new e w.drew cs) (Lib.hid hcl) hge hle ((Below.refl w.heap.size w).drew.alloc (Nat.le_refl _) _))
  unfold execOp
  simp only [ho, resolve, invoke, builtin, Sem.run_bind, Sem.run_pure, Result.andThen_ok, List.map_toArray, List.map_cons, List.map_nil, hs, hx, hrun]
set_option maxRecDepth 100000 in
set_option maxHeartbeats 2000000 in
theorem grow_go (n : Nat) (w : World) (hn : n ≤ 7) :
    Calls Tryd.prog 82 #[.slice none 0 0, .int .i64 n] w fun e w' => ∃ v', e = .returned v' ∧ Own 31 w.heap.size w' v' [] ∧ Below w.heap.size w w' := by
  have hneg : decide ((n : Int) < 0) = false := by rw [decide_eq_false_iff_not]; omega
  have hn0 : (0 : Int) ≤ (n : Int) := by omega
  by_cases h0 : 0 < n
  · have hp : decide ((0 : Int) < (n : Int)) = true := by rw [decide_eq_true_eq]; omega
    have hp' : (0 : Int) < (n : Int) := by omega
    go_enter Tryd.func82, Tryd.ntmps82
    go_wp2_with (first | (at_builtin; refine wpList_append_zeros w rfl (.tmp 20) (.tmp 21) 22 3 rfl 31 (.slice none 0 0) 24 .i64 .i64 Tryd.underlying22 Tryd.underlying3 Tryd.info31 n rfl rfl h0 (by omega) (by omega) rfl ?_))
    intro w1 cap xs hrow hl hk hm hb
    have HROW := Lib.hid hrow
    have HB := Lib.hid hb
    have HOWN : Hid (Own 31 w.heap.size w1 (.slice (some ⟨w.heap.size, 0, none⟩) 0 cap) []) := Own.of_row (xs := []) (more := xs) hrow (Nat.le_refl _) hm (by simp [hl.out])
    have hcap : (0 : Int) ≤ (cap : Int) := by omega
    clear hrow hb
    unfold maxLen at hm
    go_wp2
    go_ret
    exact ⟨_, rfl, HOWN.out, HB.out⟩
  · obtain rfl : n = 0 := by omega
    go_enter Tryd.func82, Tryd.ntmps82
    go_wp2
    go_ret
    exact ⟨_, rfl, World.ownsRow_nil _ _ _ _, Below.refl _ _⟩
/-- a slice of slices of one-cell values -/
def Lists (w : World) (v : Value) (parts : List (List Value)) : Prop :=
  ∃ vs, vs.length = parts.length ∧ Sl w v vs ∧ ∀ i u, vs[i]? = some u → Sl w u (parts.getD i [])
theorem Lists.below {w w' : World} {v : Value} {parts : List (List Value)} (h : Lists w v parts) (hb : Below w.heap.size w w') : Lists w' v parts := by
  obtain ⟨vs, hl, hs, hr⟩ := h
  exact ⟨vs, hl, hs.below hb, fun i u hu => (hr i u hu).below hb⟩
theorem Lists.form_ {w : World} {v : Value} {parts : List (List Value)} (h : Lists w v parts) : ∃ p cap, v = .slice p parts.length cap ∧ parts.length ≤ cap ∧ cap ≤ maxLen := by
  obtain ⟨vs, hl, ⟨p, cap, hv, h1, h2, _, _⟩, _⟩ := h
  exact ⟨p, cap, by rw [hv, hl], by omega, h2⟩
theorem Lists.part_at {w : World} {v : Value} {parts : List (List Value)} (h : Lists w v parts) (i : Nat) (hi : i < parts.length) :
    ∃ b off cap u, v = .slice (some ⟨b, off, none⟩) parts.length cap ∧ w.cell? ⟨b, off + i, none⟩ = some u ∧ Sl w u (parts.getD i []) := by
  obtain ⟨vs, hl, ⟨p, cap, hv, h1, h2, _, hp⟩, hr⟩ := h
  obtain ⟨u, hu⟩ : ∃ u, vs[i]? = some u := ⟨vs[i]'(by omega), List.getElem?_eq_getElem (by omega)⟩
  rw [hl] at hv h1 hp
  obtain ⟨b, off, rfl, hb, hc⟩ := hp (by omega)
  exact ⟨b, off, cap, u, hv, by rw [hc i hi, hu], hr i u hu⟩
def lenTo (parts : List (List Value)) : Nat → Nat
  | 0 => 0
  | k + 1 => lenTo parts k + (parts.getD k []).length
theorem lenTo_cat (parts : List (List Value)) (k : Nat) (hk : k ≤ parts.length) : lenTo parts k = (parts.take k).flatten.length := by
  induction k with
  | zero => rfl
  | succ k ih =>
    rw [List.take_succ_eq_append_getElem (by omega), List.flatten_append, List.length_append, ← ih (by omega)]
    show _ + (parts.getD k []).length = _
    rw [List.getD_eq_getElem?_getD, List.getElem?_eq_getElem (by omega)]
    simp
theorem cat_succ (parts : List (List Value)) (k : Nat) (hk : k < parts.length) : (parts.take (k + 1)).flatten = (parts.take k).flatten ++ parts.getD k [] := by
  rw [List.take_succ_eq_append_getElem hk, List.flatten_append, List.getD_eq_getElem?_getD, List.getElem?_eq_getElem hk]
  simp
theorem lenTo_mono (parts : List (List Value)) {j k : Nat} (h : j ≤ k) : lenTo parts j ≤ lenTo parts k := by
  induction k with
  | zero => have : j = 0 := by omega
            subst this; exact Nat.le_refl _
  | succ k ih =>
    rcases Nat.lt_or_ge j (k + 1) with g | g
    · exact Nat.le_trans (ih (by omega)) (Nat.le_add_right _ _)
    · have : j = k + 1 := by omega
      subst this; exact Nat.le_refl _
set_option maxRecDepth 100000 in
set_option maxHeartbeats 2000000 in
theorem concat_go (v : Value) (parts : List (List Value)) (w : World) (hl : Lists w v parts) (hn : parts.length ≤ 7) (ht : parts.flatten.length ≤ 7) (hone : ∀ p ∈ parts, ∀ u ∈ p, u.oneCell' = true) :
    Calls Tryd.prog 70 #[v] w fun e w' => ∃ v', e = .returned v' ∧ Own 31 w.heap.size w' v' parts.flatten ∧ Below w.heap.size w w' := by
  obtain ⟨p, cap, rfl, hlc, hcm⟩ := hl.form_
  unfold maxLen at hcm
  have HL := Lib.hid hl
  have hl0 : (0 : Int) ≤ (parts.length : Int) := by omega
  have HTOT : Hid (lenTo parts parts.length = parts.flatten.length) := by
    show _ = _; rw [lenTo_cat _ _ (Nat.le_refl _), List.take_length]
  have HLE : Hid (∀ k, k ≤ parts.length → lenTo parts k ≤ 7) := fun k hk => by
    have := lenTo_mono parts hk; have := HTOT.out; omega
  have HONE : Hid (∀ k, k < parts.length → ∀ u ∈ parts.getD k [], u.oneCell' = true) := fun k hk => by
    rw [List.getD_eq_getElem?_getD, List.getElem?_eq_getElem hk]
    exact hone _ (List.getElem_mem hk)
  clear hl hone
  go_enter Tryd.func70, Tryd.ntmps70
  go_wp2
  go_loop [3, 11] (fun s i => ∃ k : Nat, k ≤ parts.length ∧ i = .int .i64 k ∧ s = .int .i64 (lenTo parts k : Nat)) (fun _ i => parts.length - (intOf i).toNat)
  case atStart => exact ⟨0, Nat.zero_le _, rfl, rfl⟩
  case round =>
    obtain ⟨k, hk, rfl, rfl⟩ := hrel
    by_cases hlt : k < parts.length
    · obtain ⟨b, off, cap', u, hv, hcu, hsu⟩ := HL.out.part_at k hlt
      cases hv
      obtain ⟨up, uc, rfl, hulc, hucm, _⟩ := hsu
      have HS : Hid (lenTo parts (k + 1) = lenTo parts k + (parts.getD k []).length) := rfl
      have h1 := HLE.out (k + 1) hlt
      have h1' : lenTo parts k + (parts.getD k []).length ≤ 7 := h1
      obtain ⟨r, hr⟩ : ∃ r, (parts.getD k []).length = r := ⟨_, rfl⟩
      obtain ⟨x, hx⟩ : ∃ x, lenTo parts k = x := ⟨_, rfl⟩
      rw [hr] at hcu HS h1' hulc
      rw [hx] at HS h1' ⊢
      unfold maxLen at hucm
      have hw1 : IntKind.i64.wrap ((x : Int) + (r : Int)) = ((x : Int) + (r : Int)) := IntWalk.i64_in _ (by omega)
      have hneg : decide ((x : Int) + (r : Int) < 0) = false := by rw [decide_eq_false_iff_not]; omega
      have hge : (0 : Int) ≤ (x : Int) + (r : Int) := by omega
      clear hr hx h1
      go_wp2
      go_round
      case rel => exact ⟨k + 1, by omega, by go_num, by rw [HS.out]; rfl⟩
      case measure => simp [intOf]; omega
    · obtain rfl : k = parts.length := by omega
      rw [HTOT.out]
      obtain ⟨n, hn'⟩ : ∃ n, parts.flatten.length = n := ⟨_, rfl⟩
      rw [hn'] at ht ⊢
      have HGR := Lib.hid (grow_go n w ht)
      have HNN := Lib.hid hn'
      clear hn'
      go_wp2_with (first | (go_at_call 82; refine HGR.out.mono ?_; rintro e w1 ⟨v1, rfl, hown1, hb1⟩; have HOWN1 := Lib.hid hown1; have HB1 := Lib.hid hb1; clear hown1 hb1))
      go_loopw [6, 27] (fun o i wr => ∃ k : Nat, k ≤ parts.length ∧ i = .int .i64 k ∧ Own 31 w.heap.size wr o (parts.take k).flatten ∧ Below w.heap.size w wr) (fun _ i _ => parts.length - (intOf i).toNat)
      case atStart => exact ⟨0, Nat.zero_le _, rfl, HOWN1.out, HB1.out⟩
      case round =>
        clear HOWN1 HB1
        obtain ⟨k, hk, rfl, hown, hb⟩ := hrel
        by_cases hlt2 : k < parts.length
        · obtain ⟨b, off, cap', u, hv, hcu, hsu⟩ := (HL.out.below hb).part_at k hlt2
          cases hv
          have HOWN := Lib.hid hown
          have HB := Lib.hid hb
          have HSU := Lib.hid hsu.toA
          have HCAT := Lib.hid (cat_succ parts k hlt2)
          have HO := Lib.hid (HONE.out k hlt2)
          have h7 : (parts.take k).flatten.length + (parts.getD k []).length ≤ 7 := by
            rw [← lenTo_cat _ _ (by omega)]; exact HLE.out (k + 1) hlt2
          have H7 := Lib.hid h7
          obtain ⟨q, hq⟩ : ∃ q, parts.getD k [] = q := ⟨_, rfl⟩
          rw [hq] at HSU HCAT HO H7
          obtain ⟨up, uc, hue, hulc, hucm, _⟩ := hsu
          subst hue
          rw [hq] at hcu hulc HSU
          unfold maxLen at hucm
          clear hown hb h7 hq
          go_wp2_with (first | (at_builtin; refine wpList_append_sl wr rfl (.tmp 31) (.tmp 32) 22 rfl 31 (.slice none 0 0) 24 Tryd.underlying22 Tryd.info31 rfl w.heap.size u6 (parts.take k).flatten rfl HOWN.out _ q rfl HSU.out HO.out ?a1 ?a2 ?a3 ?_))
          case a1 => have := H7.out; unfold maxLen; omega
          case a2 => have := H7.out; omega
          case a3 => exact HB.out.size
          intro v' w' hown hg
          have HOWN2 : Hid (Own 31 w.heap.size w' v' (parts.take (k + 1)).flatten) := by rw [HCAT.out]; exact hown
          have HB2 := Lib.hid (HB.out.grown hg HB.out.size HOWN.out.row_ge)
          clear hown hg
          go_wp2
          go_roundw
          case rel => exact ⟨k + 1, by omega, by go_num, HOWN2.out, HB2.out⟩
          case measure => simp [intOf]; omega
        · obtain rfl : k = parts.length := by omega
          rw [List.take_length] at hown
          have HOWN := Lib.hid hown
          have HB := Lib.hid hb
          clear hown hb
          go_wp2
          go_ret
          exact ⟨_, rfl, HOWN.out, HB.out⟩

theorem stays_of {ks : List Kd} (hM : ∀ (i : Nat) M, ks[i]? = some (.mem M) → ∀ v w w', M v w → Below w.heap.size w w' → M v w') (hF : ∀ (j b k T n : Nat), ks[j]? ≠ some (.fill b k T n)) : Stays ks :=
  ⟨fun i M v w w' hk h hb => hM i M hk v w w' h hb, fun i M v w w' j g b k T n xs hk hf => absurd hf (hF j b k T n)⟩
theorem Sl.drop {w : World} {b off n cap : Nat} {xs : List Value} (h : Sl w (.slice (some ⟨b, off, none⟩) n cap) xs) (k : Nat) (hk : k ≤ n) : Sl w (.slice (some ⟨b, off + k, none⟩) (n - k) (cap - k)) (xs.drop k) := by
  obtain ⟨p', cap', hv, hl, hm, hn, hp⟩ := h
  cases hv
  have e : (xs.drop k).length = xs.length - k := by simp
  refine ⟨some ⟨b, off + k, none⟩, cap - k, by rw [e], by rw [e]; omega, by omega, (fun h => by cases h), fun h0 => ?_⟩
  rw [e] at h0
  obtain ⟨b', off', h1, h2, h3⟩ := hp (by omega)
  cases h1
  refine ⟨b, off + k, rfl, h2, fun i hi => ?_⟩
  rw [e] at hi
  have := h3 (k + i) (by omega)
  rw [← Nat.add_assoc] at this
  rw [this, List.getElem?_drop]
theorem lists2 {w1 : World} {A B : Value} {xa xb : List Value} {T : Nat} (ha : Sl w1 A xa) (hb : Sl w1 B xb) : Lists (w1.alloc (.cells #[A, B] T)) (.slice (some ⟨w1.heap.size, 0, none⟩) 2 2) [xa, xb] := by
  have hbn := (Below.refl w1.heap.size w1).alloc (Nat.le_refl _) (.cells #[A, B] T)
  refine ⟨[A, B], rfl, Sl.of_row (xs := [A, B]) (more := []) (cap := 2) (row_new T w1 #[A, B]) (Nat.le_refl _) (by unfold maxLen; omega), fun j x hx => ?_⟩
  rcases j with _ | _ | j
  · cases hx; exact ha.below hbn
  · cases hx; exact hb.below hbn
  · simp at hx
theorem Sl.none_of_empty {w : World} {v : Value} {xs : List Value} (h : Sl w v xs) : v.oneCell' = true := h.one
theorem eraseIdx_cells {vs : List Value} {bids : List (List Int)} {w : World} {i : Nat} (hl : vs.length = bids.length) (hi : i < bids.length) (hr : ∀ j u, vs[j]? = some u → Sl w u (ints (bids.getD j []))) :
    ∀ j u, (vs.take i ++ vs.drop (i + 1))[j]? = some u → Sl w u (ints ((bids.eraseIdx i).getD j [])) := by
  intro j u hu
  rw [← List.eraseIdx_eq_take_drop_succ] at hu
  rw [List.getElem?_eraseIdx] at hu
  rw [List.getD_eq_getElem?_getD, List.getElem?_eraseIdx]
  split at hu
  · rename_i h
    rw [if_pos h, ← List.getD_eq_getElem?_getD]; exact hr j u hu
  · rename_i h
    rw [if_neg h, ← List.getD_eq_getElem?_getD]; exact hr (j + 1) u hu
theorem payP_take2 (m : Nat) (bids : List (List Int)) (k : Nat) (hk : k < bids.length) : (payP m bids).take (k + 1) = (payP m bids).take k ++ [payOf m bids k] := range_map_take _ _ _ hk
theorem pay_eq {m : Nat} {bids : List (List Int)} (hm : m ≤ 6) (h : Offers m bids) {i : Nat} (hi : i < bids.length) :
    payOf m bids i = aloneP m (bids.eraseIdx i) - (worthP m bids (2 ^ bids.length - 1) - (offP bids (bestP m bids)).getD i 0) := by
  unfold payOf
  rw [worthP_but hm h hi, othersTo_eq _ _ _ _ (by rw [bestP_len]; exact Nat.le_refl _), if_pos hi, ← best_worth h, offP_len, bestP_len, offP_get _ _ _ (by rw [bestP_len]; exact hi)]
theorem eraseIdx_offers {m : Nat} {bids : List (List Int)} (h : Offers m bids) (i : Nat) : Offers m (bids.eraseIdx i) := fun b hb => h b (List.mem_of_mem_eraseIdx hb)
set_option maxRecDepth 100000 in
set_option maxHeartbeats 4000000 in
theorem payments_go (v : Value) (m : Nat) (bids : List (List Int)) (w : World) (hl : Mat w v bids) (hm : m ≤ 6) (hn : bids.length ≤ 7) (hn1 : 1 ≤ bids.length) (ho : Offers m bids) :
    Calls Tryd.prog 50 #[.agg #[.int .i64 ((2 ^ m - 1 : Nat) : Int), v]] w fun e w' => ∃ v', e = .returned v' ∧ Own 2 w.heap.size w' v' (ints (payP m bids)) ∧ Below w.heap.size w w' := by
  obtain ⟨p, cap, rfl, hlc, hcm⟩ := hl.form_
  unfold maxLen at hcm
  have HL := Lib.hid hl
  have HO := Lib.hid ho
  have HMM := Lib.hid hm
  have hr0 := row_new 73 w #[.int .i64 ((2 ^ m - 1 : Nat) : Int), .slice p bids.length cap]
  have hb0 := (Below.refl w.heap.size w).alloc (Nat.le_refl _) (.cells #[.int .i64 ((2 ^ m - 1 : Nat) : Int), .slice p bids.length cap] 73)
  have HFIRST : Hid (∀ W, Below w.heap.size w W → Calls Tryd.prog 47 #[.agg #[.int .i64 ((2 ^ m - 1 : Nat) : Int), .slice p bids.length cap]] W fun e w' => ∃ v', e = .returned v' ∧ Sl w' v' (ints (bestP m bids)) ∧ Below W.heap.size W w') := fun W hb => (first_go _ m bids W (hl.below hb) hm hn hn1 ho).mono fun e w' ⟨v', h1, h2, h3⟩ => ⟨v', h1, h2.sl, h3⟩
  have HOFF : Hid (∀ W lv, Below w.heap.size w W → Sl W lv (ints (bestP m bids)) → Calls Tryd.prog 49 #[.agg #[.int .i64 ((2 ^ m - 1 : Nat) : Int), .slice p bids.length cap], lv] W fun e w' => ∃ v', e = .returned v' ∧ Sl w' v' (ints (offP bids (bestP m bids))) ∧ Below W.heap.size W w') := fun W lv hb hs => (offered_go _ _ lv bids _ W (hl.below hb) hs hn (best_deals ho)).mono fun e w' ⟨v', h1, h2, h3⟩ => ⟨v', h1, h2.sl, h3⟩
  have HSUM : Hid (∀ W lv, Sl W lv (ints (offP bids (bestP m bids))) → Calls Tryd.prog 48 #[lv] W fun e w' => e = .returned (.int .i64 (worthP m bids (2 ^ bids.length - 1))) ∧ W = w') := fun W lv hs => by
    rw [← best_worth ho]
    exact sum_go lv _ W hs (by rw [offP_len, bestP_len]; omega) (fun i => by have := offP_bd ho (bestP m bids) i; omega)
  have HALONE : Hid (∀ W bv i, Mat W bv (bids.eraseIdx i) → i < bids.length → Calls Tryd.prog 71 #[.agg #[.int .i64 ((2 ^ m - 1 : Nat) : Int), .slice p bids.length cap], bv] W fun e w' => e = .returned (.int .i64 (aloneP m (bids.eraseIdx i))) ∧ Below W.heap.size W w') := fun W bv i hb hi => alone_go _ bv m _ W ⟨_, _, _, rfl⟩ hb hm (by rw [List.length_eraseIdx]; split <;> omega) (eraseIdx_offers ho i)
  have HPAY : Hid (∀ i, i < bids.length → payOf m bids i = aloneP m (bids.eraseIdx i) - (worthP m bids (2 ^ bids.length - 1) - (offP bids (bestP m bids)).getD i 0)) := fun i hi => pay_eq hm ho hi
  have HBD : Hid (∀ i, (0 ≤ aloneP m (bids.eraseIdx i) ∧ aloneP m (bids.eraseIdx i) ≤ 7000000) ∧ 0 ≤ (offP bids (bestP m bids)).getD i 0 ∧ (offP bids (bestP m bids)).getD i 0 ≤ 1000000) := fun i => by
    refine ⟨?_, offP_bd ho _ i⟩
    have hlen : (bids.eraseIdx i).length ≤ 7 := by rw [List.length_eraseIdx]; split <;> omega
    have := upTo_bd (eraseIdx_offers ho i) (bids.eraseIdx i).length (Nat.le_refl _) (2 ^ m - 1)
    unfold aloneP
    omega
  have hwb := worthP_bd ho (2 ^ bids.length - 1)
  have HWB : Hid (0 ≤ worthP m bids (2 ^ bids.length - 1) ∧ worthP m bids (2 ^ bids.length - 1) ≤ 8000000) := ⟨hwb.1, by have := hwb.2; omega⟩
  have HOL : Hid ((offP bids (bestP m bids)).length = bids.length) := by show _ = _; rw [offP_len, bestP_len]
  obtain ⟨N, hN⟩ : ∃ N : Nat, 2 ^ m - 1 = N := ⟨_, rfl⟩
  rw [hN] at hr0 hb0 HFIRST HOFF HALONE ⊢
  obtain ⟨F, hF⟩ : ∃ F, offP bids (bestP m bids) = F := ⟨_, rfl⟩
  obtain ⟨S, hS⟩ : ∃ S, worthP m bids (2 ^ bids.length - 1) = S := ⟨_, rfl⟩
  rw [hF] at HOFF HSUM HPAY HBD HOL
  rw [hS] at HSUM HPAY HWB
  obtain ⟨GL, hG⟩ : ∃ GL, bestP m bids = GL := ⟨_, rfl⟩
  rw [hG] at HFIRST HOFF
  have HR0 := Lib.hid hr0
  have HB0 := Lib.hid hb0
  obtain ⟨W0, hW0⟩ : ∃ W0, w.alloc (.cells #[.int .i64 N, .slice p bids.length cap] 73) = W0 := ⟨_, rfl⟩
  rw [hW0] at HR0 HB0
  clear hl ho hm hr0 hb0 hN hF hS hG hwb
  go_enter Tryd.func50, Tryd.ntmps50
  go_wp2
  clear hW0
  refine wp_region_rel (by kernel_rfl) 45 rfl (by kernel_rfl) [.fix (.agg #[.int .i64 (N : Nat), .slice p bids.length cap]), .fix (.agg #[.int .i64 (N : Nat), .slice p bids.length cap]), .mem (fun u W => Sl W u (ints GL)), .mem (fun u W => Sl W u (ints F)), .mem (fun u W => Sl W u (ints F))] rfl (stays_of (fun i M hk v w w' h hb => by rcases i with _ | _ | _ | _ | _ | i <;> simp at hk <;> subst hk <;> exact Sl.below h hb) (fun j b k T n => by rcases j with _ | _ | _ | _ | _ | j <;> simp)) ?hop ?hQ
  case hop =>
    intro W hW j o hj vs w1 hb hV
    have hbw : Below W0.heap.size W0 w1 := by rw [hW] at hb; exact ((Below.refl W0.heap.size W0).drew).trans hb
    have d0 : w1.cell? ⟨w.heap.size, 0, none⟩ = some (.int .i64 (N : Nat)) := (HR0.out.below hbw HR0.out.lt).cell 0
    have d1 : w1.cell? ⟨w.heap.size, 1, none⟩ = some (.slice p bids.length cap) := (HR0.out.below hbw HR0.out.lt).cell 1
    clear hW hb
    have hj' : j < 5 := (List.getElem?_eq_some_iff.1 hj).1
    rcases (by omega : j = 0 ∨ j = 1 ∨ j = 2 ∨ j = 3 ∨ j = 4) with rfl | rfl | rfl | rfl | rfl
    · cases hj
      clear hj'
      refine .inl ⟨rfl, ?_⟩
      (try simp [predsR, Region.binds, Vk] at hV)
      simp only [putAll]
      generalize hR : Res _ _ vs w1 = R
      go_simp
      subst hR
      exact ⟨rfl, Below.refl _ _⟩
    · cases hj
      clear hj'
      refine .inl ⟨rfl, ?_⟩
      (try simp [predsR, Region.binds, Vk] at hV)
      simp only [putAll]
      generalize hR : Res _ _ vs w1 = R
      go_simp
      subst hR
      exact ⟨rfl, Below.refl _ _⟩
    · cases hj
      clear hj'
      refine .inl ⟨rfl, ?_⟩
      (try simp [predsR, Region.binds, Vk] at hV)
      simp only [putAll]
      generalize hR : Res _ _ vs w1 = R
      go_simp
      subst hR
      refine (HFIRST.out w1 (HB0.out.trans (hbw.mono HB0.out.size))).mono ?_
      rintro e w2 ⟨v2, rfl, hs2, hb2⟩
      exact ⟨_, rfl, hs2, hb2⟩
    · cases hj
      clear hj'
      refine .inl ⟨rfl, ?_⟩
      generalize hG : relUpon _ _ _ = G
      have q0 : vs 0 = _ := hV 0 (by decide)
      have hS : Sl w1 (vs 2) (ints GL) := hV 2 (by decide)
      clear hV
      subst hG
      simp only [putAll]
      generalize hR : Res _ _ vs w1 = R
      go_simp
      subst hR
      refine (HOFF.out w1 _ (HB0.out.trans (hbw.mono HB0.out.size)) hS).mono ?_
      rintro e w2 ⟨v2, rfl, hs2, hb2⟩
      exact ⟨_, rfl, hs2, hb2⟩
    · cases hj
      clear hj'
      refine .inl ⟨rfl, ?_⟩
      generalize hG : relUpon _ _ _ = G
      have hS : Sl w1 (vs 3) (ints F) := hV 3 (by decide)
      clear hV
      subst hG
      simp only [putAll]
      generalize hR : Res _ _ vs w1 = R
      go_simp
      subst hR
      exact ⟨hS, Below.refl _ _⟩
  case hQ =>
    intro W hW vs w1 hb hV hD
    have hbw : Below W0.heap.size W0 w1 := by rw [hW] at hb; exact ((Below.refl W0.heap.size W0).drew).trans hb
    have v0 : vs 0 = _ := hV 0 (by decide)
    have v1 : vs 1 = _ := hV 1 (by decide)
    have hS : Sl w1 (vs 4) (ints F) := hV 4 (by decide)
    have HR1 := Lib.hid (HR0.out.below hbw HR0.out.lt)
    have HB1 := Lib.hid (HB0.out.trans (hbw.mono HB0.out.size))
    simp only [putAll, v0, v1]
    obtain ⟨fv, hfv⟩ : ∃ fv, vs 4 = fv := ⟨_, rfl⟩
    rw [hfv] at hS ⊢
    obtain ⟨y2, hy2⟩ : ∃ y2, vs 2 = y2 := ⟨_, rfl⟩
    obtain ⟨y3, hy3⟩ : ∃ y3, vs 3 = y3 := ⟨_, rfl⟩
    rw [hy2, hy3]
    have HS := Lib.hid hS
    clear hV hD v0 v1 hb hbw hW hfv hy2 hy3 HR0 HB0 hS
    obtain ⟨fp, fc, rfl, hfl, hfm⟩ := HS.out.form
    rw [HOL.out] at hfl HS ⊢
    go_wp2_with (first | (go_at_call 48; refine (HSUM.out _ _ HS.out).mono ?_; rintro e w2 ⟨rfl, rfl⟩))
    obtain ⟨wb, hwb0⟩ : ∃ wb : World, wb = w1 := ⟨_, rfl⟩
    subst hwb0
    go_loopw [5, 17] (fun o i wr => ∃ k : Nat, k ≤ bids.length ∧ i = .int .i64 k ∧ Own 2 wb.heap.size wr o (ints ((payP m bids).take k)) ∧ Below wb.heap.size wb wr) (fun _ i _ => bids.length - (intOf i).toNat)
    case atStart => exact ⟨0, Nat.zero_le _, rfl, World.ownsRow_nil _ _ _ _, Below.refl _ _⟩
    case round =>
      obtain ⟨i, hi, rfl, hown, hbl⟩ := hrel
      have hr0 := HR1.out.below hbl HR1.out.lt
      have hfs := HS.out.below hbl
      have hb := HB1.out.trans (hbl.mono HB1.out.size)
      have HOWN := Lib.hid hown
      have HBL := Lib.hid hbl
      have HR0 := Lib.hid hr0
      have HB := Lib.hid hb
      by_cases hlt : i < bids.length
      · obtain ⟨b3, o3, c3, hv, _, _, _, hcf⟩ := hfs.int_at i (by rw [HOL.out]; exact hlt)
        rw [HOL.out] at hv
        cases hv
        obtain ⟨cs, hcl, hsl, hrows⟩ := HL.out.below hb
        obtain ⟨b1, o1, hpv⟩ : ∃ b1 o1, p = some ⟨b1, o1, none⟩ := by
          obtain ⟨b1, o1, _, _, hv, _⟩ := (HL.out.below hb).row_at i hlt
          cases hv; exact ⟨b1, o1, rfl⟩
        subst hpv
        have hsl0 : Sl wr (.slice (some ⟨b1, o1, none⟩) cs.length cap) cs := by rw [hcl]; exact hsl
        have HS1 : Hid (Sl wr (.slice (some ⟨b1, o1, none⟩) i cap) (cs.take i)) := hsl0.take i (by omega)
        have hs2 := hsl0.drop (i + 1) (by omega)
        rw [hcl] at hs2
        have hs2' : Sl wr (.slice (if cap = i + 1 then some ⟨b1, o1, none⟩ else some ⟨b1, o1 + (i + 1), none⟩) (bids.length - (i + 1)) (cap - (i + 1))) (cs.drop (i + 1)) := by
          by_cases hce : cap = i + 1
          · rw [if_pos hce]
            have e0 : cs.drop (i + 1) = [] := List.drop_eq_nil_of_le (by omega)
            rw [e0]
            have e1 : bids.length - (i + 1) = 0 := by omega
            rw [e1]
            exact ⟨_, _, rfl, Nat.zero_le _, by unfold maxLen; omega, (fun h => by cases h), fun h => absurd h (by simp)⟩
          · rw [if_neg hce]; exact hs2
        obtain ⟨P2, hP2⟩ : ∃ P2, (if cap = i + 1 then some (⟨b1, o1, none⟩ : Addr) else some ⟨b1, o1 + (i + 1), none⟩) = P2 := ⟨_, rfl⟩
        rw [hP2] at hs2'
        have HP2 := Lib.hid hP2
        have HS2 := Lib.hid hs2'
        clear hP2 hs2'
        have hfl2 : (cs.take i ++ cs.drop (i + 1)).length ≤ 7 := by simp; omega
        have hone : ∀ q ∈ [cs.take i, cs.drop (i + 1)], ∀ u ∈ q, u.oneCell' = true := by
          have hc : ∀ u ∈ cs, u.oneCell' = true := fun u hu => by
            obtain ⟨j, hj, rfl⟩ := List.mem_iff_getElem.1 hu
            exact (hrows j _ (List.getElem?_eq_getElem hj)).one
          intro q hq u hu
          rcases List.mem_cons.1 hq with rfl | hq
          · exact hc u (List.mem_of_mem_take hu)
          · rcases List.mem_cons.1 hq with rfl | hq
            · exact hc u (List.mem_of_mem_drop hu)
            · cases hq
        have HCAT : Hid (∀ w1, Below wr.heap.size wr w1 → ∀ u, Lists w1 u [cs.take i, cs.drop (i + 1)] → Calls Tryd.prog 70 #[u] w1 fun e w' => ∃ v', e = .returned v' ∧ Mat w' v' (bids.eraseIdx i) ∧ Below w1.heap.size w1 w') := fun w1 hbw u hu =>
          (concat_go u _ w1 hu (by simp) (by simp only [List.flatten_cons, List.flatten_nil, List.append_nil]; exact hfl2) hone).mono fun e w' ⟨v', he, hown, hb'⟩ => by
            simp only [List.flatten_cons, List.flatten_nil, List.append_nil] at hown
            refine ⟨v', he, ⟨cs.take i ++ cs.drop (i + 1), ?_, hown.sl, fun j x hx => ?_⟩, hb'⟩
            · rw [← List.eraseIdx_eq_take_drop_succ, List.length_eraseIdx, List.length_eraseIdx, hcl]
            · exact ((eraseIdx_cells hcl hlt hrows j x hx).below hbw).below hb'
        have HLIST : Hid (∀ w1, Below wr.heap.size wr w1 → Lists (w1.alloc (.cells #[.slice (some ⟨b1, o1, none⟩) i cap, .slice P2 (bids.length - (i + 1)) (cap - (i + 1))] 22)) (.slice (some ⟨w1.heap.size, 0, none⟩) 2 2) [cs.take i, cs.drop (i + 1)]) := fun w1 hbw => by
          exact lists2 (HS1.out.below hbw) (HS2.out.below hbw)
        have hPAY := HPAY.out i hlt
        have hbd := HBD.out i
        have hwb := HWB.out
        have HPTAKE := Lib.hid (payP_take2 m bids i hlt)
        obtain ⟨fi, hfi2⟩ : ∃ fi, F.getD i 0 = fi := ⟨_, rfl⟩
        rw [hfi2] at hcf hPAY hbd
        obtain ⟨ai, hai⟩ : ∃ ai, aloneP m (bids.eraseIdx i) = ai := ⟨_, rfl⟩
        have HAL : Hid (∀ W bv, Mat W bv (bids.eraseIdx i) → Calls Tryd.prog 71 #[.agg #[.int .i64 (N : Nat), .slice (some ⟨b1, o1, none⟩) bids.length cap], bv] W fun e w' => e = .returned (.int .i64 ai) ∧ Below W.heap.size W w') := fun W bv hbv => by
          rw [← hai]; exact HALONE.out W bv i hbv hlt
        rw [hai] at hPAY hbd
        have HPI := Lib.hid hPAY
        have hsub1 : IntKind.i64.wrap (S - fi) = S - fi := IntWalk.i64_in _ (by omega)
        have hsub2 : IntKind.i64.wrap (ai - (S - fi)) = ai - (S - fi) := IntWalk.i64_in _ (by omega)
        have hwi : IntKind.i64.wrap ((i : Int) + 1) = (i : Int) + 1 := IntWalk.i64_in _ (by omega)
        have hi1 : (i : Int) + 1 ≤ (bids.length : Int) := by omega
        have hi2 : (i : Int) ≤ (cap : Int) := by omega
        have hi3 : (bids.length : Int) ≤ (cap : Int) := by omega
        have hi0 : (0 : Int) ≤ (i : Int) + 1 := by omega
        have hnn : ((i : Int) + 1).toNat = i + 1 := by omega
        clear hown hr0 hfs hb hbl hsl hsl0 hs2 hone hrows hfl2 hfi2 hai hPAY hbd hwb HALONE
        go_wp2
        refine wp_region_rel (by kernel_rfl) 45 rfl (by kernel_rfl) [.fix (.pointer (some ⟨w.heap.size, 1, none⟩)), .fix (.slice (some ⟨b1, o1, none⟩) bids.length cap), .fix (.int .i64 i), .fix (.slice (some ⟨b1, o1, none⟩) i cap), .fix (.pointer (some ⟨w.heap.size, 1, none⟩)), .fix (.slice (some ⟨b1, o1, none⟩) bids.length cap), .fix (.int .i64 i), .fix (.int .i64 ((i : Int) + 1)), .fix (.slice P2 (bids.length - (i + 1)) (cap - (i + 1))), .mem (fun u W => Lists W u [cs.take i, cs.drop (i + 1)]), .mem (fun u W => Mat W u (bids.eraseIdx i)), .mem (fun u W => Mat W u (bids.eraseIdx i))] rfl (stays_of (fun i M hk v w w' h hb => by rcases i with _ | _ | _ | _ | _ | _ | _ | _ | _ | _ | _ | _ | i <;> simp at hk <;> subst hk <;> first | exact Lists.below h hb | exact Mat.below h hb) (fun j b k T n => by rcases j with _ | _ | _ | _ | _ | _ | _ | _ | _ | _ | _ | _ | j <;> simp)) ?hop ?hQ
        case hop =>
          intro W hW j o hj vs w1 hb hV
          have hbw : Below wr.heap.size wr w1 := by rw [hW] at hb; exact ((Below.refl wr.heap.size wr).drew).trans hb
          have d1 : w1.cell? ⟨w.heap.size, 1, none⟩ = some (.slice (some ⟨b1, o1, none⟩) bids.length cap) := (HR0.out.below hbw HR0.out.lt).cell 1
          clear hW hb
          have hj' : j < 12 := (List.getElem?_eq_some_iff.1 hj).1
          rcases (by omega : j = 0 ∨ j = 1 ∨ j = 2 ∨ j = 3 ∨ j = 4 ∨ j = 5 ∨ j = 6 ∨ j = 7 ∨ j = 8 ∨ j = 9 ∨ j = 10 ∨ j = 11) with rfl | rfl | rfl | rfl | rfl | rfl | rfl | rfl | rfl | rfl | rfl | rfl
          · cases hj
            clear hj'
            refine .inl ⟨rfl, ?_⟩
            (try simp [predsR, Region.binds, Vk] at hV)
            simp only [putAll]
            generalize hR : Res _ _ vs w1 = R
            go_simp
            subst hR
            exact ⟨rfl, Below.refl _ _⟩
          · cases hj
            clear hj'
            refine .inl ⟨rfl, ?_⟩
            (try simp [predsR, Region.binds, Vk] at hV)
            simp only [putAll]
            generalize hR : Res _ _ vs w1 = R
            go_simp
            subst hR
            exact ⟨rfl, Below.refl _ _⟩
          · cases hj
            clear hj'
            refine .inl ⟨rfl, ?_⟩
            (try simp [predsR, Region.binds, Vk] at hV)
            simp only [putAll]
            generalize hR : Res _ _ vs w1 = R
            go_simp
            subst hR
            exact ⟨rfl, Below.refl _ _⟩
          · cases hj
            clear hj'
            refine .inl ⟨rfl, ?_⟩
            (try simp [predsR, Region.binds, Vk] at hV)
            simp only [putAll]
            generalize hR : Res _ _ vs w1 = R
            go_simp
            subst hR
            exact ⟨rfl, Below.refl _ _⟩
          · cases hj
            clear hj'
            refine .inl ⟨rfl, ?_⟩
            (try simp [predsR, Region.binds, Vk] at hV)
            simp only [putAll]
            generalize hR : Res _ _ vs w1 = R
            go_simp
            subst hR
            exact ⟨rfl, Below.refl _ _⟩
          · cases hj
            clear hj'
            refine .inl ⟨rfl, ?_⟩
            (try simp [predsR, Region.binds, Vk] at hV)
            simp only [putAll]
            generalize hR : Res _ _ vs w1 = R
            go_simp
            subst hR
            exact ⟨rfl, Below.refl _ _⟩
          · cases hj
            clear hj'
            refine .inl ⟨rfl, ?_⟩
            (try simp [predsR, Region.binds, Vk] at hV)
            simp only [putAll]
            generalize hR : Res _ _ vs w1 = R
            go_simp
            subst hR
            exact ⟨rfl, Below.refl _ _⟩
          · cases hj
            clear hj'
            refine .inl ⟨rfl, ?_⟩
            (try simp [predsR, Region.binds, Vk] at hV)
            simp only [putAll]
            generalize hR : Res _ _ vs w1 = R
            go_simp
            subst hR
            exact ⟨rfl, Below.refl _ _⟩
          · cases hj
            clear hj'
            refine .inl ⟨rfl, ?_⟩
            (try simp [predsR, Region.binds, Vk] at hV)
            simp only [putAll]
            generalize hR : Res _ _ vs w1 = R
            go_simp
            subst hR
            exact ⟨by rw [HP2.out], Below.refl _ _⟩
          · cases hj
            clear hj'
            refine .inl ⟨rfl, ?_⟩
            (try simp [predsR, Region.binds, Vk] at hV)
            simp only [putAll]
            generalize hR : Res _ _ vs w1 = R
            go_simp
            subst hR
            exact ⟨HLIST.out w1 hbw, (Below.refl w1.heap.size w1).alloc (Nat.le_refl _) _⟩
          · cases hj
            clear hj'
            refine .inl ⟨rfl, ?_⟩
            generalize hG : relUpon _ _ _ = G
            have hS : Lists w1 (vs 9) [cs.take i, cs.drop (i + 1)] := hV 9 (by decide)
            clear hV
            subst hG
            simp only [putAll]
            generalize hR : Res _ _ vs w1 = R
            go_simp
            subst hR
            refine (HCAT.out w1 hbw _ hS).mono ?_
            rintro e w2 ⟨v2, rfl, hs2, hb2⟩
            exact ⟨_, rfl, hs2, hb2⟩
          · cases hj
            clear hj'
            refine .inl ⟨rfl, ?_⟩
            generalize hG : relUpon _ _ _ = G
            have hS : Mat w1 (vs 10) (bids.eraseIdx i) := hV 10 (by decide)
            clear hV
            subst hG
            simp only [putAll]
            generalize hR : Res _ _ vs w1 = R
            go_simp
            subst hR
            exact ⟨hS, Below.refl _ _⟩
        case hQ =>
          intro W hW vs w1 hb hV hD
          have hbw : Below wr.heap.size wr w1 := by rw [hW] at hb; exact ((Below.refl wr.heap.size wr).drew).trans hb
          have v0 : vs 0 = _ := hV 0 (by decide)
          have v1 : vs 1 = _ := hV 1 (by decide)
          have v2 : vs 2 = _ := hV 2 (by decide)
          have v3 : vs 3 = _ := hV 3 (by decide)
          have v4 : vs 4 = _ := hV 4 (by decide)
          have v5 : vs 5 = _ := hV 5 (by decide)
          have v6 : vs 6 = _ := hV 6 (by decide)
          have v7 : vs 7 = _ := hV 7 (by decide)
          have v8 : vs 8 = _ := hV 8 (by decide)
          have hM : Mat w1 (vs 11) (bids.eraseIdx i) := hV 11 (by decide)
          simp only [putAll, v0, v1, v2, v3, v4, v5, v6, v7, v8]
          obtain ⟨z9, hz9⟩ : ∃ z, vs 9 = z := ⟨_, rfl⟩
          obtain ⟨z10, hz10⟩ : ∃ z, vs 10 = z := ⟨_, rfl⟩
          obtain ⟨z11, hz11⟩ : ∃ z, vs 11 = z := ⟨_, rfl⟩
          rw [hz11] at hM
          rw [hz9, hz10, hz11]
          have HW := Lib.hid (HAL.out w1 z11 hM)
          have HOWN1 := Lib.hid (HOWN.out.below hbw (Nat.le_refl _))
          have hr1 := HR0.out.below hbw HR0.out.lt
          have c0 := hr1.cell 0
          have c1 := hr1.cell 1
          simp only [List.getElem?_cons_zero, List.getElem?_cons_succ] at c0 c1
          have HR1 := Lib.hid hr1
          have HBL1 := Lib.hid (HBL.out.trans (hbw.mono HBL.out.size))
          clear hV hD v0 v1 v2 v3 v4 v5 v6 v7 v8 hb hbw hW hz9 hz10 hz11 hM hr1
          go_wp2_with (first
            | (go_at_call 71; refine HW.out.mono ?_; rintro e w2 ⟨rfl, hb2⟩; have HOWN2 := Lib.hid (HOWN1.out.below hb2 (Nat.le_refl _)); have HR2 := Lib.hid (HR1.out.below hb2 HR1.out.lt); have HBL2 := Lib.hid (HBL1.out.trans (hb2.mono HBL1.out.size)); clear hb2)
            | (at_builtin; refine wpList_append_box w2 rfl (.tmp 33) (.tmp 41) 31 rfl 2 (.int .i64 0) 8 Tryd.underlying31 Tryd.info2 rfl (by omega) wb.heap.size u5 (ints ((payP m bids).take i)) rfl HOWN2.out (.int .i64 (ai - (S - fi))) rfl rfl ?a1 ?a2 ?_))
          case a1 => rw [ints_length, List.length_take]; omega
          case a2 => exact HBL2.out.size
          intro v' w' hown hbel hkeep
          have HOWN3 : Hid (Own 2 wb.heap.size w' v' (ints ((payP m bids).take (i + 1)))) := by
            rw [HPTAKE.out, HPI.out, ints_append]; exact hown
          have HBL3 := Lib.hid (HBL2.out.trans hbel)
          clear hown hbel hkeep
          go_wp2
          go_roundw
          case rel => exact ⟨i + 1, by omega, by go_num, HOWN3.out, HBL3.out⟩
          case measure => simp [intOf]; omega
      · obtain rfl : i = bids.length := by omega
        rw [List.take_of_length_le (by rw [payP_len]; exact Nat.le_refl _)] at hown
        have HOWN2 := Lib.hid (hown.base HB1.out.size)
        clear hown hr0 hfs hb hbl
        go_wp2
        go_ret
        exact ⟨_, rfl, HOWN2.out, HB.out⟩

set_option maxRecDepth 100000 in
set_option maxHeartbeats 2000000 in
theorem pay_spec : SpecPay := by
  intro v m bids w hl hm hf
  have hn7 := hf.1
  have HNW := Lib.hid (new_go v m bids w hl hm hf)
  by_cases hc : checkP m bids = 0
  · obtain ⟨h1, h6, hn1, hn6, ho⟩ := checkP_zero hc
    obtain ⟨K, rfl⟩ : ∃ K : Nat, m = (K : Int) := ⟨m.toNat, by omega⟩
    rw [Int.toNat_natCast] at ho
    have hK6 : K ≤ 6 := by omega
    have HB1 : Hid (payR (K : Int) bids = payP K bids) := by show _ = _; unfold payR; rw [if_pos hc, Int.toNat_natCast]
    have e1 : newR (K : Int) bids v = .agg #[.int .i64 ((2 ^ K - 1 : Nat) : Int), v] := by unfold newR; rw [if_pos hc, Int.toNat_natCast]
    rw [e1, hc] at HNW
    have HPAY : Hid (∀ W, Below w.heap.size w W → Calls Tryd.prog 50 #[.agg #[.int .i64 ((2 ^ K - 1 : Nat) : Int), v]] W fun e w' => ∃ v', e = .returned v' ∧ Own 2 W.heap.size w' v' (ints (payP K bids)) ∧ Below W.heap.size W w') := fun W hb => payments_go v K bids W (hl.below hb) hK6 hn7 hn1 ho
    obtain ⟨p, cap, rfl, hlc, hcm⟩ := hl.form_
    rw [hc]
    obtain ⟨N, hN⟩ : ∃ N : Nat, 2 ^ K - 1 = N := ⟨_, rfl⟩
    rw [hN] at HNW HPAY
    clear hl hm hf hc ho h1 h6 e1 hN
    go_enter Tryd.func18, Tryd.ntmps18
    go_wp2_with (first
      | (go_at_call 46; refine HNW.out.mono ?_; rintro e w1 ⟨rfl, hb1⟩; have HB1' := Lib.hid (hb1.alloc hb1.size (.cells #[.int .i64 (N : Int), .slice p bids.length cap] 73)); clear hb1)
      | (go_at_call 50; refine (HPAY.out _ HB1'.out).mono ?_; rintro e w2 ⟨v2, rfl, hown2, hb2⟩; have HS2 := Lib.hid hown2.sl; have HB2' := Lib.hid (HB1'.out.trans (hb2.mono HB1'.out.size)); clear hown2 hb2))
    go_ret2
    exact ⟨_, rfl, by rw [HB1.out]; exact HS2.out, HB2'.out⟩
  · have HNO := Lib.hid (payR_no hc)
    have e1 : newR m bids v = .agg #[.int .i64 0, .slice none 0 0] := by unfold newR; rw [if_neg hc]
    rw [e1] at HNW
    obtain ⟨c, hcc⟩ : ∃ c, checkP m bids = c := ⟨_, rfl⟩
    rw [hcc] at HNW hc ⊢
    have hne : (c != 0) = true := by rw [bne_iff_ne]; exact hc
    clear hl hm hf e1 hcc hc
    go_enter Tryd.func18, Tryd.ntmps18
    go_wp2_with (first
      | (go_at_call 46; refine HNW.out.mono ?_; rintro e w1 ⟨rfl, hb1⟩; have HB1 := Lib.hid hb1; clear hb1))
    go_ret2
    exact ⟨_, rfl, by rw [HNO.out]; exact Sl.nil _, HB1.out.alloc HB1.out.size _⟩
end Go.Proofs.YthbfgmgpploneaaDoor
