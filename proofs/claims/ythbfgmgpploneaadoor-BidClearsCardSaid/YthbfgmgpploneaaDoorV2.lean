/- Best worths grow with the bidders and with what they offer; what all offer for their bundles is a core payment list. -/
/- The law's own, whose rows lie apart; Best at bids; BidWorth's walk. -/
import Derived.Test.YthbfgmgpploneaaDoorK2
set_option linter.unusedVariables false
set_option linter.unusedSimpArgs false
set_option linter.unnecessarySimpa false
namespace Go.Proofs.YthbfgmgpploneaaDoor
open Go.RowKit

theorem bestTo_mono {b b' t t' : List Int} {on on' : Bool} {set : Nat} (hb : ∀ s, b.getD s 0 ≤ b'.getD s 0) (ht : ∀ s, t.getD s 0 ≤ t'.getD s 0) (ho : on = true → on' = true) (k : Nat) : bestTo b t on set k ≤ bestTo b' t' on' set k := by
  induction k with
  | zero => exact Int.le_refl 0
  | succ k ih =>
    simp only [bestTo]
    by_cases hc : sans k set = 0 ∧ (k = 0 ∨ on = true)
    · have hc' : sans k set = 0 ∧ (k = 0 ∨ on' = true) := ⟨hc.1, hc.2.imp id ho⟩
      rw [if_pos hc, if_pos hc']
      have h1 := hb k
      have h2 := ht (sans set k)
      omega
    · rw [if_neg hc]
      split
      · omega
      · exact ih
theorem rowT_mono {m : Nat} {b b' t t' : List Int} {on on' : Bool} (hb : ∀ s, b.getD s 0 ≤ b'.getD s 0) (ht : ∀ s, t.getD s 0 ≤ t'.getD s 0) (ho : on = true → on' = true) (s : Nat) : (rowT m b t on).getD s 0 ≤ (rowT m b' t' on').getD s 0 := by
  by_cases hs : s < 2 ^ m
  · rw [rowT_get _ _ _ _ _ hs, rowT_get _ _ _ _ _ hs]; exact bestTo_mono hb ht ho _
  · rw [rowT_out _ _ _ _ _ hs, rowT_out _ _ _ _ _ hs]; exact Int.le_refl _
theorem tk_mono {m : Nat} {bids bids' : List (List Int)} {who who' : Nat} (hl : bids'.length = bids.length) (hb : ∀ i s, (bids.getD i []).getD s 0 ≤ (bids'.getD i []).getD s 0) (hw : ∀ i, i < bids.length → bt who i = true → bt who' i = true) :
    ∀ j k, k + j = bids.length → ∀ s, (tk m bids who k).getD s 0 ≤ (tk m bids' who' k).getD s 0 := by
  intro j
  induction j with
  | zero =>
    intro k hk s
    have : k = bids.length := by omega
    subst this
    have e := tk_end m bids' who'
    rw [hl] at e
    rw [tk_end, e]
    exact Int.le_refl _
  | succ j ih =>
    intro k hk s
    rw [tk_step _ _ _ _ (by omega), tk_step _ bids' _ _ (by omega)]
    exact rowT_mono (hb k) (ih (k + 1) (by omega)) (hw k (by omega)) s
theorem worthP_mono {m : Nat} {bids bids' : List (List Int)} {who who' : Nat} (hl : bids'.length = bids.length) (hb : ∀ i s, (bids.getD i []).getD s 0 ≤ (bids'.getD i []).getD s 0) (hw : ∀ i, i < bids.length → bt who i = true → bt who' i = true) : worthP m bids who ≤ worthP m bids' who' :=
  tk_mono hl hb hw bids.length 0 (by omega) _
theorem worthP_all {m : Nat} {bids : List (List Int)} (set : Nat) : worthP m bids set ≤ worthP m bids (2 ^ bids.length - 1) :=
  worthP_mono rfl (fun _ _ => Int.le_refl _) (fun i hi _ => bt_ones _ _ hi)
theorem aloneP_all {m : Nat} {bids : List (List Int)} (hm : m ≤ 6) (h : Offers m bids) : aloneP m bids = worthP m bids (2 ^ bids.length - 1) := by
  rw [← worthP_alone hm h, sel_all _ _ _ (fun j _ hj => bt_ones _ _ (by omega))]
/-- one bidder more -/
theorem worthP_more {m : Nat} {bids : List (List Int)} {o : List Int} (hm : m ≤ 6) (h : Offers m bids) (ho : offerB m o = true) : worthP m bids (2 ^ bids.length - 1) ≤ worthP m (bids ++ [o]) (2 ^ (bids ++ [o]).length - 1) := by
  have h2 : Offers m (bids ++ [o]) := fun b hb => by
    rcases List.mem_append.1 hb with hb | hb
    · exact h b hb
    · rw [List.mem_singleton.1 hb]; exact ho
  rw [← aloneP_all hm h, ← aloneP_all hm h2]
  unfold aloneP
  have e : (bids ++ [o]).length = bids.length + 1 := by simp
  have e2 : (bids ++ [o]).getD bids.length [] = o := by rw [List.getD_eq_getElem?_getD, List.getElem?_append_right (Nat.le_refl _)]; simp
  have e3 : upTo m (bids ++ [o]) bids.length = upTo m bids bids.length := by unfold upTo; rw [List.take_append_of_le_length (Nat.le_refl _)]
  have hM := pow_pos2 m
  rw [e, upTo_succ _ _ _ (by omega), e2, e3, rowT_get _ _ _ _ _ (by omega)]
  have := bestTo_ge (b := o) (t := upTo m bids bids.length) (set := 2 ^ m - 1) (u := 0) (zero_sans _)
  rw [offerB_zero ho, sans_zero] at this
  omega
/-- each offer for a bundle below k that is not empty is 3 higher -/
def raise (b : List Int) (k : Nat) : List Int := (List.range b.length).map fun s => if 1 ≤ s ∧ s < k then b.getD s 0 + 3 else b.getD s 0
theorem raise_len (b : List Int) (k : Nat) : (raise b k).length = b.length := by simp [raise]
theorem raise_get (b : List Int) (k s : Nat) (hs : s < b.length) : (raise b k).getD s 0 = if 1 ≤ s ∧ s < k then b.getD s 0 + 3 else b.getD s 0 := by simp [raise, hs]
theorem raise_out (b : List Int) (k s : Nat) (hs : ¬ s < b.length) : (raise b k).getD s 0 = 0 := by
  rw [List.getD_eq_getElem?_getD, List.getElem?_eq_none (by rw [raise_len]; omega)]; rfl
theorem raise_one (b : List Int) : raise b 1 = b := by
  refine ext_getD (raise_len _ _) fun s hs => ?_
  rw [raise_len] at hs
  rw [raise_get _ _ _ hs, if_neg (by omega)]
theorem raise_set (b : List Int) (k : Nat) (h1 : 1 ≤ k) (hk : k < b.length) : (raise b k).set k (b.getD k 0 + 3) = raise b (k + 1) := by
  refine ext_getD (by simp [raise]) fun s hs => ?_
  have hs' : s < b.length := by simpa [raise] using hs
  rw [raise_get _ _ _ hs']
  by_cases e : k = s
  · subst e
    rw [getD_set_same _ _ _ _ (by rw [raise_len]; exact hk), if_pos ⟨h1, by omega⟩]
  · rw [getD_set_other _ _ _ _ _ e, raise_get _ _ _ hs']
    by_cases h : 1 ≤ s ∧ s < k
    · rw [if_pos h, if_pos ⟨h.1, by omega⟩]
    · rw [if_neg h, if_neg (by omega)]
theorem raise_at (b : List Int) (k : Nat) (hk : k < b.length) : (raise b k).getD k 0 = b.getD k 0 := by rw [raise_get _ _ _ hk, if_neg (by omega)]
theorem raise_bd (b : List Int) (h : ∀ s, 0 ≤ b.getD s 0 ∧ b.getD s 0 ≤ 39) (k s : Nat) : 0 ≤ (raise b k).getD s 0 ∧ (raise b k).getD s 0 ≤ 42 := by
  by_cases hs : s < b.length
  · rw [raise_get _ _ _ hs]; have := h s; split <;> omega
  · rw [raise_out _ _ _ hs]; omega
theorem raise_ge (b : List Int) (k s : Nat) : b.getD s 0 ≤ (raise b k).getD s 0 ∧ (raise b k).getD s 0 ≤ b.getD s 0 + 3 := by
  by_cases hs : s < b.length
  · rw [raise_get _ _ _ hs]; split <;> omega
  · rw [raise_out _ _ _ hs, List.getD_eq_getElem?_getD, List.getElem?_eq_none (by omega)]; simp
theorem raise_offer {m : Nat} {b : List Int} (h : Offer39 m b) : offerB m (raise b b.length) = true := by
  obtain ⟨ho, h39⟩ := h
  have hlen := offerB_len ho
  have hz := offerB_zero ho
  have hp := pow_pos2 m
  have hall := ho
  unfold offerB at hall ⊢
  simp only [Bool.and_eq_true, beq_iff_eq, List.all_eq_true, List.mem_range] at hall ⊢
  refine ⟨⟨by rw [raise_len]; exact hlen, ?_⟩, fun s hs => ?_⟩
  · rw [raise_get _ _ _ (by omega), if_neg (by omega)]; exact hz
  · rw [raise_len] at hs
    have h0 := hall.2 s hs
    have hbd := raise_bd b h39 b.length s
    unfold offerAt at h0 ⊢
    simp only [Bool.and_eq_true, decide_eq_true_eq, List.all_eq_true, List.mem_range, Bool.not_eq_true', Bool.and_eq_false_iff, decide_eq_false_iff_not] at h0 ⊢
    refine ⟨⟨hbd.1, by omega⟩, fun i hi => ?_⟩
    cases hb : bt s i with
    | false => exact .inl rfl
    | true =>
      right
      have h1 := (h0.2 i hi).resolve_left (by rw [hb]; decide)
      have hs1 : sans s (2 ^ i) < b.length := Nat.lt_of_le_of_lt (sans_le _ _) hs
      rw [raise_get _ _ _ hs, raise_get _ _ _ hs1]
      have hs0 : 1 ≤ s := by
        rcases Nat.eq_zero_or_pos s with h | h
        · subst h; rw [bt_eq] at hb; simp at hb
        · exact h
      rw [if_pos ⟨hs0, hs⟩]
      split <;> omega
theorem bestTo_plus {b b' t : List Int} {on : Bool} {set : Nat} (hb : ∀ s, b'.getD s 0 ≤ b.getD s 0 + 3) (k : Nat) : bestTo b' t on set k ≤ bestTo b t on set k + 3 := by
  induction k with
  | zero => show (0 : Int) ≤ 0 + 3; omega
  | succ k ih =>
    simp only [bestTo]
    have h1 := hb k
    split <;> omega
theorem set0_getD {α : Type} (bids : List α) (x d : α) (i : Nat) (h : 0 < bids.length) : (bids.set 0 x).getD i d = if i = 0 then x else bids.getD i d := by
  by_cases e : i = 0
  · subst e; rw [if_pos rfl, getD_set_same _ _ _ _ h]
  · rw [if_neg e, getD_set_other _ _ _ _ _ (fun h => e h.symm)]
/-- a higher offer -/
theorem worthP_high {m : Nat} {bids : List (List Int)} {b' : List Int} (h1 : 1 ≤ bids.length) (hb : ∀ s, (bids.getD 0 []).getD s 0 ≤ b'.getD s 0 ∧ b'.getD s 0 ≤ (bids.getD 0 []).getD s 0 + 3) (who : Nat) :
    worthP m bids who ≤ worthP m (bids.set 0 b') who ∧ worthP m (bids.set 0 b') who ≤ worthP m bids who + 3 := by
  have hM := pow_pos2 m
  refine ⟨worthP_mono (by simp) (fun i s => ?_) (fun _ _ h => h), ?_⟩
  · rw [set0_getD _ _ _ _ h1]
    split
    · rename_i e; subst e; exact (hb s).1
    · exact Int.le_refl _
  · have e : tk m (bids.set 0 b') who 1 = tk m bids who 1 := by
      unfold tk
      cases bids with
      | nil => rfl
      | cons c cs => rfl
    unfold worthP
    rw [tk_step m (bids.set 0 b') who 0 (by simp; omega), tk_step m bids who 0 h1, set0_getD _ _ _ _ h1, if_pos rfl, e, rowT_get _ _ _ _ _ (by omega), rowT_get _ _ _ _ _ (by omega)]
    exact bestTo_plus (fun s => (hb s).2) _
theorem offers_high {m : Nat} {bids : List (List Int)} (h : ∀ b, b ∈ bids → Offer39 m b) (h1 : 1 ≤ bids.length) : Offers m (bids.set 0 (raise (bids.getD 0 []) (bids.getD 0 []).length)) := by
  intro b hb
  rcases List.mem_or_eq_of_mem_set hb with h2 | h2
  · exact (h b h2).1
  · rw [h2]
    refine raise_offer (h _ ?_)
    rw [List.getD_eq_getElem?_getD, List.getElem?_eq_getElem h1]
    exact List.getElem_mem h1
theorem own_rest {bids : List (List Int)} {l : List Int} (set k : Nat) (hk : k ≤ l.length) : ownTo bids l set k + restTo (offP bids l) set k = addTo (offP bids l) k := by
  induction k with
  | zero => rfl
  | succ k ih =>
    have ih := ih (by omega)
    have e := offP_get bids l k (by omega)
    have e2 : offAt bids l k = (bids.getD k []).getD (l.getD k 0).toNat 0 := rfl
    simp only [ownTo, restTo, addTo]
    split <;> omega
/-- what all offer for their bundles is a core payment list -/
theorem core_offered {m : Nat} {bids : List (List Int)} (h : Offers m bids) : coreP m bids (offP bids (bestP m bids)) = true := by
  refine (coreP_iff m bids _).2 ⟨fun i hi => ?_, fun set hs => ?_⟩
  · rw [offP_get _ _ _ (by rw [bestP_len]; exact hi)]
    have := offAt_bd h (bestP m bids) i
    have e : offAt bids (bestP m bids) i = (bids.getD i []).getD (pick m bids i) 0 := by
      unfold offAt; rw [bestP_get _ _ _ hi, Int.toNat_natCast]
    omega
  · have h1 := own_rest (bids := bids) (l := bestP m bids) set bids.length (by rw [bestP_len]; exact Nat.le_refl _)
    have h2 := best_worth h
    rw [offP_len, bestP_len] at h2
    have h3 := worthP_all (m := m) (bids := bids) set
    omega

theorem Apart.later {T T' b b' : Nat} {w w' : World} {v v' : Value} {xs ys : List Value} (h : Own T b w v xs) (h' : Own T' b' w' v' ys) (hb : w.heap.size ≤ b') : Apart v v' := fun k h1 h2 => by
  have a := (World.ownsRow.lt h k h1).2
  have c := (World.ownsRow.lt h' k h2).1
  omega
/-- a slice of slices of the call's own, no two of which lie in one block -/
def OwnD (TR T base : Nat) (w : World) (v : Value) (rows : List (List Int)) : Prop :=
  ∃ vs, vs.length = rows.length ∧ Own TR base w v vs ∧ (∀ i u, vs[i]? = some u → Own T base w u (ints (rows.getD i []))) ∧ ∀ (i j : Nat) x y, i ≠ j → vs[i]? = some x → vs[j]? = some y → Apart x y
theorem OwnD.own {TR T base : Nat} {w : World} {v : Value} {rows : List (List Int)} (h : OwnD TR T base w v rows) : OwnM TR T base w v rows := by
  obtain ⟨vs, hl, ho, hr, _⟩ := h
  exact ⟨vs, hl, ho, hr⟩
theorem OwnD.mat {TR T base : Nat} {w : World} {v : Value} {rows : List (List Int)} (h : OwnD TR T base w v rows) : Mat w v rows := h.own.mat
theorem OwnD.below {TR T base B : Nat} {w w' : World} {v : Value} {rows : List (List Int)} (h : OwnD TR T base w v rows) (hb : Below B w w') (hB : w.heap.size ≤ B) : OwnD TR T base w' v rows := by
  obtain ⟨vs, hl, hs, hr, hd⟩ := h
  exact ⟨vs, hl, hs.below hb hB, fun i u hu => (hr i u hu).below hb hB, hd⟩
theorem OwnD.nil (TR T base : Nat) (w : World) : OwnD TR T base w (.slice none 0 0) [] := ⟨[], rfl, World.ownsRow_nil _ _ _ _, (fun i u hu => by simp at hu), (fun i j x y _ hx => by simp at hx)⟩
theorem OwnD.snoc {TR T base : Nat} {W w' : World} {v' u : Value} {rows : List (List Int)} {vs : List Value} {r : List Int} (hne : T ≠ TR) (hl : vs.length = rows.length)
    (hr : ∀ i u, vs[i]? = some u → Own T base W u (ints (rows.getD i []))) (hd : ∀ (i j : Nat) x y, i ≠ j → vs[i]? = some x → vs[j]? = some y → Apart x y) (hu : Own T base W u (ints r)) (hf : ∀ (i : Nat) x, vs[i]? = some x → Apart x u) (ho : Own TR base w' v' (vs ++ [u])) (hk : ∀ T b2 v2 ys, T ≠ TR → Own T b2 W v2 ys → Own T b2 w' v2 ys) :
    OwnD TR T base w' v' (rows ++ [r]) := by
  have hlast : ∀ i y, (vs ++ [u])[i]? = some y → (i < vs.length ∧ vs[i]? = some y) ∨ (i = vs.length ∧ y = u) := fun i y hy => by
    rcases Nat.lt_or_ge i vs.length with h | h
    · rw [List.getElem?_append_left h] at hy; exact .inl ⟨h, hy⟩
    · have hi : i = vs.length := by have := (List.getElem?_eq_some_iff.1 hy).1; simp at this; omega
      subst hi
      rw [List.getElem?_append_right (Nat.le_refl _), Nat.sub_self] at hy
      cases hy; exact .inr ⟨rfl, rfl⟩
  refine ⟨vs ++ [u], by simp [hl], ho, fun i y hy => ?_, fun i j x y hij hx hy => ?_⟩
  · rcases hlast i y hy with ⟨h, hy⟩ | ⟨hi, rfl⟩
    · rw [getD_snoc, if_neg (by omega)]; exact hk T _ _ _ hne (hr i y hy)
    · rw [getD_snoc, if_pos (by omega)]; exact hk T _ _ _ hne hu
  · rcases hlast i x hx with ⟨h, hx1⟩ | ⟨hi, hxu⟩ <;> rcases hlast j y hy with ⟨h', hy1⟩ | ⟨hj, hyu⟩
    · exact hd i j x y hij hx1 hy1
    · rw [hyu]; exact hf i x hx1
    · rw [hxu]; exact (hf j y hy1).symm
    · omega
set_option maxHeartbeats 2000000 in
theorem own_apart (v : Value) (rows : List (List Int)) (w : World) (hl : MatA w v rows) :
    Calls Tryd.prog 13 #[v] w fun e w' => ∃ v', e = .returned v' ∧ OwnD 31 2 w.heap.size w' v' (ownP rows) ∧ Below w.heap.size w w' := by
  obtain ⟨p, cap, rfl, hlc, hcm⟩ := hl.form_
  unfold maxLen at hcm
  have HL := Lib.hid hl
  clear hl
  go_enter Tryd.func13, Tryd.ntmps13
  go_wp2
  go_loopw [3, 4] (fun o i wr => ∃ k : Nat, k ≤ rows.length ∧ k ≤ 7 ∧ i = .int .i64 k ∧ OwnD 31 2 w.heap.size wr o ((ownP rows).take k) ∧ Below w.heap.size w wr) (fun _ i _ => 7 - (intOf i).toNat)
  case atStart => exact ⟨0, Nat.zero_le _, Nat.zero_le _, rfl, OwnD.nil _ _ _ _, Below.refl _ _⟩
  case round =>
    obtain ⟨k, hk, hk7, rfl, hown, hbel⟩ := hrel
    by_cases hlt : k < rows.length ∧ k < 7
    · obtain ⟨h1, h7⟩ := hlt
      have HTAKE := Lib.hid (ownP_take rows k h1 h7)
      obtain ⟨ad, c1, u, hv, _, _, _, hcu, hsu⟩ := (HL.out.below hbel).row_at k h1
      cases hv
      obtain ⟨up, uc, huv, _, _⟩ := hsu.form
      have HC := Lib.hid (list_any u (rows.getD k []) 65 wr hsu (by omega))
      obtain ⟨r, hr⟩ : ∃ r, rows.getD k [] = r := ⟨_, rfl⟩
      rw [hr] at HTAKE huv HC
      have HOWN := Lib.hid hown
      have HB := Lib.hid hbel
      subst huv
      have hd1 : decide ((k : Int) < 7) = true := by rw [decide_eq_true_eq]; omega
      have e65 : ((65 : Nat) : Int) = 65 := rfl
      rw [e65] at HC
      clear hown hbel hsu hr e65
      go_wp2_with fail
      refine HC.out.mono ?_
      rintro e w1 ⟨lv, rfl, ho1, hb1⟩
      obtain ⟨lp, lc, hlv, _, _⟩ := ho1.sl.form
      subst hlv
      obtain ⟨vs, hvl0, hvo0, hvr0, hvd⟩ := HOWN.out
      have hvl := hvl0
      have hvo := hvo0.below hb1 (Nat.le_refl _)
      have hvr := fun i u hu => (hvr0 i u hu).below hb1 (Nat.le_refl _)
      have HFAR : Hid (∀ (i : Nat) x, vs[i]? = some x → Apart x (.slice lp (r.take 65).length lc)) := by
        exact fun i x hx => Apart.later (hvr0 i x hx) ho1 (Nat.le_refl _)
      have HVD := Lib.hid hvd
      have HRO := Lib.hid (ho1.base HB.out.size)
      have HVL := Lib.hid hvl
      have HVO := Lib.hid hvo
      have HVR := Lib.hid hvr
      have HBX := Lib.hid (HB.out.trans (hb1.mono HB.out.size))
      have hv7 : vs.length ≤ 7 := by rw [hvl, List.length_take]; omega
      obtain ⟨nl, hnl⟩ : ∃ nl, (r.take 65).length = nl := ⟨_, rfl⟩
      rw [hnl] at HRO HFAR ⊢
      clear ho1 hb1 hvl hvo hvr hvd hvl0 hvo0 hvr0 HC hnl
      go_wp2_with (first | (at_builtin; refine wpList_append_box w1 rfl (.tmp 15) (.tmp 21) 22 rfl 31 (.slice none 0 0) 24 Tryd.underlying22 Tryd.info31 rfl (by omega) w.heap.size u3 vs rfl HVO.out (.slice lp nl lc) rfl rfl ?a3 ?a4 ?_))
      case a3 => omega
      case a4 => exact HBX.out.size
      intro v' w' hown hbel hkeep
      have HM2 : Hid (OwnD 31 2 w.heap.size w' v' ((ownP rows).take (k + 1))) := by
        rw [HTAKE.out]; exact OwnD.snoc (by decide) HVL.out HVR.out HVD.out HRO.out HFAR.out hown hkeep
      have HB2 := Lib.hid (HBX.out.trans hbel)
      clear hown hbel hkeep
      go_wp2
      go_roundw
      case rel => exact ⟨k + 1, by omega, by omega, by go_num, HM2.out, HB2.out⟩
      case measure => simp [intOf]; omega
    · have HOWN : Hid (OwnD 31 2 w.heap.size wr u3 (ownP rows)) := by
        rw [List.take_of_length_le (by rw [ownP_len]; omega)] at hown; exact hown
      have HALL := Lib.hid hbel
      clear hown hbel
      by_cases h1 : k < rows.length
      · have h7 : k = 7 := by omega
        subst h7
        go_wp2
        go_ret
        exact ⟨_, rfl, HOWN.out, HALL.out⟩
      · obtain rfl : k = rows.length := by omega
        clear hlt
        go_wp2
        go_ret
        exact ⟨_, rfl, HOWN.out, HALL.out⟩
/-- Best, at bids -/
theorem best_at (v : Value) (K : Nat) (bids : List (List Int)) (w : World) (hl : Mat w v bids) (h1 : 1 ≤ K) (h6 : K ≤ 6) (hn1 : 1 ≤ bids.length) (hn6 : bids.length ≤ 6) (ho : Offers K bids) :
    Calls Tryd.prog 17 #[.int .i64 K, v] w fun e w' => ∃ v', e = .returned (.tuple #[.int .i64 (worthP K bids (2 ^ bids.length - 1)), v', .int .i64 0]) ∧ Sl w' v' (ints (bestP K bids)) ∧ Below w.heap.size w w' := by
  have hck := checkP_off h1 h6 hn1 hn6 ho
  have hb : bestR (K : Int) bids = (worthP K bids (2 ^ bids.length - 1), bestP K bids) := by unfold bestR; rw [if_pos hck, Int.toNat_natCast]
  have := best_spec v (K : Int) bids w hl (by unfold I64; omega) (few_off h6 hn6 ho)
  rw [hb, hck] at this
  exact this
theorem ownP_same {bids : List (List Int)} {M : Nat} (hn : bids.length ≤ 7) (hM : M ≤ 65) (h : ∀ b ∈ bids, b.length = M) : ownP bids = bids := by
  unfold ownP
  rw [List.take_of_length_le hn]
  have : ∀ l : List (List Int), (∀ b ∈ l, b.length = M) → l.map (fun r => r.take 65) = l := by
    intro l
    induction l with
    | nil => intro _; rfl
    | cons b l ih =>
      intro h
      rw [List.map_cons, ih (fun c hc => h c (by simp [hc])), List.take_of_length_le (by rw [h b (by simp)]; exact hM)]
  exact this bids h
theorem Things.one {T B : Nat} {w : World} {v : Value} {xs : List Value} (h : Own T B w v xs) (i : Nat) : Things B w (setT (fun _ => Option.none) i ⟨T, v, xs⟩) := by
  refine ⟨fun j t hj => ?_, fun j k t s hjk h1 h2 => ?_⟩
  · unfold setT at hj
    split at hj
    · cases hj; exact h
    · cases hj
  · unfold setT at h1 h2
    split at h1
    · split at h2
      · omega
      · cases h2
    · cases h1
theorem Touch.refl_ (g : Nat) (w : World) : Touch g w w := ⟨rfl, fun _ _ => rfl, rfl, rfl, rfl⟩
theorem Touch.drew_ {g : Nat} {w w' : World} (h : Touch g w w') : Touch g w w'.drew := ⟨h.size, h.other, h.os, h.tape, h.output⟩
set_option maxRecDepth 100000 in
set_option maxHeartbeats 8000000 in
theorem lawWorth (S : Awake) (C : SpecCore) (v ov : Value) (m : Int) (rows : List (List Int)) (of : List Int) (w : World) (hl : MatA w v rows) (hof : SlA w ov (ints of)) (hm : I64 m) (hr : ∀ i, In64 (rows.getD i [])) (hio : In64 of) :
    Calls Tryd.prog 12 #[.int .i64 m, v, ov] w fun e w' => e = .returned (.bool true) ∧ Below w.heap.size w w' := by
  have HT := Lib.hid (tame_any v m rows w hl hr)
  obtain ⟨p0, cap0, rfl, _, _⟩ := hl.form_
  obtain ⟨pp, pc, rfl, hppc, hpcm⟩ := hof.form
  have HOF := Lib.hid hof
  have HIO := Lib.hid hio
  clear hl hof hm hr hio
  go_enter Tryd.func12, Tryd.ntmps12
  go_wp2_with fail
  refine HT.out.mono ?_
  rintro e w1 ⟨K, bids, xv, rfl, hK1, hK4, hn1, hn4, h39, hown, hb1⟩
  have HX := Lib.hid hown.mat
  have HO := Lib.hid h39.offers
  have H39 := Lib.hid h39
  have HB1 := Lib.hid hb1
  obtain ⟨xp, xc, hxv, hxl, _⟩ := hown.mat.form_
  subst hxv
  clear hown h39 hb1 HT
  go_wp2_with fail
  refine (best_at _ K bids w1 HX.out hK1 (by omega) hn1 (by omega) HO.out).mono ?_
  rintro e w2 ⟨av, rfl, hao, hb2⟩
  have HA := Lib.hid hao
  obtain ⟨ap, ac, hav, hal, _⟩ := hao.form
  rw [bestP_len] at hav hal
  subst hav
  have HX2 := Lib.hid (HX.out.below hb2)
  have HB2 := Lib.hid (HB1.out.trans (hb2.mono HB1.out.size))
  clear hao hb2 HX HB1
  have HCORE : Hid (coreB K bids (offP bids (bestP K bids)) = true ∧ coreE bids (offP bids (bestP K bids)) = 0) := by
    have hlen : (offP bids (bestP K bids)).length = bids.length := by rw [offP_len, bestP_len]
    refine ⟨?_, if_pos hlen⟩
    unfold coreB
    rw [if_pos hlen]; exact core_offered HO.out
  have HFB := Lib.hid (offP_bd HO.out (bestP K bids))
  have HFL : Hid ((offP bids (bestP K bids)).length = bids.length) := by show _ = _; rw [offP_len, bestP_len]
  have HFT : Hid (∀ k, k < bids.length → ints ((offP bids (bestP K bids)).take (k + 1)) = ints ((offP bids (bestP K bids)).take k) ++ [.int .i64 ((bids.getD k []).getD (pick K bids k) 0)]) := fun k hk => by
    rw [offP_take _ _ _ (by rw [bestP_len]; exact hk), ints_append]
    have e : offAt bids (bestP K bids) k = (bids.getD k []).getD (pick K bids k) 0 := by
      unfold offAt; rw [bestP_get _ _ _ hk, Int.toNat_natCast]
    rw [e]; rfl
  have HPL := Lib.hid (fun i hi => pick_lt HO.out (k := i) hi)
  have HOL : Hid (∀ i, i < bids.length → (bids.getD i []).length = 2 ^ K) := fun i hi => offerB_len (HO.out.at_ hi)
  have HBG := Lib.hid (fun k hk => bestP_get K bids k hk)
  have HBL := Lib.hid (bestP_len K bids)
  obtain ⟨F, hF⟩ : ∃ F, offP bids (bestP K bids) = F := ⟨_, rfl⟩
  rw [hF] at HCORE HFB HFL HFT
  obtain ⟨W1, hW1⟩ : ∃ W1, worthP K bids (2 ^ bids.length - 1) = W1 := ⟨_, rfl⟩
  rw [hW1]
  have HW1 := Lib.hid hW1
  have hl0 : (0 : Int) ≤ (bids.length : Int) := by omega
  have hM64 : 2 ^ K ≤ 64 := pow_le64 (by omega)
  have hM1 : 2 ≤ 2 ^ K := by
    have : 2 ^ 1 ≤ 2 ^ K := Nat.pow_le_pow_right (by omega) hK1
    omega
  obtain ⟨M, hMM⟩ : ∃ M, 2 ^ K = M := ⟨_, rfl⟩
  rw [hMM] at hM64 hM1 HPL HOL
  have HMM := Lib.hid hMM
  clear hF hW1 hMM
  go_wp2
  go_loopw [11, 12] (fun q i wr => ∃ k : Nat, k ≤ bids.length ∧ i = .int .i64 k ∧ Own 2 w2.heap.size wr q (ints (F.take k)) ∧ Below w2.heap.size w2 wr) (fun _ i _ => bids.length - (intOf i).toNat)
  case atStart => exact ⟨0, Nat.zero_le _, rfl, World.ownsRow_nil _ _ _ _, Below.refl _ _⟩
  case round =>
    obtain ⟨k, hk, rfl, hq, hb⟩ := hrel
    have HQ := Lib.hid hq
    have HBR := Lib.hid hb
    clear hq hb
    by_cases hlt : k < bids.length
    · obtain ⟨b1, o1, c1, u, hv, _, _, hb1s, hc1, hsu⟩ := HX2.out.row_at k hlt
      cases hv
      have hrl : (bids.getD k []).length = M := HOL.out k hlt
      have hpl := HPL.out k hlt
      obtain ⟨b2, o2, c2, rfl, hMc, hMx, hb2s, hc2⟩ := hsu.int_at (pick K bids k) (by rw [hrl]; exact hpl)
      rw [hrl] at hc1 hMc
      obtain ⟨b3, o3, c3, hv, _, _, hb3s, hc3⟩ := HA.out.int_at k (by rw [HBL.out]; exact hlt)
      rw [HBL.out] at hv
      cases hv
      rw [HBG.out k hlt] at hc3
      have HFK := Lib.hid (HFT.out k hlt)
      obtain ⟨x, hx⟩ : ∃ x, (bids.getD k []).getD (pick K bids k) 0 = x := ⟨_, rfl⟩
      rw [hx] at hc2 HFK
      obtain ⟨q, hqq⟩ : ∃ q, pick K bids k = q := ⟨_, rfl⟩
      rw [hqq] at hpl hc2 hc3
      have HB1S := Lib.hid hb1s
      have HB2S := Lib.hid hb2s
      have HB3S := Lib.hid hb3s
      have HC1 := Lib.hid hc1
      have HC2 := Lib.hid hc2
      have HC3 := Lib.hid hc3
      have hls : (ints (F.take k)).length ≤ 64 := by rw [ints_length, List.length_take]; omega
      clear hrl hsu hx hqq hb1s hb2s hb3s hc1 hc2 hc3
      go_wp2
      refine wp_region_things (by kernel_rfl) 147 rfl (by kernel_rfl) [.fix u11, .fix (.slice (some ⟨b1, o1, none⟩) bids.length xc), .fix (.int .i64 k), .fix (.pointer (some ⟨b1, o1 + k, none⟩)), .fix (.slice (some ⟨b2, o2, none⟩) M c2), .fix (.slice (some ⟨b3, o3, none⟩) bids.length ac), .fix (.int .i64 k), .fix (.pointer (some ⟨b3, o3 + k, none⟩)), .fix (.int .i64 q), .fix (.pointer (some ⟨b2, o2 + q, none⟩)), .fix (.int .i64 x), .box 5 2 (.int .i64 x), .app 1 11 2 u11 (ints (F.take k)) (.int .i64 x), .same 12] (by rfl) ?hA w2.heap.size w2 HBR.out (Nat.le_refl _) (setT (fun _ => Option.none) 1 ⟨2, u11, ints (F.take k)⟩) (Things.one HQ.out 1) ?hM ?hop ?hQ
      case hA =>
        intro i n jb T v xs u h
        rcases i with _ | _ | _ | _ | _ | _ | _ | _ | _ | _ | _ | _ | _ | _ | i
        all_goals (first | (cases h; exact ⟨_, rfl⟩) | cases h)
      case hM =>
        intro i n jb T v xs u h
        rcases i with _ | _ | _ | _ | _ | _ | _ | _ | _ | _ | _ | _ | _ | _ | i
        all_goals (first | (cases h; first | exact rfl) | cases h)
      case hop =>
        intro i o kd hi hkd v w1' hb hV
        have d1 : w1'.cell? ⟨b1, o1 + k, none⟩ = some (.slice (some ⟨b2, o2, none⟩) M c2) := (hb.cell (p := ⟨b1, o1 + k, none⟩) HB1S.out).trans HC1.out
        have d2 : w1'.cell? ⟨b2, o2 + q, none⟩ = some (.int .i64 x) := (hb.cell (p := ⟨b2, o2 + q, none⟩) HB2S.out).trans HC2.out
        have d3 : w1'.cell? ⟨b3, o3 + k, none⟩ = some (.int .i64 q) := (hb.cell (p := ⟨b3, o3 + k, none⟩) HB3S.out).trans HC3.out
        have hsz : w2.heap.size ≤ w1'.heap.size := hb.size
        clear hb
        have hi' : i < 14 := (List.getElem?_eq_some_iff.1 hi).1
        rcases (by omega : i = 0 ∨ i = 1 ∨ i = 2 ∨ i = 3 ∨ i = 4 ∨ i = 5 ∨ i = 6 ∨ i = 7 ∨ i = 8 ∨ i = 9 ∨ i = 10 ∨ i = 11 ∨ i = 12 ∨ i = 13) with rfl | rfl | rfl | rfl | rfl | rfl | rfl | rfl | rfl | rfl | rfl | rfl | rfl | rfl
        · cases hi
          cases hkd
          clear hi'
          refine .inl ⟨rfl, ?_⟩
          clear hV
          simp only [List.take_succ_cons, List.take_zero, putAll, Ob]
          generalize hR : FixR _ _ = R
          go_simp
          subst hR
          exact ⟨rfl, Below.refl _ _⟩
        · cases hi
          cases hkd
          clear hi'
          refine .inl ⟨rfl, ?_⟩
          clear hV
          simp only [List.take_succ_cons, List.take_zero, putAll, Ob]
          generalize hR : FixR _ _ = R
          go_simp
          subst hR
          exact ⟨rfl, Below.refl _ _⟩
        · cases hi
          cases hkd
          clear hi'
          refine .inl ⟨rfl, ?_⟩
          clear hV
          simp only [List.take_succ_cons, List.take_zero, putAll, Ob]
          generalize hR : FixR _ _ = R
          go_simp
          subst hR
          exact ⟨rfl, Below.refl _ _⟩
        · cases hi
          cases hkd
          clear hi'
          refine .inl ⟨rfl, ?_⟩
          have q1 : v 1 = _ := hV 1 (by decide)
          have q2 : v 2 = _ := hV 2 (by decide)
          clear hV
          simp only [List.take_succ_cons, List.take_zero, putAll, Ob]
          generalize hR : FixR _ _ = R
          go_simp
          subst hR
          exact ⟨rfl, Below.refl _ _⟩
        · cases hi
          cases hkd
          clear hi'
          refine .inl ⟨rfl, ?_⟩
          have q3 : v 3 = _ := hV 3 (by decide)
          clear hV
          simp only [List.take_succ_cons, List.take_zero, putAll, Ob]
          generalize hR : FixR _ _ = R
          go_simp
          subst hR
          exact ⟨rfl, Below.refl _ _⟩
        · cases hi
          cases hkd
          clear hi'
          refine .inl ⟨rfl, ?_⟩
          clear hV
          simp only [List.take_succ_cons, List.take_zero, putAll, Ob]
          generalize hR : FixR _ _ = R
          go_simp
          subst hR
          exact ⟨rfl, Below.refl _ _⟩
        · cases hi
          cases hkd
          clear hi'
          refine .inl ⟨rfl, ?_⟩
          clear hV
          simp only [List.take_succ_cons, List.take_zero, putAll, Ob]
          generalize hR : FixR _ _ = R
          go_simp
          subst hR
          exact ⟨rfl, Below.refl _ _⟩
        · cases hi
          cases hkd
          clear hi'
          refine .inl ⟨rfl, ?_⟩
          have q5 : v 5 = _ := hV 5 (by decide)
          have q6 : v 6 = _ := hV 6 (by decide)
          clear hV
          simp only [List.take_succ_cons, List.take_zero, putAll, Ob]
          generalize hR : FixR _ _ = R
          go_simp
          subst hR
          exact ⟨rfl, Below.refl _ _⟩
        · cases hi
          cases hkd
          clear hi'
          refine .inl ⟨rfl, ?_⟩
          have q7 : v 7 = _ := hV 7 (by decide)
          clear hV
          simp only [List.take_succ_cons, List.take_zero, putAll, Ob]
          generalize hR : FixR _ _ = R
          go_simp
          subst hR
          exact ⟨rfl, Below.refl _ _⟩
        · cases hi
          cases hkd
          clear hi'
          refine .inl ⟨rfl, ?_⟩
          have q4 : v 4 = _ := hV 4 (by decide)
          have q8 : v 8 = _ := hV 8 (by decide)
          clear hV
          simp only [List.take_succ_cons, List.take_zero, putAll, Ob]
          generalize hR : FixR _ _ = R
          go_simp
          subst hR
          exact ⟨rfl, Below.refl _ _⟩
        · cases hi
          cases hkd
          clear hi'
          refine .inl ⟨rfl, ?_⟩
          have q9 : v 9 = _ := hV 9 (by decide)
          clear hV
          simp only [List.take_succ_cons, List.take_zero, putAll, Ob]
          generalize hR : FixR _ _ = R
          go_simp
          subst hR
          exact ⟨rfl, Below.refl _ _⟩
        · cases hi
          cases hkd
          clear hi'
          refine .inl ⟨rfl, ?_⟩
          have q10 : v 10 = _ := hV 10 (by decide)
          clear hV
          simp only [List.take_succ_cons, List.take_zero, putAll, Ob]
          generalize hR : BoxR _ _ _ = R
          go_simp
          subst hR
          exact ⟨rfl, rfl⟩
        · cases hi
          cases hkd
          clear hi'
          refine .inl ⟨rfl, ?_⟩
          have q0 : v 0 = _ := hV 0 (by decide)
          clear hV
          intro g hg hrow hown
          simp only [List.take_succ_cons, List.take_zero, putAll]
          refine run_append_box (.tmp 52) (.tmp 63) 31 rfl 2 (.int .i64 0) 8 Tryd.underlying31 Tryd.info2 rfl (by omega) w2.heap.size u11 (ints (F.take k)) ?hs hown g (.int .i64 x) ?hx hrow rfl ?hlen hsz (fun v' w' h1 h2 h3 => ⟨h1, h2, h3⟩)
          case hs => go_simp
          case hx => go_simp
          case hlen => omega
        · cases hi
          cases hkd
          clear hi'
          refine .inl ⟨rfl, ?_⟩
          clear hV
          simp only [List.take_succ_cons, List.take_zero, putAll, Ob]
          generalize hR : FixR _ _ = R
          go_simp
          subst hR
          exact ⟨rfl, Below.refl _ _⟩
      case hQ =>
        intro v w1' M' hb hth hG hO
        have e12 := (hG 12 _ rfl).2 trivial
        have e13 : v 13 = v 12 := hG 13 _ rfl trivial
        have ho : Own 2 w2.heap.size w1' (v 12) (ints (F.take k) ++ [.int .i64 x]) := hth.own e12
        rw [← HFK.out] at ho
        have HQN := Lib.hid ho
        have HBN := Lib.hid hb
        simp only [putAll, e13]
        clear e12 e13 hth hb hG hO ho
        go_wp2
        go_roundw
        case rel => exact ⟨k + 1, by omega, by go_num, HQN.out, HBN.out⟩
        case measure => simp [intOf]; omega
    · obtain rfl : k = bids.length := by omega
      have hq1 := HQ.out
      rw [List.take_of_length_le (by rw [HFL.out]; exact Nat.le_refl _)] at hq1
      have HQS := Lib.hid hq1.sl
      have HBN := Lib.hid (HB2.out.trans (HBR.out.mono HB2.out.size))
      have HXR := Lib.hid (HX2.out.below HBR.out)
      obtain ⟨qp, qc, rfl, hqc, hqm⟩ := hq1.sl.form
      have HC := Lib.hid (C _ _ K bids F wr HXR.out HQS.out hK1 (by omega) hn1 (by omega) HO.out (fun i => by have := HFB.out i; omega) (by rw [HFL.out]; omega))
      rw [HCORE.out.1, HCORE.out.2] at HC
      clear hq1 HQ HQS
      go_wp2_with fail
      refine HC.out.mono ?_
      rintro e w3 ⟨rfl, hb3⟩
      have HX3 := Lib.hid (HXR.out.below hb3)
      have HB3 := Lib.hid (HBN.out.trans (hb3.mono HBN.out.size))
      have HSAME : Hid (ownP bids = bids) := ownP_same (by omega) (by omega : M ≤ 65) (fun b hb => by rw [← HMM.out]; exact offerB_len (HO.out b hb))
      clear hb3 HC HXR HBN HCORE HFB HFT HX2 HB2 HBR
      go_wp2_with fail
      refine (own_apart _ bids w3 HX3.out.toA).mono ?_
      rintro e w4 ⟨mv, rfl, hmo, hb4⟩
      rw [HSAME.out] at hmo
      obtain ⟨mp, mc, hmv, _, _⟩ := hmo.mat.form_
      subst hmv
      have HMO := Lib.hid hmo
      have HB4 := Lib.hid hb4
      clear hmo hb4
      go_wp2_with fail
      refine (mkOffer_any _ K of w4 (HOF.out.below (HB3.out.trans (HB4.out.mono HB3.out.size))) (by omega) hK1 HIO.out).mono ?_
      rintro e w5 ⟨lv, L, rfl, hoL, hL39, hb5⟩
      obtain ⟨lp, lc, rfl, _, _⟩ := hoL.sl.form
      obtain ⟨vs, hvl, hvo, hvr, _⟩ := HMO.out.below hb5 (Nat.le_refl _)
      have HRO := Lib.hid (hoL.base HB4.out.size)
      have HL39 := Lib.hid hL39
      have HVL := Lib.hid hvl
      have HVO := Lib.hid hvo
      have HVR := Lib.hid hvr
      have HB5 := Lib.hid (HB4.out.trans (hb5.mono HB4.out.size))
      have hv7 : vs.length ≤ 7 := by rw [hvl]; omega
      clear hoL hL39 hb5 hvl hvo hvr HMO HB4
      obtain ⟨nL, hnL⟩ : ∃ nL, L.length = nL := ⟨_, rfl⟩
      have HNL := Lib.hid hnL
      rw [hnL] at HRO ⊢
      clear hnL
      go_wp2_with (first | (at_builtin; refine wpList_append_box w5 rfl (.tmp 73) (.tmp 77) 22 rfl 31 (.slice none 0 0) 24 Tryd.underlying22 Tryd.info31 rfl (by omega) w3.heap.size (.slice mp bids.length mc) vs rfl HVO.out (.slice lp nL lc) rfl rfl ?a3 ?a4 ?_))
      case a3 => omega
      case a4 => exact HB5.out.size
      intro v' w6 hown hbel hkeep
      have HM6 := Lib.hid ((OwnM.snoc (by decide) HVL.out HVR.out HRO.out hown hkeep).mat)
      have HB6 := Lib.hid (HB5.out.trans hbel)
      obtain ⟨m6p, m6c, hm6, _, _⟩ := HM6.out.form_
      subst hm6
      clear hown hbel hkeep HVL HVO HVR HRO HB5 hv7
      have HO6 : Hid (Offers K (bids ++ [L])) := fun b hb => by
        rcases List.mem_append.1 hb with h | h
        · exact HO.out b h
        · rw [List.mem_singleton.1 h]; exact HL39.out.1
      have hlen6 : (bids ++ [L]).length = bids.length + 1 := by simp
      have HC6 := Lib.hid (best_at _ K (bids ++ [L]) w6 HM6.out hK1 (by omega) (by omega) (by omega) HO6.out)
      have hw2 := worthP_more (by omega : K ≤ 6) HO.out HL39.out.1
      obtain ⟨W2, hW2⟩ : ∃ W2, worthP K (bids ++ [L]) (2 ^ (bids ++ [L]).length - 1) = W2 := ⟨_, rfl⟩
      rw [hW2] at HC6 hw2
      rw [HW1.out] at hw2
      obtain ⟨n6, hn6⟩ : ∃ n6, (bids ++ [L]).length = n6 := ⟨_, rfl⟩
      rw [hn6] at HC6 ⊢
      have HW2 := Lib.hid hw2
      clear hW2 hn6 hlen6 hw2
      go_wp2_with fail
      refine HC6.out.mono ?_
      rintro e w7 ⟨a7, rfl, _, hb7⟩
      have HB7 := Lib.hid (HB6.out.trans (hb7.mono HB6.out.size))
      have HX7 := Lib.hid (HX3.out.below HB7.out)
      clear hb7 HC6 HM6 HO6
      go_wp2_with fail
      refine (own_apart _ bids w7 HX7.out.toA).mono ?_
      rintro e w8 ⟨hv, rfl, hho, hb8⟩
      rw [HSAME.out] at hho
      obtain ⟨vs, hvl, hvo, hvr, hvd⟩ := hho
      have HB8z : Hid (w3.heap.size ≤ w7.heap.size) := HB7.out.size
      have HB8 := Lib.hid (HB3.out.trans ((HB7.out.trans (hb8.mono HB7.out.size)).mono HB3.out.size))
      clear hb8
      rcases hvo.form_ with ⟨_, h0⟩ | ⟨gg, cg, mo, hvv, _, hcg, hcgm, hcgq, hrowg⟩
      · subst h0; simp at hvl; omega
      rw [hvl] at hvv hcg
      subst hvv
      obtain ⟨u0, hu0⟩ : ∃ u0, vs[0]? = some u0 := ⟨vs[0]'(by omega), List.getElem?_eq_getElem (by omega)⟩
      have hb0M : (bids.getD 0 []).length = M := HOL.out 0 (by omega)
      rcases (hvr 0 u0 hu0).form_ with ⟨_, h0⟩ | ⟨g, cr, mr, huv, hgb, hcr0, hcrm, hcrq, hrow⟩
      · have : (ints (bids.getD 0 [])).length = 0 := by rw [h0]; rfl
        rw [ints_length] at this; omega
      rw [ints_length, hb0M] at huv hcr0
      subst huv
      clear hcgq hcrq
      have hgne : gg ≠ g := fun e => by subst e; exact (Row.ne_ hrowg hrow (by decide)) rfl
      have HD39 : Hid (Offer39 K (bids.getD 0 [])) := H39.out _ (by
        rw [List.getD_eq_getElem?_getD, List.getElem?_eq_getElem (by omega : 0 < bids.length)]
        exact List.getElem_mem _)
      have HHIGH := Lib.hid (worthP_high (m := K) hn1 (raise_ge (bids.getD 0 []) (bids.getD 0 []).length) (2 ^ bids.length - 1))
      have HOH := Lib.hid (offers_high H39.out hn1)
      obtain ⟨b0, hb0⟩ : ∃ b0, bids.getD 0 [] = b0 := ⟨_, rfl⟩
      rw [hb0] at HD39 HHIGH HOH hrow hb0M
      rw [hb0M] at HHIGH HOH
      have HB0 := Lib.hid hb0
      have HB0M := Lib.hid hb0M
      have HROWG := Lib.hid hrowg
      have HROW := Lib.hid hrow
      have HVL := Lib.hid hvl
      have HVR := Lib.hid hvr
      have HVD := Lib.hid hvd
      have HVO := Lib.hid hvo
      have HU0 := Lib.hid hu0
      have hgs : w7.heap.size ≤ g := hgb
      clear hvl hvo hvr hvd hrowg hrow hu0 hb0 hb0M hgb HX3 HX7 HB7 HB6
      go_wp2
      go_loopw [20] (fun i wr => ∃ s : Nat, 1 ≤ s ∧ s ≤ M ∧ i = .int .i64 s ∧ Row 2 wr g (ints (raise b0 s) ++ mr) ∧ Touch g w8 wr) (fun i _ => M - (intOf i).toNat)
      case atStart => exact ⟨1, Nat.le_refl _, by omega, rfl, by rw [raise_one]; exact HROW.out, Touch.refl_ g w8⟩
      case round =>
        obtain ⟨s, hs1, hsM, rfl, hrow, htch⟩ := hrel
        have hcell : wr.cell? ⟨gg, 0, none⟩ = some (.slice (some ⟨g, 0, none⟩) M cr) := by
          have := ((HROWG.out.touch htch hgne).cell 0)
          rw [List.getElem?_append_left (by rw [HVL.out]; omega)] at this
          exact this.trans HU0.out
        have HTC := Lib.hid htch
        have HRW := Lib.hid hrow
        clear htch
        by_cases hlt : s < M
        · have hsl : s < (ints (raise b0 s)).length := by rw [ints_length, raise_len, HB0M.out]; exact hlt
          have hcs := hrow.cell s
          rw [List.getElem?_append_left hsl, ints_get _ _ (by rw [raise_len, HB0M.out]; exact hlt), raise_at _ _ (by rw [HB0M.out]; exact hlt)] at hcs
          have hfs := hrow.free s
          have hbd := HD39.out.2 s
          have HSET := Lib.hid (raise_set b0 s hs1 (by rw [HB0M.out]; exact hlt))
          obtain ⟨y, hy⟩ : ∃ y, b0.getD s 0 = y := ⟨_, rfl⟩
          rw [hy] at hcs hbd HSET
          have hwr : IntKind.i64.wrap (y + 3) = y + 3 := IntWalk.i64_in _ (by omega)
          have HST : Hid (Row 2 (wr.setCell ⟨g, s, none⟩ (.int .i64 (y + 3))).drew g (ints (raise b0 (s + 1)) ++ mr)) := by
            have := hrow.store s (.int .i64 (y + 3))
            rw [List.set_append_left _ _ hsl, ints_set, HSET.out] at this
            exact this.drew
          have HTN : Hid (Touch g w8 (wr.setCell ⟨g, s, none⟩ (.int .i64 (y + 3))).drew) := (HTC.out.trans (Touch.cell wr g s _)).drew_
          have hn0 : 0 < bids.length := hn1
          have hsi : (s : Int) < (M : Int) := by omega
          have hs0 : (0 : Int) ≤ (s : Int) := by omega
          clear hy hrow
          go_wp2
          go_still_tail 12, (by kernel_rfl)
          change wpList _ _ _ _ _ wr.drew
          go_wp2
          go_roundw
          case rel => exact ⟨s + 1, by omega, by omega, by go_num, HST.out, HTN.out⟩
          case measure => simp [intOf]; omega
        · obtain rfl : s = M := by omega
          clear hrow
          have HMAT : Hid (Mat wr (.slice (some ⟨gg, 0, none⟩) bids.length cg) (bids.set 0 (raise b0 s))) := by
            have ho := HVO.out.touch HTC.out (fun e => hgne (by simpa [Value.ownBlock] using e))
            refine ⟨vs, by simp [HVL.out], ho.sl, fun i u hu => ?_⟩
            rw [set0_getD _ _ _ _ hn1]
            by_cases hi0 : i = 0
            · subst hi0
              rw [HU0.out] at hu
              cases hu
              rw [if_pos rfl]
              have h2 := Sl.of_row (xs := ints (raise b0 s)) (more := mr) (cap := cr) HRW.out (by rw [ints_length, raise_len, HB0M.out]; exact hcr0) hcrm
              rw [ints_length, raise_len, HB0M.out] at h2; exact h2
            · rw [if_neg hi0]
              have h1 := HVR.out i u hu
              have h3 := HVD.out i 0 u _ hi0 hu HU0.out
              exact (h1.touch HTC.out (fun e => h3 g e rfl)).sl
          have hlen9 : (bids.set 0 (raise b0 s)).length = bids.length := by simp
          have HC9 := Lib.hid (best_at _ K (bids.set 0 (raise b0 s)) wr HMAT.out hK1 (by omega) (by omega) (by omega) HOH.out)
          rw [hlen9] at HC9
          have hw3 := HHIGH.out
          have hwb := worthP_bd HO.out (2 ^ bids.length - 1)
          rw [HW1.out] at hw3 hwb
          obtain ⟨W3, hW3⟩ : ∃ W3, worthP K (bids.set 0 (raise b0 s)) (2 ^ bids.length - 1) = W3 := ⟨_, rfl⟩
          rw [hW3] at HC9 hw3
          have HBT : Hid (Below w.heap.size w wr) := by
            have hz : w.heap.size ≤ g := Nat.le_trans HB3.out.size (Nat.le_trans (by have := HB8z.out; omega) hgs)
            exact below_touch HB8.out HTC.out hz
          have h1 := hw3.1
          have h2 := hw3.2
          have h3 := HW2.out
          clear hlen9 hW3 hw3 HMAT HOH HHIGH HTC HRW
          go_wp2_with fail
          refine HC9.out.mono ?_
          rintro e w9 ⟨a9, rfl, _, hb9⟩
          have HB9 := Lib.hid (HBT.out.trans (hb9.mono HBT.out.size))
          clear hb9 HC9
          have hwr : IntKind.i64.wrap (W1 + 3) = W1 + 3 := IntWalk.i64_in _ (by omega)
          go_wp2_with (go_at_call 16; refine (awake_any S _).mono ?_; rintro e w10 ⟨rfl, hb10⟩; have HB10 := Lib.hid (HB9.out.trans (hb10.mono HB9.out.size)); clear hb10)
          go_ret
          exact ⟨rfl, HB10.out⟩
end Go.Proofs.YthbfgmgpploneaaDoor
