/- A region that draws, and a tail of operations each of which waits for all before it. -/
import Derived.Test.YtmhmkhdgpfhnfaaGreatDoorRQ
set_option linter.unnecessarySimpa false
set_option linter.unusedVariables false
set_option linter.unusedSimpArgs false
namespace Go.Proofs.YtmhmkhdgpfhnfaaGreatDoor.Ref
open Go.RowKit

def tailsB (L : List Oper) (m : Nat) : Bool :=
  decide (m < L.length) && (List.range L.length).all fun i => decide (i < m) || match L[i]? with
    | some o => (List.range i).all (fun j => (predsR o).contains j || (i == m && (predsR o).any fun k => match L[k]? with | some p => (predsR p).contains j | none => false)) && (predsR o).all (fun j => decide (j < i))
    | none => false
theorem tailsB_spec {L : List Oper} {m : Nat} (h : tailsB L m = true) : m < L.length ∧ ∀ (i : Nat) (o : Oper), m ≤ i → L[i]? = some o → (∀ j, j < i → j ∈ predsR o ∨ (i = m ∧ ∃ k p, k ∈ predsR o ∧ L[k]? = some p ∧ j ∈ predsR p)) ∧ (∀ j ∈ predsR o, j < i) := by
  unfold tailsB at h
  simp only [Bool.and_eq_true, decide_eq_true_eq] at h
  refine ⟨h.1, fun i o hi ho => ?_⟩
  have h2 := h.2
  rw [List.all_eq_true] at h2
  have h3 := h2 i (List.mem_range.2 (List.getElem?_eq_some_iff.1 ho).1)
  rw [ho] at h3
  simp only [Bool.or_eq_true, decide_eq_true_eq, Bool.and_eq_true] at h3
  rcases h3 with h3 | ⟨h3, h4⟩
  · omega
  · rw [List.all_eq_true] at h3 h4
    refine ⟨fun j hj => ?_, fun j hj => by simpa using h4 j hj⟩
    have h5 := h3 j (List.mem_range.2 hj)
    simp only [Bool.or_eq_true, Bool.and_eq_true, beq_iff_eq, List.contains_iff_mem] at h5
    rcases h5 with h5 | ⟨h5, h6⟩
    · exact .inl h5
    · obtain ⟨k, hk, h7⟩ := List.any_eq_true.1 h6
      refine .inr ⟨h5, k, ?_⟩
      split at h7
      · rename_i p hp
        exact ⟨p, hk, hp, by simpa [List.contains_iff_mem] using h7⟩
      · cases h7
/-- where the region stands: in the part that draws, or behind it -/
def TlI (P : Program) (L : List Oper) (W : World) (l : List Oper) (n : Nat) (ks : List Kd) (a : Act) (m : Nat) (Q : Exit → Act → World → Prop) (listed : Array Bool) (a' : Act) (w' : World) : Prop :=
  ((∀ j, m ≤ j → ¬ At listed j) ∧ (∀ (k : Nat) (o : Oper), L[k]? = some o → At listed k → ∀ p ∈ predsR o, At listed p) ∧ ∃ vs, RInv W l n ks a listed a' w' vs) ∨
  (∃ t, m < t ∧ t ≤ L.length ∧ (∀ j, j < t → At listed j) ∧ (∀ j, t ≤ j → ¬ At listed j) ∧ wpList P L.toArray Q (L.drop t) a' w')
theorem tl_step {P : Program} {L : List Oper} {W : World} {l : List Oper} {n : Nat} {ks : List Kd} {a : Act} {m : Nat} {Q : Exit → Act → World → Prop} {listed : Array Bool} {a' : Act} {w1 : World} {t : Nat} {o : Oper}
    (hmt : m ≤ t) (ht : L[t]? = some o) (hsz : listed.size = L.length) (hd : ∀ j, j < t → At listed j) (hn : ∀ j, t ≤ j → ¬ At listed j) (hq : wpList P L.toArray Q (L.drop t) a' w1) :
    wpOp P L.toArray Q t (TlI P L W l n ks a m Q (listed.setIfInBounds t true)) a' w1 := by
  have hlt : t < L.length := (List.getElem?_eq_some_iff.1 ht).1
  have hdrop : L.drop t = o :: L.drop (t + 1) := by
    rw [List.drop_eq_getElem_cons hlt, (List.getElem?_eq_some_iff.1 ht).2]
  have hia : L.toArray[t]? = some o := by simpa using ht
  have hat : At (listed.setIfInBounds t true) t := at_here (by omega)
  have hnext : ∀ a w, wpList P L.toArray Q (L.drop (t + 1)) a w → TlI P L W l n ks a' m Q (listed.setIfInBounds t true) a w → True := fun _ _ _ _ => trivial
  have key : ∀ a2 w2, wpList P L.toArray Q (L.drop (t + 1)) a2 w2 → TlI P L W l n ks a m Q (listed.setIfInBounds t true) a2 w2 := fun a2 w2 h =>
    .inr ⟨t + 1, by omega, by omega, fun j hj => by
      rcases Nat.lt_or_ge j t with h1 | h1
      · exact at_mono (hd j h1)
      · obtain rfl : j = t := by omega
        exact hat, fun j hj h2 => (at_set h2).elim (fun e => by omega) (hn j (by omega)), h⟩
  rw [hdrop] at hq
  unfold wpOp
  simp only [hia]
  unfold wpList at hq
  split
  · rename_i hw
    rw [if_pos hw] at hq
    exact hq.imp (Oper.wp_mono (fun a w hq => key a w hq)) (fun h => h)
  · rename_i hw
    rw [if_neg hw] at hq
    exact key _ _ hq
theorem wp_region_rel_tails {P : Program} {id : Nat} {L : List Oper} {Q : Exit → Act → World → Prop} {a : Act} {w : World} (hm : P.follows .mixedOrders = true) (m n : Nat) (hn : a.tmps.size = n) (hB : relB (L.take m) n = true) (hT : tailsB L m = true)
    (ks : List Kd) (hK : kdB (L.take m) ks = true) (hs : Stays ks)
    (hop : ∀ W, W = w.drew → ∀ i o, (L.take m)[i]? = some o → ∀ vs w1, Below W.heap.size W w1 → (∀ j ∈ predsR o, Vk W ks j vs w1) →
      (wantK ks o = some true ∧ relUpon P (Res ks i vs w1) ((execOp (putAll vs (L.take m) 0 a).eval o).run P w1)) ∨ (wantK ks o = some false ∧ ks[i]? = some (.fix undef)))
    (hQ : ∀ W, W = w.drew → ∀ vs w1, Below W.heap.size W w1 → (∀ i, i < m → Vk W ks i vs w1) → Dist ks vs (fun j => j < m) → wpList P L.toArray Q (L.drop m) (putAll vs (L.take m) 0 a) w1) :
    (Code.region id L.toArray true).wp P Q a w := by
  obtain ⟨hmL, hT⟩ := tailsB_spec hT
  obtain ⟨l, hl⟩ : ∃ l, L.take m = l := ⟨_, rfl⟩
  rw [hl] at hB hK hop hQ
  have hll : l.length = m := by rw [← hl]; simp; omega
  have hlL : ∀ (i : Nat) (o : Oper), l[i]? = some o → L[i]? = some o := by
    intro i o hi
    have hi' : i < m := by have := (List.getElem?_eq_some_iff.1 hi).1; omega
    rw [← hl, List.getElem?_take_of_lt hi'] at hi
    exact hi
  have hops : ∀ (j : Nat) (o : Oper), l[j]? = some o → L.toArray[j]? = some o := fun j o hj => by simpa using hlL j o hj
  refine wp_region_inv hm (TlI P L w.drew l n ks a m Q) ?_ ?_ ?_
  · have hno : ∀ i, ¬ At (Array.replicate L.toArray.size false) i := fun i h => by
      unfold At at h
      rw [Array.getElem?_replicate] at h
      split at h <;> simp at h
    exact .inl ⟨fun j _ => hno j, fun k o hk h => (hno _ h).elim, fun _ => undef, rfl, hn, fun j o d _ _ h => (hno _ h).elim, fun t _ => rfl, Below.refl _ _, fun j _ h => (hno _ h).elim, fun p q _ _ _ _ _ _ _ h _ => (hno _ h.2).elim, fun j o _ h => (hno _ h).elim⟩
  · intro listed a' w1 hsz hI i hmem
    obtain ⟨h1, h2, h3⟩ := ready_spec hmem
    have hiL : i < L.length := by simpa using h1
    have hio : L[i]? = some L[i] := List.getElem?_eq_getElem hiL
    obtain ⟨o, ho⟩ : ∃ o, L[i] = o := ⟨_, rfl⟩
    rw [ho] at hio
    have hia : L.toArray[i]? = some o := by simpa using hio
    have hsz' : listed.size = L.length := by simpa using hsz
    have hp : ∀ p ∈ predsR o, At listed p := by
      intro p hpp
      unfold predsR at hpp
      rw [List.mem_filterMap] at hpp
      obtain ⟨e, he, hb⟩ := hpp
      have h4 := h3 o hia
      rw [Array.all_eq_true_iff_forall_mem] at h4
      have := h4 e (by simpa using he)
      split at hb
      · rename_i hbb
        cases hb
        rw [hbb] at this
        simp only [Bool.not_true, Bool.false_or] at this
        unfold At
        rw [Array.getD_eq_getD_getElem?] at this
        exact this
      · cases hb
    have hna := not_at h2
    rcases hI with ⟨hnm, hcl, vs, h⟩ | ⟨t, ht1, ht2, ht3, ht4, hq⟩
    · by_cases him : m ≤ i
      · have hpi := (hT i o him hio).1
        have heq : i = m := by
          rcases Nat.lt_or_ge m i with h5 | h5
          · rcases hpi m h5 with h6 | ⟨h6, _⟩
            · exact absurd (hp m h6) (hnm m (Nat.le_refl m))
            · omega
          · omega
        subst heq
        have hat : ∀ j, j < l.length → At listed j := fun j hj => by
          rcases hpi j (by omega) with h6 | ⟨_, k, p, h6, h7, h8⟩
          · exact hp j h6
          · exact hcl k p h7 (hp k h6) j h8
        have hfr := putAll_all hB hn h hat
        have hq := hQ w.drew rfl vs w1 h.bel (fun i hi => h.val i (by omega) (hat i (by omega))) (fun p q T m T' m' hpq h1 h2 h3 h4 => h.dist p q T m T' m' hpq h1 h2 ⟨by omega, hat p (by omega)⟩ ⟨by omega, hat q (by omega)⟩)
        rw [← hfr] at hq
        exact tl_step (Nat.le_refl _) hio hsz' (fun j hj => hat j (by omega)) hnm hq
      · have hil : i < l.length := by omega
        have hi : l[i]? = some o := by rw [← hl, List.getElem?_take_of_lt (by omega)]; exact hio
        have OF := relB_spec hB hi
        have next : ∀ u w2, Res ks i vs w1 u w2 → TlI P L w.drew l n ks a m Q (listed.setIfInBounds i true) (a'.put o.dst u) w2 :=
          fun u w2 hr => .inl ⟨fun j hj h => (at_set h).elim (fun e => by omega) (hnm j hj), fun k o' hk hat p hpp => (at_set hat).elim (fun e => by subst e; rw [hio] at hk; cases hk; exact at_mono (hp p hpp)) (fun e => at_mono (hcl k o' hk e p hpp)), _, h.next hB hK hs (by omega) hi hna hp hr⟩
        have hv : ∀ j ∈ predsR o, Vk w.drew ks j vs w1 := fun j hj => h.val j (Nat.lt_trans (OF.pred j hj) hil) (hp j hj)
        unfold wpOp
        simp only [hia]
        rcases hop w.drew rfl i o hi vs w1 h.bel hv with ⟨hw, hr⟩ | ⟨hw, hu⟩
        · rw [if_pos (yielded_kd hB h hops hi hp hw)]
          refine .inl ?_
          unfold Oper.wp
          rw [execOp_congr o OF.sel (putAll_agrees hB hn h hi hp)]
          generalize (execOp (putAll vs l 0 a).eval o).run P w1 = r at hr ⊢
          unfold relUpon at hr
          split at hr
          · exact next _ _ hr
          · exact next _ _ hr
          · simp only [Oper.upon_enter]
            refine Calls.mono hr ?_
            rintro e w2 ⟨u, rfl, hr⟩
            exact next _ _ hr
          · exact hr.elim
        · rw [if_neg (by rw [yielded_kd hB h hops hi hp hw]; simp)]
          refine next _ _ ?_
          unfold Res
          rw [hu]
          exact ⟨rfl, Below.refl _ _⟩
    · have heq : i = t := by
        rcases Nat.lt_or_ge i t with h5 | h5
        · exact absurd (ht3 i h5) hna
        · rcases Nat.lt_or_ge t i with h6 | h6
          · rcases (hT i o (by omega) hio).1 t h6 with h7 | ⟨h7, _⟩
            · exact absurd (hp t h7) (ht4 t (Nat.le_refl t))
            · omega
          · omega
      subst heq
      exact tl_step (by omega) hio hsz' ht3 ht4 hq
  · intro listed a' w1 hsz hI hr
    have hsz' : listed.size = L.toArray.size := hsz
    have hready : ∀ (i : Nat) (o : Oper), L[i]? = some o → (∀ j ∈ predsR o, At listed j) → At listed i := by
      intro i o hio hpp
      refine ready_nil hsz' hr i o (by simpa using hio) ?_
      rw [Array.all_eq_true_iff_forall_mem]
      intro e he
      cases hb : Region.binds .any e with
      | false => rfl
      | true =>
        have hpe : e.on ∈ predsR o := by
          unfold predsR
          rw [List.mem_filterMap]
          exact ⟨e, by simpa using he, by simp [hb]⟩
        have := hpp _ hpe
        unfold At at this
        rw [Array.getD_eq_getD_getElem?]
        simpa using this
    have hall : ∀ k i, i < k → i < L.length → At listed i := by
      intro k
      induction k with
      | zero => intro i hi; omega
      | succ k ih =>
        intro i hi hiL
        have hio : L[i]? = some L[i] := List.getElem?_eq_getElem hiL
        refine hready i _ hio (fun j hj => ?_)
        have hlt : j < i := by
          rcases Nat.lt_or_ge i m with h5 | h5
          · have hil : l[i]? = some L[i] := by rw [← hl, List.getElem?_take_of_lt h5]; exact hio
            exact (relB_spec hB hil).pred j hj
          · exact (hT i _ h5 hio).2 j hj
        exact ih j (by omega) (by omega)
    rcases hI with ⟨hnm, _, vs, h⟩ | ⟨t, ht1, ht2, ht3, ht4, hq⟩
    · exact absurd (hall (m + 1) m (by omega) hmL) (hnm m (Nat.le_refl m))
    · have heq : t = L.length := by
        rcases Nat.lt_or_ge t L.length with h5 | h5
        · exact absurd (hall (t + 1) t (by omega) h5) (ht4 t (Nat.le_refl t))
        · omega
      subst heq
      rw [List.drop_length] at hq
      exact hq
end Go.Proofs.YtmhmkhdgpfhnfaaGreatDoor.Ref
