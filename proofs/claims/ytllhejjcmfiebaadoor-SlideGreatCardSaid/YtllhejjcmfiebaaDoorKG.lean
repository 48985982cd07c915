/- A region that draws its order, by an invariant, plainly and in the round of a range over a function. -/
import Derived.Test.YtllhejjcmfiebaaDoorN1
import Derived.Test.YtllhejjcmfiebaaDoorQR
import Derived.OrdersIn
set_option linter.unusedVariables false
set_option linter.unusedSimpArgs false
set_option linter.unnecessarySimpa false
namespace Go.Proofs.YtllhejjcmfiebaaDoor
open Go.RowKit
def relC (l : List Oper) (n : Nat) : Bool :=
 (List.range l.length).all fun i => match l[i]? with
  | some o => (predsR o).all (fun j => decide (j < i)) &&
   (match o.dst with
    | some d => decide (d < n) && (List.range l.length).all (fun j => j == i || !dstIsR l d j)
    | none => true) &&
   (opTmpsR o).all (fun t => (List.range l.length).all fun j => !dstIsR l t j || (predsR o).contains j || (match l[j]? with | some p => (predsR p).contains i | none => false)) &&
   (match o.guard with
    | some (g, _) => (predsR o).contains g && (match l[g]? with | some p => p.dst.isSome | none => false)
    | none => true) &&
   (match o.op with | .select .. => false | _ => true)
  | none => true
structure OpC (l : List Oper) (n : Nat) (i : Nat) (o : Oper) : Prop where
 pred : ∀ j ∈ predsR o, j < i
 dst : ∀ d, o.dst = some d → d < n ∧ ∀ j o', j ≠ i → l[j]? = some o' → o'.dst ≠ some d
 tmp : ∀ t ∈ opTmpsR o, ∀ j o', l[j]? = some o' → o'.dst = some t → j ∈ predsR o ∨ i ∈ predsR o'
 guard : ∀ g b, o.guard = some (g, b) → g ∈ predsR o ∧ ∃ p d, l[g]? = some p ∧ p.dst = some d
 sel : ∀ cs b, o.op ≠ .select cs b
theorem relC_spec {l : List Oper} {n : Nat} (h : relC l n = true) {i : Nat} {o : Oper} (ho : l[i]? = some o) : OpC l n i o := by
 unfold relC at h
 rw [List.all_eq_true] at h
 have hi : i < l.length := (List.getElem?_eq_some_iff.1 ho).1
 have h := h i (List.mem_range.2 hi)
 rw [ho] at h
 simp only [Bool.and_eq_true] at h
 obtain ⟨⟨⟨⟨h1, h2⟩, h3⟩, h4⟩, h5⟩ := h
 refine ⟨fun j hj => ?_, fun d hd => ?_, fun t ht j o' hj hd => ?_, fun g b hg => ?_, fun cs b hc => ?_⟩
 ·rw [List.all_eq_true] at h1; simpa using h1 j hj
 ·rw [hd] at h2
  simp only [Bool.and_eq_true, decide_eq_true_eq, List.all_eq_true, List.mem_range, Bool.or_eq_true, beq_iff_eq, Bool.not_eq_true'] at h2
  refine ⟨h2.1, fun j o' hj ho' hd' => ?_⟩
  rcases h2.2 j (List.getElem?_eq_some_iff.1 ho').1 with h | h
  ·exact hj h
  ·rw [dstIsR_iff.2 ⟨o', ho', hd'⟩] at h; cases h
 ·simp only [List.all_eq_true, List.mem_range, Bool.or_eq_true, Bool.not_eq_true', List.contains_iff_mem] at h3
  rcases h3 t ht j (List.getElem?_eq_some_iff.1 hj).1 with (h | h) | h
  ·rw [dstIsR_iff.2 ⟨o', hj, hd⟩] at h; cases h
  ·exact .inl h
  ·rw [hj] at h; exact .inr (by simpa [List.contains_iff_mem] using h)
 ·rw [hg] at h4
  simp only [Bool.and_eq_true, List.contains_iff_mem] at h4
  refine ⟨h4.1, ?_⟩
  have h5 := h4.2
  split at h5
  ·rename_i p hp
   obtain ⟨d, hd⟩ := Option.isSome_iff_exists.1 h5
   exact ⟨p, d, hp, hd⟩
  ·cases h5
 ·rw [hc] at h5; cases h5
structure FInv (l : List Oper) (n : Nat) (a : Act) (listed : Array Bool) (a' : Act) (vs : Nat → Value) : Prop where
 defers : a'.defers = a.defers
 size : a'.tmps.size = n
 here : ∀ j o d, l[j]? = some o → o.dst = some d → At listed j → a'.tmps[d]? = some (vs j)
 other : ∀ t, (∀ j o, l[j]? = some o → o.dst = some t → ¬ At listed j) → a'.tmps[t]? = a.tmps[t]?
 inside : ∀ j, At listed j → j < l.length
 closed : ∀ j o, l[j]? = some o → At listed j → ∀ p ∈ predsR o, At listed p
theorem FInv.next {l : List Oper} {n : Nat} {a : Act} {listed : Array Bool} {a' : Act} {vs : Nat → Value} {i : Nat} {o : Oper} {u : Value}
  (hB : relC l n = true) (hsz : i < listed.size) (h : FInv l n a listed a' vs) (hi : l[i]? = some o) (hn : ¬ At listed i) (hp : ∀ p ∈ predsR o, At listed p) : FInv l n a (listed.setIfInBounds i true) (a'.put o.dst u) (updV vs i u) := by
 have OF := relC_spec hB hi
 refine ⟨by rw [put_defers]; exact h.defers, by rw [put_size]; exact h.size, fun j o' d hj hd hat => ?_, fun t ht => ?_, fun j hat => ?_, fun j o' hj hat p hpp => ?_⟩
 ·by_cases hji : j = i
  ·subst hji
   rw [hi] at hj; cases hj
   rw [hd, put_here (by rw [h.size]; exact (OF.dst d hd).1), updV_here]
  ·have hat' := (at_set hat).resolve_left hji
   rw [put_other (fun e => (OF.dst d e).2 j o' hji hj hd), updV_other hji]
   exact h.here j o' d hj hd hat'
 ·rw [put_other (fun e => ht i o hi e (at_here hsz))]
  exact h.other t fun j o' hj hd hat => ht j o' hj hd (at_mono hat)
 ·rcases at_set hat with rfl | hat
  ·exact (List.getElem?_eq_some_iff.1 hi).1
  ·exact h.inside j hat
 ·rcases at_set hat with rfl | hat
  ·rw [hi] at hj; cases hj
   exact at_mono (hp p hpp)
  ·exact at_mono (h.closed j o' hj hat p hpp)
theorem take_get {l : List Oper} {i j : Nat} {o : Oper} (h : (l.take i)[j]? = some o) : j < i ∧ l[j]? = some o := by
 have h1 := (List.getElem?_eq_some_iff.1 h).1
 rw [List.length_take] at h1
 have h2 : j < i := by omega
 rw [List.getElem?_take_of_lt h2] at h
 exact ⟨h2, h⟩
theorem FInv.agrees {l : List Oper} {n : Nat} {a : Act} {listed : Array Bool} {a' : Act} {vs : Nat → Value} (hB : relC l n = true) (hn : a.tmps.size = n)
  (h : FInv l n a listed a' vs) {i : Nat} {o : Oper} (hi : l[i]? = some o) (hni : ¬ At listed i) (hp : ∀ p ∈ predsR o, At listed p) : ∀ x ∈ o.op.operands, a'.eval x = (putAll vs (l.take i) 0 a).eval x := by
 have OF := relC_spec hB hi
 have hil : i < l.length := (List.getElem?_eq_some_iff.1 hi).1
 intro x hx
 cases x with
 | tmp t =>
  show a'.tmps.getD t undef = (putAll vs (l.take i) 0 a).tmps.getD t undef
  rw [Array.getD_eq_getD_getElem?, Array.getD_eq_getD_getElem?]
  have ht : t ∈ opTmpsR o := by
   unfold opTmpsR
   rw [List.mem_filterMap]
   exact ⟨.tmp t, by simpa using hx, rfl⟩
  by_cases hex : ∃ (j : Nat) (o' : Oper), l[j]? = some o' ∧ o'.dst = some t
  ·obtain ⟨j, o', hj, hd⟩ := hex
   have OJ := relC_spec hB hj
   rcases OF.tmp t ht j o' hj hd with hpj | hip
   ·have hat := hp j hpj
    have hji := OF.pred j hpj
    have hjt : (l.take i)[j]? = some o' := by rw [List.getElem?_take_of_lt hji]; exact hj
    rw [h.here j o' t hj hd hat, putAll_here vs (l.take i) 0 a j o' hjt hd (by rw [hn]; exact (OJ.dst t hd).1) (fun j' o'' hne ho => (OJ.dst t hd).2 j' o'' hne (take_get ho).2), Nat.zero_add]
   ·have hij := OJ.pred i hip
    have hnj : ¬ At listed j := fun hat => hni (h.closed j o' hj hat i hip)
    rw [h.other t (fun k o'' hk hd' hat => by
     by_cases hkj : k = j
     ·subst hkj; exact hnj hat
     ·exact (OJ.dst t hd).2 k o'' hkj hk hd'), putAll_other vs (l.take i) 0 a (fun o'' ho hd' => by
     obtain ⟨k, hk, he⟩ := List.mem_iff_getElem.1 ho
     have hk' : (l.take i)[k]? = some o'' := by rw [List.getElem?_eq_getElem hk, he]
     obtain ⟨hki, hkl⟩ := take_get hk'
     exact (OJ.dst t hd).2 k o'' (by omega) hkl hd')]
  ·rw [h.other t (fun j o' hj hd _ => hex ⟨j, o', hj, hd⟩), putAll_other vs (l.take i) 0 a (fun o' ho hd => by
    obtain ⟨j, hj, he⟩ := List.mem_iff_getElem.1 ho
    have hj' : (l.take i)[j]? = some o' := by rw [List.getElem?_eq_getElem hj, he]
    exact hex ⟨j, o', (take_get hj').2, hd⟩)]
 | const v => rfl
 | global g => rfl
 | func f => rfl
def wantG (vs : Nat → Value) (o : Oper) : Bool :=
 match o.guard with
 | none => true
 | some (j, want) => match vs j with
  | .bool b => b == want
  | _ => false
theorem FInv.yields {l : List Oper} {n : Nat} {a : Act} {listed : Array Bool} {a' : Act} {vs : Nat → Value} (hB : relC l n = true)
  (h : FInv l n a listed a' vs) {i : Nat} {o : Oper} (hi : l[i]? = some o) (hp : ∀ p ∈ predsR o, At listed p) : Region.wanted o (yielded l.toArray a'.tmps) = wantG vs o := by
 have OF := relC_spec hB hi
 unfold wantG Region.wanted
 cases hg : o.guard with
 | none => rfl
 | some gw =>
  obtain ⟨j, want⟩ := gw
  obtain ⟨hpj, p, d, hpd, hd⟩ := OF.guard j want hg
  have ht := h.here j p d hpd hd (hp j hpj)
  have hj : l.toArray[j]? = some p := by simpa using hpd
  have : yielded l.toArray a'.tmps j = (match vs j with | .bool b => some b | _ => none) := by
   unfold yielded
   simp only [hj, hd, Option.bind_some, ht]
   cases vs j <;> rfl
  simp only [this]
  cases vs j with
  | bool b => cases b <;> cases want <;> rfl
  | _ => rfl
theorem wp_region_gen {P : Program} {id : Nat} {l : List Oper} {Q : Exit → Act → World → Prop} {a : Act} {w : World} (hm : P.follows .mixedOrders = true) (n : Nat) (hn : a.tmps.size = n) (hB : relC l n = true)
  (I : (Nat → Prop) → (Nat → Value) → World → Prop) (h0 : I (fun _ => False) (fun _ => undef) w.drew)
  (hop : ∀ i o, l[i]? = some o → ∀ (A : Nat → Prop) vs w1, ¬ A i → (∀ j o', l[j]? = some o' → A j → ∀ p ∈ predsR o', A p) → (∀ j ∈ predsR o, A j) → I A vs w1 →
   (wantG vs o = true ∧ relUpon P (fun u w2 => I (fun j => j = i ∨ A j) (updV vs i u) w2) ((execOp (putAll vs (l.take i) 0 a).eval o).run P w1)) ∨ (wantG vs o = false ∧ I (fun j => j = i ∨ A j) (updV vs i undef) w1))
  (hQ : ∀ (A : Nat → Prop) vs w1, (∀ j, j < l.length → A j) → I A vs w1 → Q .normal (putAll vs l 0 a) w1) :
  (Code.region id l.toArray true).wp P Q a w := by
 refine wp_region_inv hm (fun listed a' w' => ∃ vs A, (∀ j, A j ↔ At listed j) ∧ FInv l n a listed a' vs ∧ I A vs w') ?_ ?_ ?_
 ·have hno : ∀ i, ¬ At (Array.replicate l.toArray.size false) i := fun i h => by
   unfold At at h
   rw [Array.getElem?_replicate] at h
   split at h <;> simp at h
  exact ⟨fun _ => undef, fun _ => False, fun j => ⟨fun h => h.elim, fun h => (hno _ h).elim⟩, ⟨rfl, hn, fun j o d _ _ h => (hno _ h).elim, fun t _ => rfl, fun j h => (hno _ h).elim, fun j o _ h => (hno _ h).elim⟩, h0⟩
 ·intro listed a' w1 hsz ⟨vs, A, hA, h, hI⟩ i hmem
  obtain ⟨h1, h2, h3⟩ := ready_spec hmem
  have hil : i < l.length := by simpa using h1
  have hi : l[i]? = some l[i] := List.getElem?_eq_getElem hil
  obtain ⟨o, ho⟩ : ∃ o, l[i] = o := ⟨_, rfl⟩
  rw [ho] at hi
  have hia : l.toArray[i]? = some o := by simpa using hi
  have hsz' : listed.size = l.length := by simpa using hsz
  have hp : ∀ p ∈ predsR o, At listed p := by
   intro p hpp
   unfold predsR at hpp
   rw [List.mem_filterMap] at hpp
   obtain ⟨e, he, hb⟩ := hpp
   have h4 := h3 o hia
   rw [Array.all_eq_true_iff_forall_mem] at h4
   have := h4 e (by simpa using he)
   split at hb
   ·rename_i hbb
    cases hb
    rw [hbb] at this
    simp only [Bool.not_true, Bool.false_or] at this
    unfold At
    rw [Array.getD_eq_getD_getElem?] at this
    exact this
   ·cases hb
  have hna := not_at h2
  have OF := relC_spec hB hi
  have next : ∀ u w2, I (fun j => j = i ∨ A j) (updV vs i u) w2 → ∃ vs A, (∀ j, A j ↔ At (listed.setIfInBounds i true) j) ∧ FInv l n a (listed.setIfInBounds i true) (a'.put o.dst u) vs ∧ I A vs w2 :=
   fun u w2 hr => ⟨_, _, fun j => ⟨fun hj => hj.elim (fun e => e ▸ at_here (by omega)) (fun hj => at_mono ((hA j).1 hj)), fun hj => (at_set hj).elim .inl (fun hj => .inr ((hA j).2 hj))⟩, h.next hB (by omega) hi hna hp, hr⟩
  unfold wpOp
  simp only [hia]
  rcases hop i o hi A vs w1 (fun h => hna ((hA i).1 h)) (fun j o' hj hat p hpp => (hA p).2 (h.closed j o' hj ((hA j).1 hat) p hpp)) (fun j hj => (hA j).2 (hp j hj)) hI with ⟨hw, hr⟩ | ⟨hw, hr⟩
  ·rw [if_pos ((h.yields hB hi hp).trans hw)]
   refine .inl ?_
   unfold Oper.wp
   rw [execOp_congr o OF.sel (h.agrees hB hn hi hna hp)]
   generalize (execOp (putAll vs (l.take i) 0 a).eval o).run P w1 = r at hr ⊢
   unfold relUpon at hr
   split at hr
   ·exact next _ _ hr
   ·exact next _ _ hr
   ·simp only [Oper.upon_enter]
    refine Calls.mono hr ?_
    rintro e w2 ⟨u, rfl, hr⟩
    exact next _ _ hr
   ·exact hr.elim
  ·rw [if_neg (by rw [h.yields hB hi hp, hw]; simp)]
   exact next _ _ hr
 ·intro listed a' w1 hsz ⟨vs, A, hA, h, hI⟩ hr
  have hsz' : listed.size = l.length := by simpa using hsz
  have hall : ∀ m i, i < m → i < l.length → At listed i := by
   intro m
   induction m with
   | zero => intro i hi; omega
   | succ m ih =>
    intro i hi hil
    have hio : l[i]? = some l[i] := List.getElem?_eq_getElem hil
    have OF := relC_spec hB hio
    refine ready_nil (by simp [hsz']) hr i l[i] (by simpa using hio) ?_
    rw [Array.all_eq_true_iff_forall_mem]
    intro e he
    cases hb : Region.binds .any e with
    | false => rfl
    | true =>
     have hpe : e.on ∈ predsR l[i] := by
      unfold predsR
      rw [List.mem_filterMap]
      exact ⟨e, by simpa using he, by simp [hb]⟩
     have hlt := OF.pred _ hpe
     have := ih e.on (by omega) (by omega)
     unfold At at this
     rw [Array.getD_eq_getD_getElem?]
     simpa using this
  have hat : ∀ i, i < l.length → At listed i := fun i hi => hall (i + 1) i (by omega) hi
  have hfr : a' = putAll vs l 0 a := by
   have hd : a'.defers = (putAll vs l 0 a).defers := by rw [h.defers, putAll_defers]
   have ht : a'.tmps = (putAll vs l 0 a).tmps := by
    apply Array.ext_getElem?
    intro t
    by_cases hex : ∃ (j : Nat) (o' : Oper), l[j]? = some o' ∧ o'.dst = some t
    ·obtain ⟨j, o', hj, hd⟩ := hex
     have hjl : j < l.length := (List.getElem?_eq_some_iff.1 hj).1
     have OJ := relC_spec hB hj
     rw [h.here j o' t hj hd (hat j hjl), putAll_here vs l 0 a j o' hj hd (by rw [hn]; exact (OJ.dst t hd).1) (fun j' o'' hne ho => (OJ.dst t hd).2 j' o'' hne ho), Nat.zero_add]
    ·rw [h.other t (fun j o' hj hd _ => hex ⟨j, o', hj, hd⟩), putAll_other vs l 0 a (fun o' ho hd => by
      obtain ⟨j, hj, he⟩ := List.mem_iff_getElem.1 ho
      exact hex ⟨j, o', by simp [← he, hj], hd⟩)]
   cases a'
   cases hq : putAll vs l 0 a
   rw [hq] at hd ht
   simp only at hd ht
   rw [hd, ht]
  rw [hfr]
  exact hQ A vs w1 (fun i hi => (hA i).2 (hat i hi)) hI
def relUponIn (P : Program) (R : Value → World → Prop) : Result Next → Prop
 | .ok (.value u) w => R u w
 | .ok .skip w => R undef w
 | .ok (.enter f args) w => Calls P f args w fun e w' => ∃ u, e = .returned u ∧ R u w'
 | .ok (.round l f tmps assign body) w => RoundIn Fence.wide 4 P l f tmps assign body w fun e w' => ∃ u, e = .returned u ∧ R u w'
 | _ => False
theorem wpIn_region_inv {F : Fence} {m : Nat} {P : Program} {id : Nat} {ops : Array Oper} {Q : Exit → Act → World → Prop} {a : Act} {w : World} (hm : P.follows .mixedOrders = true) (I : Array Bool → Act → World → Prop)
  (h0 : I (Array.replicate ops.size false) a w.drew)
  (hs : ∀ listed a w, listed.size = ops.size → I listed a w → ∀ i ∈ Region.ready .any ops listed, wpOpIn F m P ops Q i (I (listed.setIfInBounds i true)) a w)
  (he : ∀ listed a w, listed.size = ops.size → I listed a w → Region.ready .any ops listed = [] → Q .normal a w) : (Code.region id ops true).wpIn F m P Q a w := by
 refine wpIn_region_any hm ?_
 have key : ∀ (n : Nat) (listed : Array Bool) (a : Act) (w : World), listed.size = ops.size → leftN listed.toList ≤ n → I listed a w → wpAnyIn F m P .any ops Q n listed a w := by
  intro n
  induction n with
  | zero =>
   intro listed a w hsz hl hi
   have hr : Region.ready .any ops listed = [] := by
    rw [List.eq_nil_iff_forall_not_mem]
    intro i hmem
    obtain ⟨h1, h2, _⟩ := ready_spec hmem
    have h3 := leftN_zero listed.toList (by omega) i
    apply h3
    rw [Array.getElem?_toList]
    have h4 : i < listed.size := by omega
    rw [Array.getD_eq_getD_getElem?, Array.getElem?_eq_getElem h4] at h2
    rw [Array.getElem?_eq_getElem h4]
    simpa using h2
   exact ⟨hr, he listed a w hsz hi hr⟩
  | succ n ih =>
   intro listed a w hsz hl hi
   refine ⟨he listed a w hsz hi, fun i hmem => ?_⟩
   obtain ⟨h1, h2, _⟩ := ready_spec hmem
   have h4 : i < listed.size := by omega
   have h5 : listed.toList[i]? = some false := by
    rw [Array.getElem?_toList]
    rw [Array.getD_eq_getD_getElem?, Array.getElem?_eq_getElem h4] at h2
    rw [Array.getElem?_eq_getElem h4]
    simpa using h2
   have h6 := leftN_set _ _ h5
   refine wpOpIn_mono (fun a' w' h' => ih _ a' w' (by simpa using hsz) ?_ h') (hs listed a w hsz hi i hmem)
   simp only [Array.toList_setIfInBounds]
   omega
 refine key _ _ _ _ (by simp) ?_ h0
 simp only [leftN, Array.toList_replicate]
 exact Nat.le_trans List.countP_le_length (by simp)
theorem wpIn_region_gen {P : Program} {id rd m : Nat} {l : List Oper} {Q : Exit → Act → World → Prop} {a : Act} {w : World} (hm : P.follows .mixedOrders = true) (n : Nat) (hn : a.tmps.size = n) (hnd : ∀ (i : Nat) (o : Oper), l[i]? = some o → ∀ c, o.op ≠ .defer c) (hB : relC l n = true)
  (I : (Nat → Prop) → (Nat → Value) → World → Prop) (h0 : I (fun _ => False) (fun _ => undef) w.drew)
  (hop : ∀ i o, l[i]? = some o → ∀ (A : Nat → Prop) vs w1, ¬ A i → (∀ j o', l[j]? = some o' → A j → ∀ p ∈ predsR o', A p) → (∀ j ∈ predsR o, A j) → I A vs w1 →
   (wantG vs o = true ∧ relUponIn P (fun u w2 => I (fun j => j = i ∨ A j) (updV vs i u) w2) ((execOp (putAll vs (l.take i) 0 a).eval o).run P w1)) ∨ (wantG vs o = false ∧ I (fun j => j = i ∨ A j) (updV vs i undef) w1))
  (hQ : ∀ (A : Nat → Prop) vs w1, (∀ j, j < l.length → A j) → I A vs w1 → Q .normal (putAll vs l 0 a) w1) :
  (Code.region id l.toArray true).wpIn (Fence.wide.inRound rd) m P Q a w := by
 refine wpIn_region_inv hm (fun listed a' w' => ∃ vs A, (∀ j, A j ↔ At listed j) ∧ FInv l n a listed a' vs ∧ I A vs w') ?_ ?_ ?_
 ·have hno : ∀ i, ¬ At (Array.replicate l.toArray.size false) i := fun i h => by
   unfold At at h
   rw [Array.getElem?_replicate] at h
   split at h <;> simp at h
  exact ⟨fun _ => undef, fun _ => False, fun j => ⟨fun h => h.elim, fun h => (hno _ h).elim⟩, ⟨rfl, hn, fun j o d _ _ h => (hno _ h).elim, fun t _ => rfl, fun j h => (hno _ h).elim, fun j o _ h => (hno _ h).elim⟩, h0⟩
 ·intro listed a' w1 hsz ⟨vs, A, hA, h, hI⟩ i hmem
  obtain ⟨h1, h2, h3⟩ := ready_spec hmem
  have hil : i < l.length := by simpa using h1
  have hi : l[i]? = some l[i] := List.getElem?_eq_getElem hil
  obtain ⟨o, ho⟩ : ∃ o, l[i] = o := ⟨_, rfl⟩
  rw [ho] at hi
  have hia : l.toArray[i]? = some o := by simpa using hi
  have hsz' : listed.size = l.length := by simpa using hsz
  have hp : ∀ p ∈ predsR o, At listed p := by
   intro p hpp
   unfold predsR at hpp
   rw [List.mem_filterMap] at hpp
   obtain ⟨e, he, hb⟩ := hpp
   have h4 := h3 o hia
   rw [Array.all_eq_true_iff_forall_mem] at h4
   have := h4 e (by simpa using he)
   split at hb
   ·rename_i hbb
    cases hb
    rw [hbb] at this
    simp only [Bool.not_true, Bool.false_or] at this
    unfold At
    rw [Array.getD_eq_getD_getElem?] at this
    exact this
   ·cases hb
  have hna := not_at h2
  have OF := relC_spec hB hi
  have next : ∀ u w2, I (fun j => j = i ∨ A j) (updV vs i u) w2 → ∃ vs A, (∀ j, A j ↔ At (listed.setIfInBounds i true) j) ∧ FInv l n a (listed.setIfInBounds i true) (a'.put o.dst u) vs ∧ I A vs w2 :=
   fun u w2 hr => ⟨_, _, fun j => ⟨fun hj => hj.elim (fun e => e ▸ at_here (by omega)) (fun hj => at_mono ((hA j).1 hj)), fun hj => (at_set hj).elim .inl (fun hj => .inr ((hA j).2 hj))⟩, h.next hB (by omega) hi hna hp, hr⟩
  unfold wpOpIn
  simp only [hia]
  rcases hop i o hi A vs w1 (fun h => hna ((hA i).1 h)) (fun j o' hj hat p hpp => (hA p).2 (h.closed j o' hj ((hA j).1 hat) p hpp)) (fun j hj => (hA j).2 (hp j hj)) hI with ⟨hw, hr⟩ | ⟨hw, hr⟩
  ·rw [if_pos ((h.yields hB hi hp).trans hw)]
   unfold Oper.wpIn
   refine ⟨fun _ _ => trivial, ?_⟩
   rw [Oper.semAt_eq _ _ _ (hnd i o hi), execOp_congr o OF.sel (h.agrees hB hn hi hna hp)]
   generalize (execOp (putAll vs (l.take i) 0 a).eval o).run P w1 = r at hr ⊢
   unfold relUponIn at hr
   split at hr
   ·exact next _ _ hr
   ·exact next _ _ hr
   ·rw [Oper.uponIn_enter]
    refine ⟨(fun h => by cases h), CallsIn.mono (callsIn_wide.2 hr) ?_⟩
    rintro e w2 ⟨u, rfl, hr⟩
    exact next _ _ hr
   ·rw [Oper.uponIn_round]
    refine ⟨(fun h => by cases h), roundIn_in (hr.mono ?_)⟩
    rintro e w2 ⟨u, rfl, hr⟩
    exact next _ _ hr
   ·exact hr.elim
  ·rw [if_neg (by rw [h.yields hB hi hp, hw]; simp)]
   exact ⟨fun _ _ => trivial, next _ _ hr⟩
 ·intro listed a' w1 hsz ⟨vs, A, hA, h, hI⟩ hr
  have hsz' : listed.size = l.length := by simpa using hsz
  have hall : ∀ m i, i < m → i < l.length → At listed i := by
   intro m
   induction m with
   | zero => intro i hi; omega
   | succ m ih =>
    intro i hi hil
    have hio : l[i]? = some l[i] := List.getElem?_eq_getElem hil
    have OF := relC_spec hB hio
    refine ready_nil (by simp [hsz']) hr i l[i] (by simpa using hio) ?_
    rw [Array.all_eq_true_iff_forall_mem]
    intro e he
    cases hb : Region.binds .any e with
    | false => rfl
    | true =>
     have hpe : e.on ∈ predsR l[i] := by
      unfold predsR
      rw [List.mem_filterMap]
      exact ⟨e, by simpa using he, by simp [hb]⟩
     have hlt := OF.pred _ hpe
     have := ih e.on (by omega) (by omega)
     unfold At at this
     rw [Array.getD_eq_getD_getElem?]
     simpa using this
  have hat : ∀ i, i < l.length → At listed i := fun i hi => hall (i + 1) i (by omega) hi
  have hfr : a' = putAll vs l 0 a := by
   have hd : a'.defers = (putAll vs l 0 a).defers := by rw [h.defers, putAll_defers]
   have ht : a'.tmps = (putAll vs l 0 a).tmps := by
    apply Array.ext_getElem?
    intro t
    by_cases hex : ∃ (j : Nat) (o' : Oper), l[j]? = some o' ∧ o'.dst = some t
    ·obtain ⟨j, o', hj, hd⟩ := hex
     have hjl : j < l.length := (List.getElem?_eq_some_iff.1 hj).1
     have OJ := relC_spec hB hj
     rw [h.here j o' t hj hd (hat j hjl), putAll_here vs l 0 a j o' hj hd (by rw [hn]; exact (OJ.dst t hd).1) (fun j' o'' hne ho => (OJ.dst t hd).2 j' o'' hne ho), Nat.zero_add]
    ·rw [h.other t (fun j o' hj hd _ => hex ⟨j, o', hj, hd⟩), putAll_other vs l 0 a (fun o' ho hd => by
      obtain ⟨j, hj, he⟩ := List.mem_iff_getElem.1 ho
      exact hex ⟨j, o', by simp [← he, hj], hd⟩)]
   cases a'
   cases hq : putAll vs l 0 a
   rw [hq] at hd ht
   simp only at hd ht
   rw [hd, ht]
  rw [hfr]
  exact hQ A vs w1 (fun i hi => (hA i).2 (hat i hi)) hI
def prB (l : List Oper) (i j : Nat) : Bool := match l[i]? with | some o => (predsR o).contains j | none => false
theorem prB_iff {l : List Oper} {i j : Nat} {o : Oper} (h : l[i]? = some o) : prB l i j = true ↔ j ∈ predsR o := by
 unfold prB; rw [h]; simp [List.contains_iff_mem]
theorem prB_some {l : List Oper} {i j : Nat} (h : prB l i j = true) : ∃ o, l[i]? = some o ∧ j ∈ predsR o := by
 cases ho : l[i]? with
 | none => unfold prB at h; rw [ho] at h; cases h
 | some o => exact ⟨o, rfl, (prB_iff ho).1 h⟩
def okSt (l : List Oper) (effs : List Nat) (i s : Nat) : Bool :=
 (List.range effs.length).all fun k => match effs[k]? with
  | none => true
  | some e => (if prB l e i then decide (s ≤ k) else true) && (if prB l i e then decide (k < s) else true) && (if e == i then decide (s = k) else true)
def chainB (l : List Oper) (effs : List Nat) : Bool :=
 (List.range effs.length).all fun k => match effs[k]?, effs[k + 1]? with
  | some e, some e' => prB l e' e && decide (e < e')
  | _, _ => true
def StA (effs : List Nat) (s : Nat) (A : Nat → Prop) : Prop := s ≤ effs.length ∧ ∀ k e, effs[k]? = some e → (A e ↔ k < s)
theorem StA.ok {l : List Oper} {effs : List Nat} {s i : Nat} {o : Oper} {A : Nat → Prop} (h : StA effs s A) (hC : chainB l effs = true) (hi : l[i]? = some o) (hn : ¬ A i) (hcl : ∀ (j : Nat) (o' : Oper), l[j]? = some o' → A j → ∀ p ∈ predsR o', A p) (hp : ∀ j ∈ predsR o, A j) : okSt l effs i s = true := by
 unfold okSt
 rw [List.all_eq_true]
 intro k hk
 have hkl := List.mem_range.1 hk
 obtain ⟨e, he⟩ : ∃ e, effs[k]? = some e := ⟨_, List.getElem?_eq_getElem hkl⟩
 simp only [he, Bool.and_eq_true]
 have hA := h.2 k e he
 refine ⟨⟨?_, ?_⟩, ?_⟩
 ·split
  ·rename_i hc
   rw [decide_eq_true_eq]
   refine Nat.le_of_not_lt fun hlt => hn ?_
   obtain ⟨oe, ho, hm⟩ := prB_some hc
   exact hcl e oe ho (hA.2 hlt) i hm
  ·rfl
 ·split
  ·rename_i hc
   rw [decide_eq_true_eq]
   exact hA.1 (hp e ((prB_iff hi).1 hc))
  ·rfl
 ·split
  ·rename_i hc
   have hei : e = i := by simpa using hc
   subst hei
   rw [decide_eq_true_eq]
   have h1 : s ≤ k := Nat.le_of_not_lt fun hlt => hn (hA.2 hlt)
   rcases Nat.eq_zero_or_pos k with h0 | h0
   ·omega
   ·obtain ⟨e', he'⟩ : ∃ e', effs[k - 1]? = some e' := ⟨_, List.getElem?_eq_getElem (by omega)⟩
    unfold chainB at hC
    have hc2 := List.all_eq_true.1 hC (k - 1) (List.mem_range.2 (by omega))
    rw [show k - 1 + 1 = k by omega] at hc2
    simp only [he', he, Bool.and_eq_true] at hc2
    have := (h.2 (k - 1) e' he').1 (hp e' ((prB_iff hi).1 hc2.1))
    omega
  ·rfl
theorem chain_lt {l : List Oper} {effs : List Nat} (hC : chainB l effs = true) : ∀ (d k : Nat) (e e' : Nat), effs[k]? = some e → effs[k + (d + 1)]? = some e' → e < e'
 | 0, k, e, e', h1, h2 => by
  have hkl := (List.getElem?_eq_some_iff.1 h1).1
  have hc := List.all_eq_true.1 hC k (List.mem_range.2 hkl)
  rw [Nat.zero_add] at h2
  simp only [h1, h2, Bool.and_eq_true, decide_eq_true_eq] at hc
  exact hc.2
 | d + 1, k, e, e', h1, h2 => by
  have hlt := (List.getElem?_eq_some_iff.1 h2).1
  obtain ⟨e1, h3⟩ : ∃ e1, effs[k + (d + 1)]? = some e1 := ⟨_, List.getElem?_eq_getElem (by omega)⟩
  have := chain_lt hC d k e e1 h1 h3
  have hc := List.all_eq_true.1 hC (k + (d + 1)) (List.mem_range.2 (by omega))
  rw [show k + (d + 1) + 1 = k + (d + 1 + 1) by omega] at hc
  simp only [h3, h2, Bool.and_eq_true, decide_eq_true_eq] at hc
  omega
theorem chain_inj {l : List Oper} {effs : List Nat} (hC : chainB l effs = true) {j k e : Nat} (h1 : effs[j]? = some e) (h2 : effs[k]? = some e) : j = k := by
 rcases Nat.lt_trichotomy j k with h | h | h
 ·have := chain_lt hC (k - j - 1) j e e h1 (by rw [show j + (k - j - 1 + 1) = k by omega]; exact h2)
  omega
 ·exact h
 ·have := chain_lt hC (j - k - 1) k e e h2 (by rw [show k + (j - k - 1 + 1) = j by omega]; exact h1)
  omega
theorem StA.next {l : List Oper} {effs : List Nat} {s i : Nat} {A : Nat → Prop} (h : StA effs s A) (hC : chainB l effs = true) (hok : okSt l effs i s = true) : StA effs (if effs.contains i then s + 1 else s) (fun j => j = i ∨ A j) := by
 split
 ·rename_i hc
  have hm : i ∈ effs := by simpa [List.contains_iff_mem] using hc
  obtain ⟨k, hk⟩ := List.getElem?_of_mem hm
  have hkl := (List.getElem?_eq_some_iff.1 hk).1
  have h1 := List.all_eq_true.1 hok k (List.mem_range.2 hkl)
  simp only [hk, Bool.and_eq_true, beq_self_eq_true, if_true, decide_eq_true_eq] at h1
  obtain rfl := h1.2
  refine ⟨hkl, fun k' e he => ?_⟩
  show (e = i ∨ A e) ↔ _
  rw [h.2 k' e he]
  constructor
  ·rintro (rfl | h2)
   ·have := chain_inj hC he hk; omega
   ·omega
  ·intro h2
   by_cases hks : k' = s
   ·subst hks
    rw [hk] at he
    exact .inl (Option.some.inj he).symm
   ·exact .inr (by omega)
 ·rename_i hc
  have hm : i ∉ effs := by simpa [List.contains_iff_mem] using hc
  refine ⟨h.1, fun k e he => ?_⟩
  show (e = i ∨ A e) ↔ _
  rw [← h.2 k e he]
  refine ⟨fun hx => hx.elim (fun hei => absurd (hei ▸ List.mem_of_getElem? he) hm) id, .inr⟩
theorem relUponIn_mono {P : Program} {R R' : Value → World → Prop} {r : Result Next} (h : relUponIn P R r) (hm : ∀ u w, R u w → R' u w) : relUponIn P R' r := by
 unfold relUponIn at h ⊢
 split
 ·exact hm _ _ h
 ·exact hm _ _ h
 ·refine Calls.mono h ?_
  rintro e w ⟨u, he, hu⟩
  exact ⟨u, he, hm _ _ hu⟩
 ·refine RoundIn.mono h ?_
  rintro e w ⟨u, he, hu⟩
  exact ⟨u, he, hm _ _ hu⟩
 ·rename_i h1 h2 h3 h4
  split at h
  ·exact absurd rfl (h1 _ _)
  ·exact absurd rfl (h2 _)
  ·exact absurd rfl (h3 _ _ _)
  ·exact absurd rfl (h4 _ _ _ _ _ _)
  ·exact h
theorem wpIn_region_det {P : Program} {id rd m : Nat} {l : List Oper} {Q : Exit → Act → World → Prop} {a : Act} {w : World} (hm : P.follows .mixedOrders = true) (n : Nat) (hn : a.tmps.size = n) (hnd : ∀ (i : Nat) (o : Oper), l[i]? = some o → ∀ c, o.op ≠ .defer c) (hB : relC l n = true)
  (effs : List Nat) (hC : chainB l effs = true) (hE : ∀ e ∈ effs, e < l.length) (val : Nat → Value) (ws : Nat → World) (hw0 : ws 0 = w.drew)
  (hop : ∀ i o, l[i]? = some o → ∀ s, s ≤ effs.length → okSt l effs i s = true → ∀ vs : Nat → Value, (∀ j ∈ predsR o, vs j = val j) → wantG vs o = true ∧ relUponIn P (fun u w2 => u = val i ∧ w2 = ws (if effs.contains i then s + 1 else s)) ((execOp (putAll vs (l.take i) 0 a).eval o).run P (ws s)))
  (hQ : ∀ vs : Nat → Value, (∀ j, j < l.length → vs j = val j) → Q .normal (putAll vs l 0 a) (ws effs.length)) : (Code.region id l.toArray true).wpIn (Fence.wide.inRound rd) m P Q a w := by
 refine wpIn_region_gen hm n hn hnd hB (fun A vs w' => (∀ j, A j → vs j = val j) ∧ ∃ s, StA effs s A ∧ w' = ws s) ?_ ?_ ?_
 ·exact ⟨fun j h => h.elim, 0, ⟨Nat.zero_le _, fun k e _ => ⟨fun h => h.elim, fun h => by omega⟩⟩, hw0.symm⟩
 ·rintro i o hi A vs w1 hna hcl hp ⟨hv, s, hs, rfl⟩
  have hok := hs.ok hC hi hna hcl hp
  obtain ⟨h1, h2⟩ := hop i o hi s hs.1 hok vs (fun j hj => hv j (hp j hj))
  refine .inl ⟨h1, relUponIn_mono h2 ?_⟩
  rintro u w2 ⟨rfl, rfl⟩
  refine ⟨fun j hj => ?_, _, hs.next hC hok, rfl⟩
  by_cases hji : j = i
  ·subst hji; exact updV_here _ _ _
  ·rw [updV_other hji]; exact hv j (hj.resolve_left hji)
 ·rintro A vs w1 hA ⟨hv, s, hs, rfl⟩
  have hse : s = effs.length := by
   refine Nat.le_antisymm hs.1 (Nat.le_of_not_lt fun hlt => ?_)
   obtain ⟨e, he⟩ : ∃ e, effs[s]? = some e := ⟨_, List.getElem?_eq_getElem hlt⟩
   have := (hs.2 s e he).1 (hA e (hE e (List.mem_of_getElem? he)))
   omega
  rw [hse]
  exact hQ vs fun j hj => hv j (hA j hj)
theorem relUpon_mono {P : Program} {R R' : Value → World → Prop} {r : Result Next} (h : relUpon P R r) (hm : ∀ u w, R u w → R' u w) : relUpon P R' r := by
 unfold relUpon at h ⊢
 split
 ·exact hm _ _ h
 ·exact hm _ _ h
 ·refine Calls.mono h ?_
  rintro e w ⟨u, he, hu⟩
  exact ⟨u, he, hm _ _ hu⟩
 ·rename_i h1 h2 h3
  split at h
  ·exact absurd rfl (h1 _ _)
  ·exact absurd rfl (h2 _)
  ·exact absurd rfl (h3 _ _ _)
  ·exact h
theorem wp_region_det {P : Program} {id : Nat} {l : List Oper} {Q : Exit → Act → World → Prop} {a : Act} {w : World} (hm : P.follows .mixedOrders = true) (n : Nat) (hn : a.tmps.size = n) (hB : relC l n = true)
  (effs : List Nat) (hC : chainB l effs = true) (hE : ∀ e ∈ effs, e < l.length) (val : Nat → Value) (ws : Nat → World) (hw0 : ws 0 = w.drew)
  (hop : ∀ i o, l[i]? = some o → ∀ s, s ≤ effs.length → okSt l effs i s = true → ∀ vs : Nat → Value, (∀ j ∈ predsR o, vs j = val j) → wantG vs o = true ∧ relUpon P (fun u w2 => u = val i ∧ w2 = ws (if effs.contains i then s + 1 else s)) ((execOp (putAll vs (l.take i) 0 a).eval o).run P (ws s)))
  (hQ : ∀ vs : Nat → Value, (∀ j, j < l.length → vs j = val j) → Q .normal (putAll vs l 0 a) (ws effs.length)) : (Code.region id l.toArray true).wp P Q a w := by
 refine wp_region_gen hm n hn hB (fun A vs w' => (∀ j, A j → vs j = val j) ∧ ∃ s, StA effs s A ∧ w' = ws s) ?_ ?_ ?_
 ·exact ⟨fun j h => h.elim, 0, ⟨Nat.zero_le _, fun k e _ => ⟨fun h => h.elim, fun h => by omega⟩⟩, hw0.symm⟩
 ·rintro i o hi A vs w1 hna hcl hp ⟨hv, s, hs, rfl⟩
  have hok := hs.ok hC hi hna hcl hp
  obtain ⟨h1, h2⟩ := hop i o hi s hs.1 hok vs (fun j hj => hv j (hp j hj))
  refine .inl ⟨h1, relUpon_mono h2 ?_⟩
  rintro u w2 ⟨rfl, rfl⟩
  refine ⟨fun j hj => ?_, _, hs.next hC hok, rfl⟩
  by_cases hji : j = i
  ·subst hji; exact updV_here _ _ _
  ·rw [updV_other hji]; exact hv j (hj.resolve_left hji)
 ·rintro A vs w1 hA ⟨hv, s, hs, rfl⟩
  have hse : s = effs.length := by
   refine Nat.le_antisymm hs.1 (Nat.le_of_not_lt fun hlt => ?_)
   obtain ⟨e, he⟩ : ∃ e, effs[s]? = some e := ⟨_, List.getElem?_eq_getElem hlt⟩
   have := (hs.2 s e he).1 (hA e (hE e (List.mem_of_getElem? he)))
   omega
  rw [hse]
  exact hQ vs fun j hj => hv j (hA j hj)
end Go.Proofs.YtllhejjcmfiebaaDoor
