/- A region that draws: an invariant of one's own, said of the set of operations that have come and of their values. -/
import Derived.Test.YthbfgmgpploneaaDoorQR
import Derived.Maps.AppendAt
set_option linter.unnecessarySimpa false
set_option linter.unusedVariables false
set_option linter.unusedSimpArgs false
namespace Go.Proofs.YthbfgmgpploneaaDoor
open Go.RowKit

/-- which operations may be taken in whatever order: what an operation reads was written by one that it waits for, or is written by one that waits for it -/
def relC (l : List Oper) (n : Nat) : Bool :=
  (List.range l.length).all fun i => match l[i]? with
    | some o => (predsR o).all (fun j => decide (j < i)) &&
      (match o.dst with
        | some d => decide (d < n) && (List.range l.length).all (fun j => j == i || !dstIsR l d j)
        | none => true) &&
      (opTmpsR o).all (fun t => (List.range l.length).all fun j => !dstIsR l t j || (predsR o).contains j || (match l[j]? with | some p => (predsR p).contains i | none => false)) &&
      (match o.guard with
        | some (g, _) => (predsR o).contains g && (match l[g]? with | some p => p.dst.isSome | none => false)
        | none => true) &&
      (match o.op with | .select .. => false | _ => true)
    | none => true
structure OpC (l : List Oper) (n : Nat) (i : Nat) (o : Oper) : Prop where
  pred : ∀ j ∈ predsR o, j < i
  dst : ∀ d, o.dst = some d → d < n ∧ ∀ j o', j ≠ i → l[j]? = some o' → o'.dst ≠ some d
  tmp : ∀ t ∈ opTmpsR o, ∀ j o', l[j]? = some o' → o'.dst = some t → j ∈ predsR o ∨ i ∈ predsR o'
  guard : ∀ g b, o.guard = some (g, b) → g ∈ predsR o ∧ ∃ p d, l[g]? = some p ∧ p.dst = some d
  sel : ∀ cs b, o.op ≠ .select cs b
theorem relC_spec {l : List Oper} {n : Nat} (h : relC l n = true) {i : Nat} {o : Oper} (ho : l[i]? = some o) : OpC l n i o := by
  unfold relC at h
  rw [List.all_eq_true] at h
  have hi : i < l.length := (List.getElem?_eq_some_iff.1 ho).1
  have h := h i (List.mem_range.2 hi)
  rw [ho] at h
  simp only [Bool.and_eq_true] at h
  obtain ⟨⟨⟨⟨h1, h2⟩, h3⟩, h4⟩, h5⟩ := h
  refine ⟨fun j hj => ?_, fun d hd => ?_, fun t ht j o' hj hd => ?_, fun g b hg => ?_, fun cs b hc => ?_⟩
  · rw [List.all_eq_true] at h1; simpa using h1 j hj
  · rw [hd] at h2
    simp only [Bool.and_eq_true, decide_eq_true_eq, List.all_eq_true, List.mem_range, Bool.or_eq_true, beq_iff_eq, Bool.not_eq_true'] at h2
    refine ⟨h2.1, fun j o' hj ho' hd' => ?_⟩
    rcases h2.2 j (List.getElem?_eq_some_iff.1 ho').1 with h | h
    · exact hj h
    · rw [dstIsR_iff.2 ⟨o', ho', hd'⟩] at h; cases h
  · simp only [List.all_eq_true, List.mem_range, Bool.or_eq_true, Bool.not_eq_true', List.contains_iff_mem] at h3
    rcases h3 t ht j (List.getElem?_eq_some_iff.1 hj).1 with (h | h) | h
    · rw [dstIsR_iff.2 ⟨o', hj, hd⟩] at h; cases h
    · exact .inl h
    · rw [hj] at h; exact .inr (by simpa [List.contains_iff_mem] using h)
  · rw [hg] at h4
    simp only [Bool.and_eq_true, List.contains_iff_mem] at h4
    refine ⟨h4.1, ?_⟩
    have h5 := h4.2
    split at h5
    · rename_i p hp
      obtain ⟨d, hd⟩ := Option.isSome_iff_exists.1 h5
      exact ⟨p, d, hp, hd⟩
    · cases h5
  · rw [hc] at h5; cases h5
/-- the frame: each operation that has come has left its value -/
structure FInv (l : List Oper) (n : Nat) (a : Act) (listed : Array Bool) (a' : Act) (vs : Nat → Value) : Prop where
  defers : a'.defers = a.defers
  size : a'.tmps.size = n
  here : ∀ j o d, l[j]? = some o → o.dst = some d → At listed j → a'.tmps[d]? = some (vs j)
  other : ∀ t, (∀ j o, l[j]? = some o → o.dst = some t → ¬ At listed j) → a'.tmps[t]? = a.tmps[t]?
  inside : ∀ j, At listed j → j < l.length
  closed : ∀ j o, l[j]? = some o → At listed j → ∀ p ∈ predsR o, At listed p
theorem FInv.next {l : List Oper} {n : Nat} {a : Act} {listed : Array Bool} {a' : Act} {vs : Nat → Value} {i : Nat} {o : Oper} {u : Value}
    (hB : relC l n = true) (hsz : i < listed.size) (h : FInv l n a listed a' vs) (hi : l[i]? = some o) (hn : ¬ At listed i) (hp : ∀ p ∈ predsR o, At listed p) : FInv l n a (listed.setIfInBounds i true) (a'.put o.dst u) (upd vs i u) := by
  have OF := relC_spec hB hi
  refine ⟨by rw [put_defers]; exact h.defers, by rw [put_size]; exact h.size, fun j o' d hj hd hat => ?_, fun t ht => ?_, fun j hat => ?_, fun j o' hj hat p hpp => ?_⟩
  · by_cases hji : j = i
    · subst hji
      rw [hi] at hj; cases hj
      rw [hd, put_here (by rw [h.size]; exact (OF.dst d hd).1), upd_here]
    · have hat' := (at_set hat).resolve_left hji
      rw [put_other (fun e => (OF.dst d e).2 j o' hji hj hd), upd_other hji]
      exact h.here j o' d hj hd hat'
  · rw [put_other (fun e => ht i o hi e (at_here hsz))]
    exact h.other t fun j o' hj hd hat => ht j o' hj hd (at_mono hat)
  · rcases at_set hat with rfl | hat
    · exact (List.getElem?_eq_some_iff.1 hi).1
    · exact h.inside j hat
  · rcases at_set hat with rfl | hat
    · rw [hi] at hj; cases hj
      exact at_mono (hp p hpp)
    · exact at_mono (h.closed j o' hj hat p hpp)
theorem take_get {l : List Oper} {i j : Nat} {o : Oper} (h : (l.take i)[j]? = some o) : j < i ∧ l[j]? = some o := by
  have h1 := (List.getElem?_eq_some_iff.1 h).1
  rw [List.length_take] at h1
  have h2 : j < i := by omega
  rw [List.getElem?_take_of_lt h2] at h
  exact ⟨h2, h⟩
theorem FInv.agrees {l : List Oper} {n : Nat} {a : Act} {listed : Array Bool} {a' : Act} {vs : Nat → Value} (hB : relC l n = true) (hn : a.tmps.size = n)
    (h : FInv l n a listed a' vs) {i : Nat} {o : Oper} (hi : l[i]? = some o) (hni : ¬ At listed i) (hp : ∀ p ∈ predsR o, At listed p) : ∀ x ∈ o.op.operands, a'.eval x = (putAll vs (l.take i) 0 a).eval x := by
  have OF := relC_spec hB hi
  have hil : i < l.length := (List.getElem?_eq_some_iff.1 hi).1
  intro x hx
  cases x with
  | tmp t =>
    show a'.tmps.getD t undef = (putAll vs (l.take i) 0 a).tmps.getD t undef
    rw [Array.getD_eq_getD_getElem?, Array.getD_eq_getD_getElem?]
    have ht : t ∈ opTmpsR o := by
      unfold opTmpsR
      rw [List.mem_filterMap]
      exact ⟨.tmp t, by simpa using hx, rfl⟩
    by_cases hex : ∃ (j : Nat) (o' : Oper), l[j]? = some o' ∧ o'.dst = some t
    · obtain ⟨j, o', hj, hd⟩ := hex
      have OJ := relC_spec hB hj
      rcases OF.tmp t ht j o' hj hd with hpj | hip
      · have hat := hp j hpj
        have hji := OF.pred j hpj
        have hjt : (l.take i)[j]? = some o' := by rw [List.getElem?_take_of_lt hji]; exact hj
        rw [h.here j o' t hj hd hat, putAll_here vs (l.take i) 0 a j o' hjt hd (by rw [hn]; exact (OJ.dst t hd).1) (fun j' o'' hne ho => (OJ.dst t hd).2 j' o'' hne (take_get ho).2), Nat.zero_add]
      · have hij := OJ.pred i hip
        have hnj : ¬ At listed j := fun hat => hni (h.closed j o' hj hat i hip)
        rw [h.other t (fun k o'' hk hd' hat => by
          by_cases hkj : k = j
          · subst hkj; exact hnj hat
          · exact (OJ.dst t hd).2 k o'' hkj hk hd'), putAll_other vs (l.take i) 0 a (fun o'' ho hd' => by
          obtain ⟨k, hk, he⟩ := List.mem_iff_getElem.1 ho
          have hk' : (l.take i)[k]? = some o'' := by rw [List.getElem?_eq_getElem hk, he]
          obtain ⟨hki, hkl⟩ := take_get hk'
          exact (OJ.dst t hd).2 k o'' (by omega) hkl hd')]
    · rw [h.other t (fun j o' hj hd _ => hex ⟨j, o', hj, hd⟩), putAll_other vs (l.take i) 0 a (fun o' ho hd => by
        obtain ⟨j, hj, he⟩ := List.mem_iff_getElem.1 ho
        have hj' : (l.take i)[j]? = some o' := by rw [List.getElem?_eq_getElem hj, he]
        exact hex ⟨j, o', (take_get hj').2, hd⟩)]
  | const v => rfl
  | global g => rfl
  | func f => rfl
/-- does an operation with a guard come, by the values -/
def wantG (vs : Nat → Value) (o : Oper) : Bool :=
  match o.guard with
  | none => true
  | some (j, want) => match vs j with
    | .bool b => b == want
    | _ => false
theorem FInv.yields {l : List Oper} {n : Nat} {a : Act} {listed : Array Bool} {a' : Act} {vs : Nat → Value} (hB : relC l n = true)
    (h : FInv l n a listed a' vs) {i : Nat} {o : Oper} (hi : l[i]? = some o) (hp : ∀ p ∈ predsR o, At listed p) : Region.wanted o (yielded l.toArray a'.tmps) = wantG vs o := by
  have OF := relC_spec hB hi
  unfold wantG Region.wanted
  cases hg : o.guard with
  | none => rfl
  | some gw =>
    obtain ⟨j, want⟩ := gw
    obtain ⟨hpj, p, d, hpd, hd⟩ := OF.guard j want hg
    have ht := h.here j p d hpd hd (hp j hpj)
    have hj : l.toArray[j]? = some p := by simpa using hpd
    have : yielded l.toArray a'.tmps j = (match vs j with | .bool b => some b | _ => none) := by
      unfold yielded
      simp only [hj, hd, Option.bind_some, ht]
      cases vs j <;> rfl
    simp only [this]
    cases vs j with
    | bool b => cases b <;> cases want <;> rfl
    | _ => rfl
/-- A region that draws its order, by an invariant over the set of operations that have come, their values and the world. -/
theorem wp_region_gen {P : Program} {id : Nat} {l : List Oper} {Q : Exit → Act → World → Prop} {a : Act} {w : World} (hm : P.follows .mixedOrders = true) (n : Nat) (hn : a.tmps.size = n) (hB : relC l n = true)
    (I : (Nat → Prop) → (Nat → Value) → World → Prop) (h0 : I (fun _ => False) (fun _ => undef) w.drew)
    (hop : ∀ i o, l[i]? = some o → ∀ (A : Nat → Prop) vs w1, ¬ A i → (∀ j o', l[j]? = some o' → A j → ∀ p ∈ predsR o', A p) → (∀ j ∈ predsR o, A j) → I A vs w1 →
      (wantG vs o = true ∧ relUpon P (fun u w2 => I (fun j => j = i ∨ A j) (upd vs i u) w2) ((execOp (putAll vs (l.take i) 0 a).eval o).run P w1)) ∨ (wantG vs o = false ∧ I (fun j => j = i ∨ A j) (upd vs i undef) w1))
    (hQ : ∀ (A : Nat → Prop) vs w1, (∀ j, j < l.length → A j) → I A vs w1 → Q .normal (putAll vs l 0 a) w1) :
    (Code.region id l.toArray true).wp P Q a w := by
  refine wp_region_inv hm (fun listed a' w' => ∃ vs A, (∀ j, A j ↔ At listed j) ∧ FInv l n a listed a' vs ∧ I A vs w') ?_ ?_ ?_
  · have hno : ∀ i, ¬ At (Array.replicate l.toArray.size false) i := fun i h => by
      unfold At at h
      rw [Array.getElem?_replicate] at h
      split at h <;> simp at h
    exact ⟨fun _ => undef, fun _ => False, fun j => ⟨fun h => h.elim, fun h => (hno _ h).elim⟩, ⟨rfl, hn, fun j o d _ _ h => (hno _ h).elim, fun t _ => rfl, fun j h => (hno _ h).elim, fun j o _ h => (hno _ h).elim⟩, h0⟩
  · intro listed a' w1 hsz ⟨vs, A, hA, h, hI⟩ i hmem
    obtain ⟨h1, h2, h3⟩ := ready_spec hmem
    have hil : i < l.length := by simpa using h1
    have hi : l[i]? = some l[i] := List.getElem?_eq_getElem hil
    obtain ⟨o, ho⟩ : ∃ o, l[i] = o := ⟨_, rfl⟩
    rw [ho] at hi
    have hia : l.toArray[i]? = some o := by simpa using hi
    have hsz' : listed.size = l.length := by simpa using hsz
    have hp : ∀ p ∈ predsR o, At listed p := by
      intro p hpp
      unfold predsR at hpp
      rw [List.mem_filterMap] at hpp
      obtain ⟨e, he, hb⟩ := hpp
      have h4 := h3 o hia
      rw [Array.all_eq_true_iff_forall_mem] at h4
      have := h4 e (by simpa using he)
      split at hb
      · rename_i hbb
        cases hb
        rw [hbb] at this
        simp only [Bool.not_true, Bool.false_or] at this
        unfold At
        rw [Array.getD_eq_getD_getElem?] at this
        exact this
      · cases hb
    have hna := not_at h2
    have OF := relC_spec hB hi
    have next : ∀ u w2, I (fun j => j = i ∨ A j) (upd vs i u) w2 → ∃ vs A, (∀ j, A j ↔ At (listed.setIfInBounds i true) j) ∧ FInv l n a (listed.setIfInBounds i true) (a'.put o.dst u) vs ∧ I A vs w2 :=
      fun u w2 hr => ⟨_, _, fun j => ⟨fun hj => hj.elim (fun e => e ▸ at_here (by omega)) (fun hj => at_mono ((hA j).1 hj)), fun hj => (at_set hj).elim .inl (fun hj => .inr ((hA j).2 hj))⟩, h.next hB (by omega) hi hna hp, hr⟩
    unfold wpOp
    simp only [hia]
    rcases hop i o hi A vs w1 (fun h => hna ((hA i).1 h)) (fun j o' hj hat p hpp => (hA p).2 (h.closed j o' hj ((hA j).1 hat) p hpp)) (fun j hj => (hA j).2 (hp j hj)) hI with ⟨hw, hr⟩ | ⟨hw, hr⟩
    · rw [if_pos ((h.yields hB hi hp).trans hw)]
      refine .inl ?_
      unfold Oper.wp
      rw [execOp_congr o OF.sel (h.agrees hB hn hi hna hp)]
      generalize (execOp (putAll vs (l.take i) 0 a).eval o).run P w1 = r at hr ⊢
      unfold relUpon at hr
      split at hr
      · exact next _ _ hr
      · exact next _ _ hr
      · simp only [Oper.upon_enter]
        refine Calls.mono hr ?_
        rintro e w2 ⟨u, rfl, hr⟩
        exact next _ _ hr
      · exact hr.elim
    · rw [if_neg (by rw [h.yields hB hi hp, hw]; simp)]
      exact next _ _ hr
  · intro listed a' w1 hsz ⟨vs, A, hA, h, hI⟩ hr
    have hsz' : listed.size = l.length := by simpa using hsz
    have hall : ∀ m i, i < m → i < l.length → At listed i := by
      intro m
      induction m with
      | zero => intro i hi; omega
      | succ m ih =>
        intro i hi hil
        have hio : l[i]? = some l[i] := List.getElem?_eq_getElem hil
        have OF := relC_spec hB hio
        refine ready_nil (by simp [hsz']) hr i l[i] (by simpa using hio) ?_
        rw [Array.all_eq_true_iff_forall_mem]
        intro e he
        cases hb : Region.binds .any e with
        | false => rfl
        | true =>
          have hpe : e.on ∈ predsR l[i] := by
            unfold predsR
            rw [List.mem_filterMap]
            exact ⟨e, by simpa using he, by simp [hb]⟩
          have hlt := OF.pred _ hpe
          have := ih e.on (by omega) (by omega)
          unfold At at this
          rw [Array.getD_eq_getD_getElem?]
          simpa using this
    have hat : ∀ i, i < l.length → At listed i := fun i hi => hall (i + 1) i (by omega) hi
    have hfr : a' = putAll vs l 0 a := by
      have hd : a'.defers = (putAll vs l 0 a).defers := by rw [h.defers, putAll_defers]
      have ht : a'.tmps = (putAll vs l 0 a).tmps := by
        apply Array.ext_getElem?
        intro t
        by_cases hex : ∃ (j : Nat) (o' : Oper), l[j]? = some o' ∧ o'.dst = some t
        · obtain ⟨j, o', hj, hd⟩ := hex
          have hjl : j < l.length := (List.getElem?_eq_some_iff.1 hj).1
          have OJ := relC_spec hB hj
          rw [h.here j o' t hj hd (hat j hjl), putAll_here vs l 0 a j o' hj hd (by rw [hn]; exact (OJ.dst t hd).1) (fun j' o'' hne ho => (OJ.dst t hd).2 j' o'' hne ho), Nat.zero_add]
        · rw [h.other t (fun j o' hj hd _ => hex ⟨j, o', hj, hd⟩), putAll_other vs l 0 a (fun o' ho hd => by
            obtain ⟨j, hj, he⟩ := List.mem_iff_getElem.1 ho
            exact hex ⟨j, o', by simp [← he, hj], hd⟩)]
      cases a'
      cases hq : putAll vs l 0 a
      rw [hq] at hd ht
      simp only at hd ht
      rw [hd, ht]
    rw [hfr]
    exact hQ A vs w1 (fun i hi => (hA i).2 (hat i hi)) hI

/-- two slices of the call's own do not lie in one block -/
def Apart (v v' : Value) : Prop := ∀ k, v.ownBlock = some k → v'.ownBlock ≠ some k
theorem Apart.symm {v v' : Value} (h : Apart v v') : Apart v' v := fun k h1 h2 => h k h2 h1
theorem Apart.nil (v : Value) : Apart v (.slice none 0 0) := fun k _ h => by cases h
theorem Apart.nil' (v : Value) : Apart (.slice none 0 0) v := fun k h => by cases h
/-- a new block -/
theorem Apart.fresh {T base : Nat} {w : World} {v v' : Value} {xs : List Value} (h : Own T base w v xs) (hv : v'.ownBlock = some w.heap.size) : Apart v v' := fun k h1 h2 => by
  have := (World.ownsRow.lt h k h1).2
  rw [hv] at h2
  cases h2
  omega
theorem Apart.at {T base : Nat} {w : World} {v v1 v2 : Value} {xs : List Value} (h : Own T base w v xs) (ha : Apart v v1) (hv : v2.ownBlock = v1.ownBlock ∨ v2.ownBlock = some w.heap.size) : Apart v v2 := by
  rcases hv with hv | hv
  · intro k h1 h2; rw [hv] at h2; exact ha k h1 h2
  · exact Apart.fresh h hv
theorem Own.apart_grown {T base : Nat} {w w' : World} {v v' : Value} {xs : List Value} (h : Own T base w v xs) (ha : Apart v v') (hg : w.grownBy w' v'.ownBlock) : Own T base w' v xs := by
  refine World.ownsRow.kept h hg ?_
  rcases hv : v.ownBlock with _ | k
  · exact Or.inl rfl
  · exact Or.inr (fun e => ha k hv e.symm)
theorem Own.touch {T base g : Nat} {w w' : World} {v : Value} {xs : List Value} (h : Own T base w v xs) (ht : Touch g w w') (hg : v.ownBlock ≠ some g) : Own T base w' v xs := by
  rcases h.form_ with ⟨rfl, rfl⟩ | ⟨g', cap, more, rfl, hg0, hl, hm, hc, hr⟩
  · exact World.ownsRow_nil _ _ _ _
  · exact Own.of_row (hr.touch ht (fun e => hg (by simp [Value.ownBlock, e]))) hg0 hm hc
theorem apart_types {T T' base base' : Nat} {w : World} {v v' : Value} {xs ys : List Value} (h : Own T base w v xs) (h' : Own T' base' w v' ys) (hne : T ≠ T') : Apart v v' := by
  rcases h.form_ with ⟨rfl, rfl⟩ | ⟨g, cap, more, rfl, _, _, _, _, hr⟩
  · exact Apart.nil' _
  · rcases h'.form_ with ⟨rfl, rfl⟩ | ⟨g', cap', more', rfl, _, _, _, _, hr'⟩
    · exact Apart.nil _
    · intro k h1 h2
      have e1 : g = k := by simpa [Value.ownBlock] using h1
      have e2 : g' = k := by simpa [Value.ownBlock] using h2
      subst e1
      exact (hr.ne_ hr' hne) e2.symm
/-- slices of the call's own, by names: no two of them lie in one block -/
structure Thing where
  T : TypeId
  v : Value
  xs : List Value
def Things (B : Nat) (w : World) (M : Nat → Option Thing) : Prop :=
  (∀ i t, M i = some t → Own t.T B w t.v t.xs) ∧ ∀ i j t s, i ≠ j → M i = some t → M j = some s → Apart t.v s.v
def setT (M : Nat → Option Thing) (i : Nat) (t : Thing) (j : Nat) : Option Thing := if j = i then some t else M j
theorem setT_here (M : Nat → Option Thing) (i : Nat) (t : Thing) : setT M i t i = some t := if_pos rfl
theorem setT_other {M : Nat → Option Thing} {i j : Nat} {t : Thing} (h : j ≠ i) : setT M i t j = M j := if_neg h
theorem Things.none (B : Nat) (w : World) : Things B w (fun _ => none) := ⟨(fun _ _ h => by cases h), (fun _ _ _ _ _ h => by cases h)⟩
theorem Things.own {B : Nat} {w : World} {M : Nat → Option Thing} {i : Nat} {t : Thing} (h : Things B w M) (hi : M i = some t) : Own t.T B w t.v t.xs := h.1 i t hi
theorem Things.below {B C : Nat} {w w' : World} {M : Nat → Option Thing} (h : Things B w M) (hb : Below C w w') (hC : w.heap.size ≤ C) : Things B w' M :=
  ⟨fun i t hi => (h.1 i t hi).below hb hC, h.2⟩
/-- a nil slice -/
theorem Things.nil {B T : Nat} {w : World} {M : Nat → Option Thing} (h : Things B w M) (i : Nat) : Things B w (setT M i ⟨T, .slice .none 0 0, []⟩) := by
  refine ⟨fun j t hj => ?_, fun j k t s hjk h1 h2 => ?_⟩
  · unfold setT at hj
    split at hj
    · cases hj; exact World.ownsRow_nil _ _ _ _
    · exact h.1 j t hj
  · unfold setT at h1 h2
    split at h1
    · cases h1; exact Apart.nil' _
    · split at h2
      · cases h2; exact Apart.nil _
      · exact h.2 j k t s hjk h1 h2
/-- a box with one cell, made last -/
theorem Things.box {B T : Nat} {w : World} {M : Nat → Option Thing} (h : Things B w M) (hB : B ≤ w.heap.size) (i : Nat) (u : Value) : Things B (w.alloc (.cells #[u] T)) (setT M i ⟨T, .slice (some ⟨w.heap.size, 0, .none⟩) 1 1, [u]⟩) := by
  refine ⟨fun j t hj => ?_, fun j k t s hjk h1 h2 => ?_⟩
  · unfold setT at hj
    split at hj
    · cases hj; exact Own.of_row (xs := [u]) (more := []) (row_new T w #[u]) hB (by unfold maxLen; omega) (by simp)
    · exact World.ownsRow.alloc (h.1 j t hj) _
  · unfold setT at h1 h2
    split at h1
    · cases h1
      split at h2
      · omega
      · exact (Apart.fresh (h.1 k s h2) rfl).symm
    · split at h2
      · cases h2; exact Apart.fresh (h.1 j t h1) rfl
      · exact h.2 j k t s hjk h1 h2
/-- one of them has grown -/
theorem Things.app {B T : Nat} {w w' : World} {M : Nat → Option Thing} {i : Nat} {v v' : Value} {xs ys : List Value} (h : Things B w M) (hi : M i = some ⟨T, v, xs⟩) (ho : Own T B w' v' ys) (hg : w.grownBy w' v.ownBlock) (hat : v'.ownBlock = v.ownBlock ∨ v'.ownBlock = some w.heap.size) :
    Things B w' (setT M i ⟨T, v', ys⟩) := by
  refine ⟨fun j t hj => ?_, fun j k t s hjk h1 h2 => ?_⟩
  · unfold setT at hj
    split at hj
    · cases hj; exact ho
    · rename_i hji
      exact Own.apart_grown (h.1 j t hj) (h.2 j i t _ hji hj hi) hg
  · unfold setT at h1 h2
    split at h1
    · rename_i e1
      cases h1
      split at h2
      · omega
      · rename_i e2
        exact (Apart.at (h.1 k s h2) (h.2 k i s _ e2 h2 hi) hat).symm
    · rename_i e1
      split at h2
      · cases h2
        exact Apart.at (h.1 j t h1) (h.2 j i t _ e1 h1 hi) hat
      · exact h.2 j k t s hjk h1 h2
/-- what a thing in a box is -/
theorem Things.box_row {B T g : Nat} {w : World} {M : Nat → Option Thing} {i : Nat} {u : Value} (h : Things B w M) (hi : M i = some ⟨T, .slice (some ⟨g, 0, .none⟩) 1 1, [u]⟩) : Row T w g [u] := Row.of_owns (h.1 i _ hi)
/-- 'append(out, u)' as an operation of a region, u in a box -/
theorem run_append_box {P : Program} {w : World} {o : Oper} {f : Operand → Value} {R : Value → World → Prop} (s x : Operand) (t : TypeId)
    (ho : o.op = .call { callee := .builtin .append, args := #[s, x], argTypes := #[t, t] })
    (e : TypeId) (z : Value) (bytes : Nat) (ht : P.underlying t = some (.slice e)) (hinfo : (P.info? e).map (fun i => (i.zero, i.size, i.bytes)) = some (some z, 1, bytes)) (hz : z.cells.size = 1) (hby : bytes ≤ 100)
    (base : Nat) (v : Value) (xs : List Value) (hs : f s = v) (hown : Own e base w v xs)
    (g : Nat) (u : Value) (hx : f x = .slice (some ⟨g, 0, none⟩) 1 1) (hrow : Row e w g [u]) (h1 : u.oneCell' = true) (hlen : xs.length ≤ 1000000) (hbase : base ≤ w.heap.size)
    (h : ∀ v' w', Own e base w' v' (xs ++ [u]) → w.grownBy w' v.ownBlock → (v'.ownBlock = v.ownBlock ∨ v'.ownBlock = some w.heap.size) → R v' w') :
    relUpon P R ((execOp f o).run P w) := by
  obtain ⟨i, hi, hz0, hz1, hz2⟩ := info_parts hinfo
  obtain ⟨v', w', hr, h2, h3, h4, h5⟩ := run_append_own_at (P := P) w base t o.type e i z 1 bytes ht hi hz0 hz1 hz2 hz (by decide) v xs.length xs hown ⟨g, 0, none⟩ 1 1 [u] (by simp) (by
    intro j y hj
    have hj1 : j < 1 := (List.getElem?_eq_some_iff.1 hj).1
    have : j = 0 := by omega
    subst this
    have := hrow.cell 0
    rw [add_none]; simpa using this.trans hj) (by intro y hy; simp at hy; subst hy; exact h1) (by simp [maxLen]; omega) (by
      have : (xs.length + 1) * bytes ≤ 1000001 * 100 := Nat.mul_le_mul (by omega) hby
      omega) hbase
  unfold execOp
  simp only [ho, resolve, invoke, builtin, Sem.run_bind, Sem.run_pure, Result.andThen_ok, List.map_toArray, List.map_cons, List.map_nil, hs, hx, hr]
  refine h v' w' ?_ h3 h5
  show w'.ownsRow base e 1 v' (xs ++ [u]).length (xs ++ [u])
  rw [List.length_append]; exact h2
/-- 'append(out, u)' in a plain walk: the element lies in a box of its own, made last; the others stay apart -/
theorem wpList_append_thing {P : Program} (W : World) {ops : Array Oper} {rest : List Oper} {o : Oper} {a : Act} {Q : Exit → Act → World → Prop} (hgd : o.guard = none) (s x : Operand) (t : TypeId)
    (ho : o.op = .call { callee := .builtin .append, args := #[s, x], argTypes := #[t, t] })
    (e : TypeId) (z : Value) (bytes : Nat) (ht : P.underlying t = some (.slice e)) (hinfo : (P.info? e).map (fun i => (i.zero, i.size, i.bytes)) = some (some z, 1, bytes)) (hz : z.cells.size = 1) (hby : bytes ≤ 100)
    (B n : Nat) (M : Nat → Option Thing) (v : Value) (xs : List Value) (hth : Things B W M) (hM : M n = some ⟨e, v, xs⟩) (hs : a.eval s = v)
    (u : Value) (hx : a.eval x = .slice (some ⟨W.heap.size, 0, none⟩) 1 1) (h1 : u.oneCell' = true) (hlen : xs.length ≤ 1000000) (hbase : B ≤ W.heap.size)
    (h : ∀ v' w', Things B w' (setT M n ⟨e, v', xs ++ [u]⟩) → Below B W w' → wpList P ops Q rest (a.put o.dst v') w') : wpList P ops Q (o :: rest) a (W.alloc (.cells #[u] e)) := by
  obtain ⟨i, hi, hz0, hz1, hz2⟩ := info_parts hinfo
  have hb : Below W.heap.size W (W.alloc (.cells #[u] e)) := (Below.refl _ _).alloc (Nat.le_refl _) _
  have hth1 := hth.below hb (Nat.le_refl _)
  refine wpList_append_own_at (W.alloc (.cells #[u] e)) hgd s x t ho B e i z 1 bytes ht hi hz0 hz1 hz2 hz (by decide) v xs.length xs hs (hth1.own hM) ⟨W.heap.size, 0, none⟩ 1 1 [u] hx (by simp) (cell_one_new _ _ _) (by intro y hy; simp at hy; subst hy; exact h1) (by simp [maxLen]; omega) (by
      have : (xs.length + 1) * bytes ≤ 1000001 * 100 := Nat.mul_le_mul (by omega) hby
      omega) (by simp; omega) ?_
  intro v' w' h2 h3 _ h5
  have hown : Own e B w' v' (xs ++ [u]) := by
    show w'.ownsRow B e 1 v' (xs ++ [u]).length (xs ++ [u])
    rw [List.length_append]; exact h2
  refine h v' w' (hth1.app hM hown h3 h5) ?_
  exact (hb.mono hbase).grown h3 (by simp; omega) (fun k hk => (World.ownsRow.lt (hth1.own hM) k hk).1)
/-- what becomes of an operation: a value that is known; that of another operation; a new box with a name; a slice of the call's own with a name, onto which what is in a box is appended -/
inductive Kg where
  | fix (v : Value)
  | same (j : Nat)
  | box (n : Nat) (T : TypeId) (u : Value)
  | app (n jb : Nat) (T : TypeId) (v : Value) (xs : List Value) (u : Value)
def Kg.name : Kg → Option Nat
  | .box n .. => some n
  | .app n .. => some n
  | _ => none
def kgB (l : List Oper) (ks : List Kg) : Bool :=
  ks.length == l.length && (List.range l.length).all fun i => match ks[i]?, l[i]? with
    | some k, some o => (match k with
        | .same j => (predsR o).contains j
        | .app _ jb _ _ _ _ => (predsR o).contains jb
        | _ => true) &&
      (List.range l.length).all (fun j => j == i || (match ks[j]? with | some k' => k.name.isNone || k.name != k'.name | none => true))
    | _, _ => true
/-- the box that is appended is one with the right cell -/
def appB (ks : List Kg) : Prop := ∀ (i n jb T : Nat) (v : Value) (xs : List Value) (u : Value), ks[i]? = some (.app n jb T v xs u) → ∃ nb, ks[jb]? = some (.box nb T u)
structure KgFacts (l : List Oper) (ks : List Kg) (i : Nat) (o : Oper) (k : Kg) : Prop where
  same : ∀ j, k = .same j → j ∈ predsR o
  app : ∀ n jb T v xs u, k = .app n jb T v xs u → jb ∈ predsR o
  name : ∀ n, k.name = some n → ∀ j k', j ≠ i → ks[j]? = some k' → k'.name ≠ some n
theorem kgB_spec {l : List Oper} {ks : List Kg} (h : kgB l ks = true) {i : Nat} {o : Oper} {k : Kg} (ho : l[i]? = some o) (hk : ks[i]? = some k) : KgFacts l ks i o k := by
  unfold kgB at h
  simp only [Bool.and_eq_true, beq_iff_eq] at h
  obtain ⟨hl, h⟩ := h
  rw [List.all_eq_true] at h
  have hi : i < l.length := (List.getElem?_eq_some_iff.1 ho).1
  have h := h i (List.mem_range.2 hi)
  rw [ho, hk] at h
  simp only [Bool.and_eq_true] at h
  obtain ⟨h1, h2⟩ := h
  refine ⟨fun j e => ?_, fun n jb T v xs u e => ?_, fun n hn j k' hj hk' e => ?_⟩
  · subst e; simpa [List.contains_iff_mem] using h1
  · subst e; simpa [List.contains_iff_mem] using h1
  · rw [List.all_eq_true] at h2
    have hjl : j < l.length := by rw [← hl]; exact (List.getElem?_eq_some_iff.1 hk').1
    have := h2 j (List.mem_range.2 hjl)
    rw [hk', hn] at this
    simp only [e] at this
    simp [hj] at this
/-- what is known of the operations, once those of A have come -/
def Gk (A : Nat → Prop) (v : Nat → Value) (M : Nat → Option Thing) (j : Nat) : Kg → Prop
  | .fix x => A j → v j = x
  | .same i => A j → v j = v i
  | .box n T u => A j → ∃ g, v j = .slice (some ⟨g, 0, none⟩) 1 1 ∧ M n = some ⟨T, .slice (some ⟨g, 0, none⟩) 1 1, [u]⟩
  | .app n _ T x xs u => (¬ A j → M n = some ⟨T, x, xs⟩) ∧ (A j → M n = some ⟨T, v j, xs ++ [u]⟩)
/-- what an operation must yield -/
def FixR (x : Value) (w1 : World) (u : Value) (w2 : World) : Prop := u = x ∧ Below w1.heap.size w1 w2
def BoxR (T : TypeId) (x : Value) (w1 : World) (u : Value) (w2 : World) : Prop := u = .slice (some ⟨w1.heap.size, 0, none⟩) 1 1 ∧ w2 = w1.alloc (.cells #[x] T)
def AppR (T B : Nat) (x : Value) (ys : List Value) (w1 : World) (u : Value) (w2 : World) : Prop := Own T B w2 u ys ∧ w1.grownBy w2 x.ownBlock ∧ (u.ownBlock = x.ownBlock ∨ u.ownBlock = some w1.heap.size)
def Ob (B : Nat) (P : Program) (v : Nat → Value) (w1 : World) (r : Result Next) : Kg → Prop
  | .fix x => relUpon P (FixR x w1) r
  | .same j => relUpon P (FixR (v j) w1) r
  | .box _ T x => relUpon P (BoxR T x w1) r
  | .app _ jb T x xs y => ∀ g, v jb = .slice (some ⟨g, 0, none⟩) 1 1 → Row T w1 g [y] → Own T B w1 x xs → relUpon P (AppR T B x (xs ++ [y]) w1) r
theorem relUpon_mono {P : Program} {R R' : Value → World → Prop} {r : Result Next} (h : relUpon P R r) (hm : ∀ u w, R u w → R' u w) : relUpon P R' r := by
  unfold relUpon at *
  split at h
  · exact hm _ _ h
  · exact hm _ _ h
  · exact Calls.mono h (fun e w' ⟨u, e1, h1⟩ => ⟨u, e1, hm _ _ h1⟩)
  · exact h.elim
/-- the value that is known of a predecessor -/
def Kv (v : Nat → Value) (j : Nat) : Option Kg → Prop
  | some (.fix x) => v j = x
  | some (.same i) => v j = v i
  | _ => True
def wantKg (ks : List Kg) (o : Oper) : Option Bool :=
  match o.guard with
  | none => some true
  | some (j, want) => match ks[j]? with
    | some (.fix (.bool b)) => some (b == want)
    | _ => none
/-- A region that draws its order, whose operations read, make boxes with one cell and append them to slices of the call's own. -/
theorem wp_region_things {P : Program} {id : Nat} {l : List Oper} {Q : Exit → Act → World → Prop} {a : Act} {w : World} (hm : P.follows .mixedOrders = true) (n : Nat) (hn : a.tmps.size = n) (hB : relC l n = true)
    (ks : List Kg) (hK : kgB l ks = true) (hA : appB ks) (B : Nat) (W0 : World) (hb0 : Below B W0 w) (hBW : B ≤ W0.heap.size) (M0 : Nat → Option Thing) (hT : Things B w M0)
    (hM : ∀ (j n jb T : Nat) (x : Value) (xs : List Value) (u : Value), ks[j]? = some (.app n jb T x xs u) → M0 n = some ⟨T, x, xs⟩)
    (hop : ∀ i o k, l[i]? = some o → ks[i]? = some k → ∀ v w1, Below B W0 w1 → (∀ j ∈ predsR o, Kv v j ks[j]?) →
      (wantKg ks o = some true ∧ Ob B P v w1 ((execOp (putAll v (l.take i) 0 a).eval o).run P w1) k) ∨ (wantKg ks o = some false ∧ k = .fix undef))
    (hQ : ∀ v w1 M, Below B W0 w1 → Things B w1 M → (∀ j k, ks[j]? = some k → Gk (fun _ => True) v M j k) → (∀ n, (∀ (j : Nat) k, ks[j]? = some k → k.name ≠ some n) → M n = M0 n) → Q .normal (putAll v l 0 a) w1) :
    (Code.region id l.toArray true).wp P Q a w := by
  have hlen : ks.length = l.length := by unfold kgB at hK; simp only [Bool.and_eq_true, beq_iff_eq] at hK; exact hK.1
  refine wp_region_gen hm n hn hB (fun A v w1 => Below B W0 w1 ∧ ∃ M, Things B w1 M ∧ (∀ j k, ks[j]? = some k → Gk A v M j k) ∧ (∀ n, (∀ (j : Nat) k, ks[j]? = some k → k.name ≠ some n) → M n = M0 n)) ?_ ?_ ?_
  · refine ⟨hb0.drew, M0, hT.below ((Below.refl w.heap.size w).drew) (Nat.le_refl _), fun j k hk => ?_, fun _ _ => rfl⟩
    cases k with
    | fix x => exact fun h => h.elim
    | same i => exact fun h => h.elim
    | box n T u => exact fun h => h.elim
    | app n jb T x xs u => exact ⟨fun _ => hM j n jb T x xs u hk, fun h => h.elim⟩
  · intro i o hi A v w1 hni hcl hp ⟨hb, M, hth, hG, hO⟩
    have hil : i < l.length := (List.getElem?_eq_some_iff.1 hi).1
    obtain ⟨k, hk⟩ : ∃ k, ks[i]? = some k := ⟨ks[i], List.getElem?_eq_getElem (by omega)⟩
    have KF := kgB_spec hK hi hk
    have hBw1 : B ≤ w1.heap.size := Nat.le_trans hBW hb.size
    have hkv : ∀ j ∈ predsR o, Kv v j ks[j]? := fun j hj => by
      unfold Kv
      split
      · rename_i x e; exact hG j _ e (hp j hj)
      · rename_i i' e; exact hG j _ e (hp j hj)
      · trivial
    -- what was known of the others is known still
    have keep : ∀ (u : Value) (M' : Nat → Option Thing), (∀ n, (∃ j k', j ≠ i ∧ ks[j]? = some k' ∧ k'.name = some n) → M' n = M n) → ∀ j k', j ≠ i → ks[j]? = some k' → Gk (fun j => j = i ∨ A j) (upd v i u) M' j k' := by
      intro u M' hM' j k' hji hk'
      have hg := hG j k' hk'
      have hjl : j < l.length := by rw [← hlen]; exact (List.getElem?_eq_some_iff.1 hk').1
      have KJ := kgB_spec hK (List.getElem?_eq_getElem hjl) hk'
      cases k' with
      | fix x => exact fun h => by rw [upd_other hji]; exact hg (h.resolve_left hji)
      | same i' =>
        intro h
        have h' := h.resolve_left hji
        have hii : i' ≠ i := fun e => hni (e ▸ hcl j _ (List.getElem?_eq_getElem hjl) h' i' (KJ.same i' rfl))
        rw [upd_other hji, upd_other hii]; exact hg h'
      | box n T x =>
        intro h
        obtain ⟨g, e1, e2⟩ := hg (h.resolve_left hji)
        exact ⟨g, by rw [upd_other hji]; exact e1, (hM' n ⟨j, _, hji, hk', rfl⟩).trans e2⟩
      | app n jb T x xs y =>
        have e := hM' n ⟨j, _, hji, hk', rfl⟩
        exact ⟨fun h => e.trans (hg.1 (fun h' => h (.inr h'))), fun h => by rw [upd_other hji]; exact e.trans (hg.2 (h.resolve_left hji))⟩
    have whole : ∀ (u : Value) (M' : Nat → Option Thing), (∀ n, (∃ j k', j ≠ i ∧ ks[j]? = some k' ∧ k'.name = some n) → M' n = M n) → Gk (fun j => j = i ∨ A j) (upd v i u) M' i k → ∀ j k', ks[j]? = some k' → Gk (fun j => j = i ∨ A j) (upd v i u) M' j k' := by
      intro u M' hM' hg j k' hk'
      by_cases hji : j = i
      · subst hji; rw [hk] at hk'; cases hk'; exact hg
      · exact keep u M' hM' j k' hji hk'
    have guard : ∀ b, wantKg ks o = some b → wantG v o = b := fun b hw => by
      have OF := relC_spec hB hi
      unfold wantKg at hw
      unfold wantG
      split at hw
      · cases hw; rfl
      · rename_i j want hg
        split at hw
        · rename_i c hc
          have := hG j _ hc (hp j (OF.guard j want hg).1)
          simp only [this]
          cases hw; rfl
        · cases hw
    rcases hop i o k hi hk v w1 hb hkv with ⟨hw, hr⟩ | ⟨hw, hu⟩
    · refine .inl ⟨guard true hw, ?_⟩
      cases k with
      | fix x =>
        refine relUpon_mono hr fun u w2 ⟨hu, hb2⟩ => ⟨hb.trans (hb2.mono hBw1), M, hth.below hb2 (Nat.le_refl _), ?_, hO⟩
        exact whole u M (fun _ _ => rfl) (fun _ => by rw [upd_here]; exact hu)
      | same i' =>
        have hii : i' ≠ i := fun e => hni (hp i (e ▸ KF.same i' rfl))
        refine relUpon_mono hr fun u w2 ⟨hu, hb2⟩ => ⟨hb.trans (hb2.mono hBw1), M, hth.below hb2 (Nat.le_refl _), ?_, hO⟩
        exact whole u M (fun _ _ => rfl) (fun _ => by rw [upd_here, upd_other hii]; exact hu)
      | box n T x =>
        refine relUpon_mono hr fun u w2 ⟨hu, hw2⟩ => ?_
        subst hw2
        refine ⟨hb.alloc hBw1 _, setT M n ⟨T, .slice (some ⟨w1.heap.size, 0, none⟩) 1 1, [x]⟩, hth.box hBw1 n x, ?_, fun n' hn' => ?_⟩
        · refine whole u _ (fun n' ⟨j, k', hji, hk', hn'⟩ => setT_other (fun e => KF.name n rfl j k' hji hk' (e ▸ hn'))) (fun _ => ⟨w1.heap.size, by rw [upd_here]; exact hu, setT_here _ _ _⟩)
        · rw [setT_other (fun e => hn' i _ hk (by rw [e]; rfl))]; exact hO n' hn'
      | app n jb T x xs y =>
        obtain ⟨nb, hkb⟩ := hA i n jb T x xs y hk
        obtain ⟨g, e1, e2⟩ := hG jb _ hkb (hp jb (KF.app n jb T x xs y rfl))
        have hMn := (hG i _ hk).1 hni
        refine relUpon_mono (hr g e1 (hth.box_row e2) (hth.own hMn)) fun u w2 ⟨ho, hg, hat⟩ => ?_
        have hown := hth.own hMn
        refine ⟨hb.grown hg hBw1 (fun k hk => (World.ownsRow.lt hown k hk).1), setT M n ⟨T, u, xs ++ [y]⟩, hth.app hMn ho hg hat, ?_, fun n' hn' => ?_⟩
        · refine whole u _ (fun n' ⟨j, k', hji, hk', hn'⟩ => setT_other (fun e => KF.name n rfl j k' hji hk' (e ▸ hn'))) ⟨fun h => (h (.inl rfl)).elim, fun _ => by rw [upd_here]; exact setT_here _ _ _⟩
        · rw [setT_other (fun e => hn' i _ hk (by rw [e]; rfl))]; exact hO n' hn'
    · refine .inr ⟨guard false hw, hb, M, hth, ?_, hO⟩
      subst hu
      exact whole undef M (fun _ _ => rfl) (fun _ => by rw [upd_here])
  · intro A v w1 hall ⟨hb, M, hth, hG, hO⟩
    refine hQ v w1 M hb hth (fun j k hk => ?_) hO
    have hj : A j := hall j (by rw [← hlen]; exact (List.getElem?_eq_some_iff.1 hk).1)
    have hg := hG j k hk
    cases k with
    | fix x => exact fun _ => hg hj
    | same i => exact fun _ => hg hj
    | box n T u => exact fun _ => hg hj
    | app n jb T x xs u => exact ⟨fun h => (h trivial).elim, fun _ => hg.2 hj⟩
end Go.Proofs.YthbfgmgpploneaaDoor
