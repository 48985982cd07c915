/- The bidders of a set, what they get and what the others pay, as lists that grow. -/
/- A region that draws: an invariant of one's own, said of the set of operations that have come and of their values. -/
/- The program's isCore and IsCore, given what isBlocked answers. -/
/- The program's isBlocked. -/
import Derived.Test.YthbfgmgpploneaaDoorG3
import Derived.Test.YthbfgmgpploneaaDoorQR
import Derived.Maps.AppendAt
set_option linter.unusedVariables false
set_option linter.unusedSimpArgs false
set_option linter.unnecessarySimpa false
namespace Go.Proofs.YthbfgmgpploneaaDoor
open Go.RowKit

/-- of the first k: the bidders of a set, what they are offered, and what the others pay -/
def selT (set : Nat) (bids : List (List Int)) : Nat → List (List Int)
  | 0 => []
  | k + 1 => if bt set k = true then selT set bids k ++ [bids.getD k []] else selT set bids k
def inT (set : Nat) (l : List Int) : Nat → List Int
  | 0 => []
  | k + 1 => if bt set k = true then inT set l k ++ [l.getD k 0] else inT set l k
def outT (set : Nat) (l : List Int) : Nat → List Int
  | 0 => []
  | k + 1 => if bt set k = true then outT set l k else outT set l k ++ [l.getD k 0]
theorem sel_snoc (who : Nat) (b : List Int) : ∀ (bs : List (List Int)) (j : Nat), sel who j (bs ++ [b]) = sel who j bs ++ (if bt who (j + bs.length) = true then [b] else [])
  | [], j => by
    show sel who j [b] = _
    unfold sel
    simp only [List.length_nil, Nat.add_zero]
    unfold sel
    rfl
  | c :: bs, j => by
    have ih := sel_snoc who b bs (j + 1)
    have e : j + 1 + bs.length = j + (c :: bs).length := by simp; omega
    rw [e] at ih
    show sel who j (c :: (bs ++ [b])) = sel who j (c :: bs) ++ _
    have e1 : sel who j (c :: (bs ++ [b])) = if bt who j = true then c :: sel who (j + 1) (bs ++ [b]) else sel who (j + 1) (bs ++ [b]) := rfl
    have e2 : sel who j (c :: bs) = if bt who j = true then c :: sel who (j + 1) bs else sel who (j + 1) bs := rfl
    rw [e1, e2, ih]
    split <;> simp
theorem selT_take (set : Nat) (bids : List (List Int)) (k : Nat) (hk : k ≤ bids.length) : selT set bids k = sel set 0 (bids.take k) := by
  induction k with
  | zero => simp [selT, sel]
  | succ k ih =>
    have hk' : k < bids.length := by omega
    rw [List.take_succ_eq_append_getElem hk', sel_snoc, ← ih (by omega), Nat.zero_add, List.length_take, Nat.min_eq_left (by omega)]
    have e : bids.getD k [] = bids[k] := by rw [List.getD_eq_getElem?_getD, List.getElem?_eq_getElem hk']; rfl
    simp only [selT, e]
    split <;> simp
theorem selT_sel (set : Nat) (bids : List (List Int)) : selT set bids bids.length = sel set 0 bids := by
  rw [selT_take _ _ _ (Nat.le_refl _), List.take_length]
theorem selT_in {set : Nat} {bids : List (List Int)} {k : Nat} (h : bt set k = true) : selT set bids (k + 1) = selT set bids k ++ [bids.getD k []] := if_pos h
theorem selT_out {set : Nat} {bids : List (List Int)} {k : Nat} (h : bt set k = false) : selT set bids (k + 1) = selT set bids k := if_neg (by rw [h]; decide)
theorem inT_in {set : Nat} {l : List Int} {k : Nat} (h : bt set k = true) : inT set l (k + 1) = inT set l k ++ [l.getD k 0] := if_pos h
theorem inT_out {set : Nat} {l : List Int} {k : Nat} (h : bt set k = false) : inT set l (k + 1) = inT set l k := if_neg (by rw [h]; decide)
theorem outT_in {set : Nat} {l : List Int} {k : Nat} (h : bt set k = true) : outT set l (k + 1) = outT set l k := if_pos h
theorem outT_out {set : Nat} {l : List Int} {k : Nat} (h : bt set k = false) : outT set l (k + 1) = outT set l k ++ [l.getD k 0] := if_neg (by rw [h]; decide)
theorem selT_len (set : Nat) (bids : List (List Int)) (k : Nat) : (selT set bids k).length ≤ k := by
  induction k with
  | zero => simp [selT]
  | succ k ih => simp only [selT]; split <;> first | (simp; omega) | omega
theorem inT_len (set : Nat) (l : List Int) (k : Nat) : (inT set l k).length ≤ k := by
  induction k with
  | zero => simp [inT]
  | succ k ih => simp only [inT]; split <;> first | (simp; omega) | omega
theorem outT_len (set : Nat) (l : List Int) (k : Nat) : (outT set l k).length ≤ k := by
  induction k with
  | zero => simp [outT]
  | succ k ih => simp only [outT]; split <;> first | (simp; omega) | omega
theorem selT_mem {set : Nat} {bids : List (List Int)} {k : Nat} (hk : k ≤ bids.length) : ∀ b ∈ selT set bids k, b ∈ bids := by
  induction k with
  | zero => simp [selT]
  | succ k ih =>
    intro b hb
    simp only [selT] at hb
    have hk' : k < bids.length := by omega
    split at hb
    · rcases List.mem_append.1 hb with h | h
      · exact ih (by omega) b h
      · have e : bids.getD k [] = bids[k] := by rw [List.getD_eq_getElem?_getD, List.getElem?_eq_getElem hk']; rfl
        rw [List.mem_singleton.1 h, e]
        exact List.getElem_mem hk'
    · exact ih (by omega) b hb
theorem offers_sel {m set : Nat} {bids : List (List Int)} (h : Offers m bids) : Offers m (selT set bids bids.length) := fun b hb => h b (selT_mem (Nat.le_refl _) b hb)
theorem addTo_append (a b : List Int) (k : Nat) (hk : k ≤ a.length) : addTo (a ++ b) k = addTo a k := by
  induction k with
  | zero => rfl
  | succ k ih =>
    simp only [addTo]
    rw [ih (by omega), List.getD_eq_getElem?_getD, List.getD_eq_getElem?_getD, List.getElem?_append_left (by omega)]
theorem addTo_snoc (a : List Int) (x : Int) : addTo (a ++ [x]) (a ++ [x]).length = addTo a a.length + x := by
  have e : (a ++ [x]).length = a.length + 1 := by simp
  rw [e]
  simp only [addTo]
  rw [addTo_append _ _ _ (Nat.le_refl _), List.getD_eq_getElem?_getD, List.getElem?_append_right (Nat.le_refl _)]
  simp
theorem inT_sum {bids : List (List Int)} {l : List Int} (set : Nat) (k : Nat) (hk : k ≤ l.length) : addTo (inT set (offP bids l) k) (inT set (offP bids l) k).length = ownTo bids l set k := by
  induction k with
  | zero => rfl
  | succ k ih =>
    cases hb : bt set k with
    | true =>
      rw [inT_in hb, addTo_snoc, ih (by omega), ownTo_in hb, offP_get _ _ _ (by omega)]
      rfl
    | false => rw [inT_out hb, ih (by omega), ownTo_out hb]
theorem outT_sum {p : List Int} (set : Nat) (k : Nat) : addTo (outT set p k) (outT set p k).length = restTo p set k := by
  induction k with
  | zero => rfl
  | succ k ih =>
    cases hb : bt set k with
    | true => rw [outT_in hb, ih, restTo_in hb]
    | false => rw [outT_out hb, addTo_snoc, ih, restTo_out hb]
theorem getD_snoc_bd {a : List Int} {x B : Int} (ha : ∀ i, 0 ≤ a.getD i 0 ∧ a.getD i 0 ≤ B) (hx : 0 ≤ x ∧ x ≤ B) : ∀ i, 0 ≤ (a ++ [x]).getD i 0 ∧ (a ++ [x]).getD i 0 ≤ B := fun i => by
  rw [List.getD_eq_getElem?_getD]
  rcases Nat.lt_trichotomy i a.length with h | h | h
  · rw [List.getElem?_append_left h, ← List.getD_eq_getElem?_getD]; exact ha i
  · subst h; rw [List.getElem?_append_right (Nat.le_refl _)]; simpa using hx
  · rw [List.getElem?_eq_none (by simp; omega)]
    show 0 ≤ (0 : Int) ∧ (0 : Int) ≤ B
    omega
theorem inT_bd {l : List Int} {B : Int} (hB : 0 ≤ B) (h : ∀ i, 0 ≤ l.getD i 0 ∧ l.getD i 0 ≤ B) (set : Nat) (k : Nat) : ∀ i, 0 ≤ (inT set l k).getD i 0 ∧ (inT set l k).getD i 0 ≤ B := by
  induction k with
  | zero => intro i; simp [inT]; exact hB
  | succ k ih =>
    simp only [inT]; split
    · exact getD_snoc_bd ih (h k)
    · exact ih
theorem outT_bd {l : List Int} {B : Int} (hB : 0 ≤ B) (h : ∀ i, 0 ≤ l.getD i 0 ∧ l.getD i 0 ≤ B) (set : Nat) (k : Nat) : ∀ i, 0 ≤ (outT set l k).getD i 0 ∧ (outT set l k).getD i 0 ≤ B := by
  induction k with
  | zero => intro i; simp [outT]; exact hB
  | succ k ih =>
    simp only [outT]; split
    · exact ih
    · exact getD_snoc_bd ih (h k)
/-- a slice of the call's own that holds slices of integers, which lie wherever they do -/
def OwnR (T base : Nat) (w : World) (v : Value) (rows : List (List Int)) : Prop :=
  ∃ vs, vs.length = rows.length ∧ Own T base w v vs ∧ ∀ i u, vs[i]? = some u → Sl w u (ints (rows.getD i []))
theorem OwnR.mat {T base : Nat} {w : World} {v : Value} {rows : List (List Int)} (h : OwnR T base w v rows) : Mat w v rows := by
  obtain ⟨vs, hl, hs, hr⟩ := h
  exact ⟨vs, hl, hs.sl, hr⟩

/-- which operations may be taken in whatever order: what an operation reads was written by one that it waits for, or is written by one that waits for it -/
def relC (l : List Oper) (n : Nat) : Bool :=
  (List.range l.length).all fun i => match l[i]? with
    | some o => (predsR o).all (fun j => decide (j < i)) &&
      (match o.dst with
        | some d => decide (d < n) && (List.range l.length).all (fun j => j == i || !dstIsR l d j)
        | none => true) &&
      (opTmpsR o).all (fun t => (List.range l.length).all fun j => !dstIsR l t j || (predsR o).contains j || (match l[j]? with | some p => (predsR p).contains i | none => false)) &&
      (match o.guard with
        | some (g, _) => (predsR o).contains g && (match l[g]? with | some p => p.dst.isSome | none => false)
        | none => true) &&
      (match o.op with | .select .. => false | _ => true)
    | none => true
structure OpC (l : List Oper) (n : Nat) (i : Nat) (o : Oper) : Prop where
  pred : ∀ j ∈ predsR o, j < i
  dst : ∀ d, o.dst = some d → d < n ∧ ∀ j o', j ≠ i → l[j]? = some o' → o'.dst ≠ some d
  tmp : ∀ t ∈ opTmpsR o, ∀ j o', l[j]? = some o' → o'.dst = some t → j ∈ predsR o ∨ i ∈ predsR o'
  guard : ∀ g b, o.guard = some (g, b) → g ∈ predsR o ∧ ∃ p d, l[g]? = some p ∧ p.dst = some d
  sel : ∀ cs b, o.op ≠ .select cs b
theorem relC_spec {l : List Oper} {n : Nat} (h : relC l n = true) {i : Nat} {o : Oper} (ho : l[i]? = some o) : OpC l n i o := by
  unfold relC at h
  rw [List.all_eq_true] at h
  have hi : i < l.length := (List.getElem?_eq_some_iff.1 ho).1
  have h := h i (List.mem_range.2 hi)
  rw [ho] at h
  simp only [Bool.and_eq_true] at h
  obtain ⟨⟨⟨⟨h1, h2⟩, h3⟩, h4⟩, h5⟩ := h
  refine ⟨fun j hj => ?_, fun d hd => ?_, fun t ht j o' hj hd => ?_, fun g b hg => ?_, fun cs b hc => ?_⟩
  · rw [List.all_eq_true] at h1; simpa using h1 j hj
  · rw [hd] at h2
    simp only [Bool.and_eq_true, decide_eq_true_eq, List.all_eq_true, List.mem_range, Bool.or_eq_true, beq_iff_eq, Bool.not_eq_true'] at h2
    refine ⟨h2.1, fun j o' hj ho' hd' => ?_⟩
    rcases h2.2 j (List.getElem?_eq_some_iff.1 ho').1 with h | h
    · exact hj h
    · rw [dstIsR_iff.2 ⟨o', ho', hd'⟩] at h; cases h
  · simp only [List.all_eq_true, List.mem_range, Bool.or_eq_true, Bool.not_eq_true', List.contains_iff_mem] at h3
    rcases h3 t ht j (List.getElem?_eq_some_iff.1 hj).1 with (h | h) | h
    · rw [dstIsR_iff.2 ⟨o', hj, hd⟩] at h; cases h
    · exact .inl h
    · rw [hj] at h; exact .inr (by simpa [List.contains_iff_mem] using h)
  · rw [hg] at h4
    simp only [Bool.and_eq_true, List.contains_iff_mem] at h4
    refine ⟨h4.1, ?_⟩
    have h5 := h4.2
    split at h5
    · rename_i p hp
      obtain ⟨d, hd⟩ := Option.isSome_iff_exists.1 h5
      exact ⟨p, d, hp, hd⟩
    · cases h5
  · rw [hc] at h5; cases h5
/-- the frame: each operation that has come has left its value -/
structure FInv (l : List Oper) (n : Nat) (a : Act) (listed : Array Bool) (a' : Act) (vs : Nat → Value) : Prop where
  defers : a'.defers = a.defers
  size : a'.tmps.size = n
  here : ∀ j o d, l[j]? = some o → o.dst = some d → At listed j → a'.tmps[d]? = some (vs j)
  other : ∀ t, (∀ j o, l[j]? = some o → o.dst = some t → ¬ At listed j) → a'.tmps[t]? = a.tmps[t]?
  inside : ∀ j, At listed j → j < l.length
  closed : ∀ j o, l[j]? = some o → At listed j → ∀ p ∈ predsR o, At listed p
theorem FInv.next {l : List Oper} {n : Nat} {a : Act} {listed : Array Bool} {a' : Act} {vs : Nat → Value} {i : Nat} {o : Oper} {u : Value}
    (hB : relC l n = true) (hsz : i < listed.size) (h : FInv l n a listed a' vs) (hi : l[i]? = some o) (hn : ¬ At listed i) (hp : ∀ p ∈ predsR o, At listed p) : FInv l n a (listed.setIfInBounds i true) (a'.put o.dst u) (upd vs i u) := by
  have OF := relC_spec hB hi
  refine ⟨by rw [put_defers]; exact h.defers, by rw [put_size]; exact h.size, fun j o' d hj hd hat => ?_, fun t ht => ?_, fun j hat => ?_, fun j o' hj hat p hpp => ?_⟩
  · by_cases hji : j = i
    · subst hji
      rw [hi] at hj; cases hj
      rw [hd, put_here (by rw [h.size]; exact (OF.dst d hd).1), upd_here]
    · have hat' := (at_set hat).resolve_left hji
      rw [put_other (fun e => (OF.dst d e).2 j o' hji hj hd), upd_other hji]
      exact h.here j o' d hj hd hat'
  · rw [put_other (fun e => ht i o hi e (at_here hsz))]
    exact h.other t fun j o' hj hd hat => ht j o' hj hd (at_mono hat)
  · rcases at_set hat with rfl | hat
    · exact (List.getElem?_eq_some_iff.1 hi).1
    · exact h.inside j hat
  · rcases at_set hat with rfl | hat
    · rw [hi] at hj; cases hj
      exact at_mono (hp p hpp)
    · exact at_mono (h.closed j o' hj hat p hpp)
theorem take_get {l : List Oper} {i j : Nat} {o : Oper} (h : (l.take i)[j]? = some o) : j < i ∧ l[j]? = some o := by
  have h1 := (List.getElem?_eq_some_iff.1 h).1
  rw [List.length_take] at h1
  have h2 : j < i := by omega
  rw [List.getElem?_take_of_lt h2] at h
  exact ⟨h2, h⟩
theorem FInv.agrees {l : List Oper} {n : Nat} {a : Act} {listed : Array Bool} {a' : Act} {vs : Nat → Value} (hB : relC l n = true) (hn : a.tmps.size = n)
    (h : FInv l n a listed a' vs) {i : Nat} {o : Oper} (hi : l[i]? = some o) (hni : ¬ At listed i) (hp : ∀ p ∈ predsR o, At listed p) : ∀ x ∈ o.op.operands, a'.eval x = (putAll vs (l.take i) 0 a).eval x := by
  have OF := relC_spec hB hi
  have hil : i < l.length := (List.getElem?_eq_some_iff.1 hi).1
  intro x hx
  cases x with
  | tmp t =>
    show a'.tmps.getD t undef = (putAll vs (l.take i) 0 a).tmps.getD t undef
    rw [Array.getD_eq_getD_getElem?, Array.getD_eq_getD_getElem?]
    have ht : t ∈ opTmpsR o := by
      unfold opTmpsR
      rw [List.mem_filterMap]
      exact ⟨.tmp t, by simpa using hx, rfl⟩
    by_cases hex : ∃ (j : Nat) (o' : Oper), l[j]? = some o' ∧ o'.dst = some t
    · obtain ⟨j, o', hj, hd⟩ := hex
      have OJ := relC_spec hB hj
      rcases OF.tmp t ht j o' hj hd with hpj | hip
      · have hat := hp j hpj
        have hji := OF.pred j hpj
        have hjt : (l.take i)[j]? = some o' := by rw [List.getElem?_take_of_lt hji]; exact hj
        rw [h.here j o' t hj hd hat, putAll_here vs (l.take i) 0 a j o' hjt hd (by rw [hn]; exact (OJ.dst t hd).1) (fun j' o'' hne ho => (OJ.dst t hd).2 j' o'' hne (take_get ho).2), Nat.zero_add]
      · have hij := OJ.pred i hip
        have hnj : ¬ At listed j := fun hat => hni (h.closed j o' hj hat i hip)
        rw [h.other t (fun k o'' hk hd' hat => by
          by_cases hkj : k = j
          · subst hkj; exact hnj hat
          · exact (OJ.dst t hd).2 k o'' hkj hk hd'), putAll_other vs (l.take i) 0 a (fun o'' ho hd' => by
          obtain ⟨k, hk, he⟩ := List.mem_iff_getElem.1 ho
          have hk' : (l.take i)[k]? = some o'' := by rw [List.getElem?_eq_getElem hk, he]
          obtain ⟨hki, hkl⟩ := take_get hk'
          exact (OJ.dst t hd).2 k o'' (by omega) hkl hd')]
    · rw [h.other t (fun j o' hj hd _ => hex ⟨j, o', hj, hd⟩), putAll_other vs (l.take i) 0 a (fun o' ho hd => by
        obtain ⟨j, hj, he⟩ := List.mem_iff_getElem.1 ho
        have hj' : (l.take i)[j]? = some o' := by rw [List.getElem?_eq_getElem hj, he]
        exact hex ⟨j, o', (take_get hj').2, hd⟩)]
  | const v => rfl
  | global g => rfl
  | func f => rfl
/-- does an operation with a guard come, by the values -/
def wantG (vs : Nat → Value) (o : Oper) : Bool :=
  match o.guard with
  | none => true
  | some (j, want) => match vs j with
    | .bool b => b == want
    | _ => false
theorem FInv.yields {l : List Oper} {n : Nat} {a : Act} {listed : Array Bool} {a' : Act} {vs : Nat → Value} (hB : relC l n = true)
    (h : FInv l n a listed a' vs) {i : Nat} {o : Oper} (hi : l[i]? = some o) (hp : ∀ p ∈ predsR o, At listed p) : Region.wanted o (yielded l.toArray a'.tmps) = wantG vs o := by
  have OF := relC_spec hB hi
  unfold wantG Region.wanted
  cases hg : o.guard with
  | none => rfl
  | some gw =>
    obtain ⟨j, want⟩ := gw
    obtain ⟨hpj, p, d, hpd, hd⟩ := OF.guard j want hg
    have ht := h.here j p d hpd hd (hp j hpj)
    have hj : l.toArray[j]? = some p := by simpa using hpd
    have : yielded l.toArray a'.tmps j = (match vs j with | .bool b => some b | _ => none) := by
      unfold yielded
      simp only [hj, hd, Option.bind_some, ht]
      cases vs j <;> rfl
    simp only [this]
    cases vs j with
    | bool b => cases b <;> cases want <;> rfl
    | _ => rfl
/-- A region that draws its order, by an invariant over the set of operations that have come, their values and the world. -/
theorem wp_region_gen {P : Program} {id : Nat} {l : List Oper} {Q : Exit → Act → World → Prop} {a : Act} {w : World} (hm : P.follows .mixedOrders = true) (n : Nat) (hn : a.tmps.size = n) (hB : relC l n = true)
    (I : (Nat → Prop) → (Nat → Value) → World → Prop) (h0 : I (fun _ => False) (fun _ => undef) w.drew)
    (hop : ∀ i o, l[i]? = some o → ∀ (A : Nat → Prop) vs w1, ¬ A i → (∀ j o', l[j]? = some o' → A j → ∀ p ∈ predsR o', A p) → (∀ j ∈ predsR o, A j) → I A vs w1 →
      (wantG vs o = true ∧ relUpon P (fun u w2 => I (fun j => j = i ∨ A j) (upd vs i u) w2) ((execOp (putAll vs (l.take i) 0 a).eval o).run P w1)) ∨ (wantG vs o = false ∧ I (fun j => j = i ∨ A j) (upd vs i undef) w1))
    (hQ : ∀ (A : Nat → Prop) vs w1, (∀ j, j < l.length → A j) → I A vs w1 → Q .normal (putAll vs l 0 a) w1) :
    (Code.region id l.toArray true).wp P Q a w := by
  refine wp_region_inv hm (fun listed a' w' => ∃ vs A, (∀ j, A j ↔ At listed j) ∧ FInv l n a listed a' vs ∧ I A vs w') ?_ ?_ ?_
  · have hno : ∀ i, ¬ At (Array.replicate l.toArray.size false) i := fun i h => by
      unfold At at h
      rw [Array.getElem?_replicate] at h
      split at h <;> simp at h
    exact ⟨fun _ => undef, fun _ => False, fun j => ⟨fun h => h.elim, fun h => (hno _ h).elim⟩, ⟨rfl, hn, fun j o d _ _ h => (hno _ h).elim, fun t _ => rfl, fun j h => (hno _ h).elim, fun j o _ h => (hno _ h).elim⟩, h0⟩
  · intro listed a' w1 hsz ⟨vs, A, hA, h, hI⟩ i hmem
    obtain ⟨h1, h2, h3⟩ := ready_spec hmem
    have hil : i < l.length := by simpa using h1
    have hi : l[i]? = some l[i] := List.getElem?_eq_getElem hil
    obtain ⟨o, ho⟩ : ∃ o, l[i] = o := ⟨_, rfl⟩
    rw [ho] at hi
    have hia : l.toArray[i]? = some o := by simpa using hi
    have hsz' : listed.size = l.length := by simpa using hsz
    have hp : ∀ p ∈ predsR o, At listed p := by
      intro p hpp
      unfold predsR at hpp
      rw [List.mem_filterMap] at hpp
      obtain ⟨e, he, hb⟩ := hpp
      have h4 := h3 o hia
      rw [Array.all_eq_true_iff_forall_mem] at h4
      have := h4 e (by simpa using he)
      split at hb
      · rename_i hbb
        cases hb
        rw [hbb] at this
        simp only [Bool.not_true, Bool.false_or] at this
        unfold At
        rw [Array.getD_eq_getD_getElem?] at this
        exact this
      · cases hb
    have hna := not_at h2
    have OF := relC_spec hB hi
    have next : ∀ u w2, I (fun j => j = i ∨ A j) (upd vs i u) w2 → ∃ vs A, (∀ j, A j ↔ At (listed.setIfInBounds i true) j) ∧ FInv l n a (listed.setIfInBounds i true) (a'.put o.dst u) vs ∧ I A vs w2 :=
      fun u w2 hr => ⟨_, _, fun j => ⟨fun hj => hj.elim (fun e => e ▸ at_here (by omega)) (fun hj => at_mono ((hA j).1 hj)), fun hj => (at_set hj).elim .inl (fun hj => .inr ((hA j).2 hj))⟩, h.next hB (by omega) hi hna hp, hr⟩
    unfold wpOp
    simp only [hia]
    rcases hop i o hi A vs w1 (fun h => hna ((hA i).1 h)) (fun j o' hj hat p hpp => (hA p).2 (h.closed j o' hj ((hA j).1 hat) p hpp)) (fun j hj => (hA j).2 (hp j hj)) hI with ⟨hw, hr⟩ | ⟨hw, hr⟩
    · rw [if_pos ((h.yields hB hi hp).trans hw)]
      refine .inl ?_
      unfold Oper.wp
      rw [execOp_congr o OF.sel (h.agrees hB hn hi hna hp)]
      generalize (execOp (putAll vs (l.take i) 0 a).eval o).run P w1 = r at hr ⊢
      unfold relUpon at hr
      split at hr
      · exact next _ _ hr
      · exact next _ _ hr
      · simp only [Oper.upon_enter]
        refine Calls.mono hr ?_
        rintro e w2 ⟨u, rfl, hr⟩
        exact next _ _ hr
      · exact hr.elim
    · rw [if_neg (by rw [h.yields hB hi hp, hw]; simp)]
      exact next _ _ hr
  · intro listed a' w1 hsz ⟨vs, A, hA, h, hI⟩ hr
    have hsz' : listed.size = l.length := by simpa using hsz
    have hall : ∀ m i, i < m → i < l.length → At listed i := by
      intro m
      induction m with
      | zero => intro i hi; omega
      | succ m ih =>
        intro i hi hil
        have hio : l[i]? = some l[i] := List.getElem?_eq_getElem hil
        have OF := relC_spec hB hio
        refine ready_nil (by simp [hsz']) hr i l[i] (by simpa using hio) ?_
        rw [Array.all_eq_true_iff_forall_mem]
        intro e he
        cases hb : Region.binds .any e with
        | false => rfl
        | true =>
          have hpe : e.on ∈ predsR l[i] := by
            unfold predsR
            rw [List.mem_filterMap]
            exact ⟨e, by simpa using he, by simp [hb]⟩
          have hlt := OF.pred _ hpe
          have := ih e.on (by omega) (by omega)
          unfold At at this
          rw [Array.getD_eq_getD_getElem?]
          simpa using this
    have hat : ∀ i, i < l.length → At listed i := fun i hi => hall (i + 1) i (by omega) hi
    have hfr : a' = putAll vs l 0 a := by
      have hd : a'.defers = (putAll vs l 0 a).defers := by rw [h.defers, putAll_defers]
      have ht : a'.tmps = (putAll vs l 0 a).tmps := by
        apply Array.ext_getElem?
        intro t
        by_cases hex : ∃ (j : Nat) (o' : Oper), l[j]? = some o' ∧ o'.dst = some t
        · obtain ⟨j, o', hj, hd⟩ := hex
          have hjl : j < l.length := (List.getElem?_eq_some_iff.1 hj).1
          have OJ := relC_spec hB hj
          rw [h.here j o' t hj hd (hat j hjl), putAll_here vs l 0 a j o' hj hd (by rw [hn]; exact (OJ.dst t hd).1) (fun j' o'' hne ho => (OJ.dst t hd).2 j' o'' hne ho), Nat.zero_add]
        · rw [h.other t (fun j o' hj hd _ => hex ⟨j, o', hj, hd⟩), putAll_other vs l 0 a (fun o' ho hd => by
            obtain ⟨j, hj, he⟩ := List.mem_iff_getElem.1 ho
            exact hex ⟨j, o', by simp [← he, hj], hd⟩)]
      cases a'
      cases hq : putAll vs l 0 a
      rw [hq] at hd ht
      simp only at hd ht
      rw [hd, ht]
    rw [hfr]
    exact hQ A vs w1 (fun i hi => (hA i).2 (hat i hi)) hI

/-- two slices of the call's own do not lie in one block -/
def Apart (v v' : Value) : Prop := ∀ k, v.ownBlock = some k → v'.ownBlock ≠ some k
theorem Apart.symm {v v' : Value} (h : Apart v v') : Apart v' v := fun k h1 h2 => h k h2 h1
theorem Apart.nil (v : Value) : Apart v (.slice none 0 0) := fun k _ h => by cases h
theorem Apart.nil' (v : Value) : Apart (.slice none 0 0) v := fun k h => by cases h
/-- a new block -/
theorem Apart.fresh {T base : Nat} {w : World} {v v' : Value} {xs : List Value} (h : Own T base w v xs) (hv : v'.ownBlock = some w.heap.size) : Apart v v' := fun k h1 h2 => by
  have := (World.ownsRow.lt h k h1).2
  rw [hv] at h2
  cases h2
  omega
theorem Apart.at {T base : Nat} {w : World} {v v1 v2 : Value} {xs : List Value} (h : Own T base w v xs) (ha : Apart v v1) (hv : v2.ownBlock = v1.ownBlock ∨ v2.ownBlock = some w.heap.size) : Apart v v2 := by
  rcases hv with hv | hv
  · intro k h1 h2; rw [hv] at h2; exact ha k h1 h2
  · exact Apart.fresh h hv
theorem Own.apart_grown {T base : Nat} {w w' : World} {v v' : Value} {xs : List Value} (h : Own T base w v xs) (ha : Apart v v') (hg : w.grownBy w' v'.ownBlock) : Own T base w' v xs := by
  refine World.ownsRow.kept h hg ?_
  rcases hv : v.ownBlock with _ | k
  · exact Or.inl rfl
  · exact Or.inr (fun e => ha k hv e.symm)
theorem Own.touch {T base g : Nat} {w w' : World} {v : Value} {xs : List Value} (h : Own T base w v xs) (ht : Touch g w w') (hg : v.ownBlock ≠ some g) : Own T base w' v xs := by
  rcases h.form_ with ⟨rfl, rfl⟩ | ⟨g', cap, more, rfl, hg0, hl, hm, hc, hr⟩
  · exact World.ownsRow_nil _ _ _ _
  · exact Own.of_row (hr.touch ht (fun e => hg (by simp [Value.ownBlock, e]))) hg0 hm hc
theorem apart_types {T T' base base' : Nat} {w : World} {v v' : Value} {xs ys : List Value} (h : Own T base w v xs) (h' : Own T' base' w v' ys) (hne : T ≠ T') : Apart v v' := by
  rcases h.form_ with ⟨rfl, rfl⟩ | ⟨g, cap, more, rfl, _, _, _, _, hr⟩
  · exact Apart.nil' _
  · rcases h'.form_ with ⟨rfl, rfl⟩ | ⟨g', cap', more', rfl, _, _, _, _, hr'⟩
    · exact Apart.nil _
    · intro k h1 h2
      have e1 : g = k := by simpa [Value.ownBlock] using h1
      have e2 : g' = k := by simpa [Value.ownBlock] using h2
      subst e1
      exact (hr.ne_ hr' hne) e2.symm
/-- slices of the call's own, by names: no two of them lie in one block -/
structure Thing where
  T : TypeId
  v : Value
  xs : List Value
def Things (B : Nat) (w : World) (M : Nat → Option Thing) : Prop :=
  (∀ i t, M i = some t → Own t.T B w t.v t.xs) ∧ ∀ i j t s, i ≠ j → M i = some t → M j = some s → Apart t.v s.v
def setT (M : Nat → Option Thing) (i : Nat) (t : Thing) (j : Nat) : Option Thing := if j = i then some t else M j
theorem setT_here (M : Nat → Option Thing) (i : Nat) (t : Thing) : setT M i t i = some t := if_pos rfl
theorem setT_other {M : Nat → Option Thing} {i j : Nat} {t : Thing} (h : j ≠ i) : setT M i t j = M j := if_neg h
theorem Things.none (B : Nat) (w : World) : Things B w (fun _ => none) := ⟨(fun _ _ h => by cases h), (fun _ _ _ _ _ h => by cases h)⟩
theorem Things.own {B : Nat} {w : World} {M : Nat → Option Thing} {i : Nat} {t : Thing} (h : Things B w M) (hi : M i = some t) : Own t.T B w t.v t.xs := h.1 i t hi
theorem Things.below {B C : Nat} {w w' : World} {M : Nat → Option Thing} (h : Things B w M) (hb : Below C w w') (hC : w.heap.size ≤ C) : Things B w' M :=
  ⟨fun i t hi => (h.1 i t hi).below hb hC, h.2⟩
/-- a nil slice -/
theorem Things.nil {B T : Nat} {w : World} {M : Nat → Option Thing} (h : Things B w M) (i : Nat) : Things B w (setT M i ⟨T, .slice .none 0 0, []⟩) := by
  refine ⟨fun j t hj => ?_, fun j k t s hjk h1 h2 => ?_⟩
  · unfold setT at hj
    split at hj
    · cases hj; exact World.ownsRow_nil _ _ _ _
    · exact h.1 j t hj
  · unfold setT at h1 h2
    split at h1
    · cases h1; exact Apart.nil' _
    · split at h2
      · cases h2; exact Apart.nil _
      · exact h.2 j k t s hjk h1 h2
/-- a box with one cell, made last -/
theorem Things.box {B T : Nat} {w : World} {M : Nat → Option Thing} (h : Things B w M) (hB : B ≤ w.heap.size) (i : Nat) (u : Value) : Things B (w.alloc (.cells #[u] T)) (setT M i ⟨T, .slice (some ⟨w.heap.size, 0, .none⟩) 1 1, [u]⟩) := by
  refine ⟨fun j t hj => ?_, fun j k t s hjk h1 h2 => ?_⟩
  · unfold setT at hj
    split at hj
    · cases hj; exact Own.of_row (xs := [u]) (more := []) (row_new T w #[u]) hB (by unfold maxLen; omega) (by simp)
    · exact World.ownsRow.alloc (h.1 j t hj) _
  · unfold setT at h1 h2
    split at h1
    · cases h1
      split at h2
      · omega
      · exact (Apart.fresh (h.1 k s h2) rfl).symm
    · split at h2
      · cases h2; exact Apart.fresh (h.1 j t h1) rfl
      · exact h.2 j k t s hjk h1 h2
/-- one of them has grown -/
theorem Things.app {B T : Nat} {w w' : World} {M : Nat → Option Thing} {i : Nat} {v v' : Value} {xs ys : List Value} (h : Things B w M) (hi : M i = some ⟨T, v, xs⟩) (ho : Own T B w' v' ys) (hg : w.grownBy w' v.ownBlock) (hat : v'.ownBlock = v.ownBlock ∨ v'.ownBlock = some w.heap.size) :
    Things B w' (setT M i ⟨T, v', ys⟩) := by
  refine ⟨fun j t hj => ?_, fun j k t s hjk h1 h2 => ?_⟩
  · unfold setT at hj
    split at hj
    · cases hj; exact ho
    · rename_i hji
      exact Own.apart_grown (h.1 j t hj) (h.2 j i t _ hji hj hi) hg
  · unfold setT at h1 h2
    split at h1
    · rename_i e1
      cases h1
      split at h2
      · omega
      · rename_i e2
        exact (Apart.at (h.1 k s h2) (h.2 k i s _ e2 h2 hi) hat).symm
    · rename_i e1
      split at h2
      · cases h2
        exact Apart.at (h.1 j t h1) (h.2 j i t _ e1 h1 hi) hat
      · exact h.2 j k t s hjk h1 h2
/-- what a thing in a box is -/
theorem Things.box_row {B T g : Nat} {w : World} {M : Nat → Option Thing} {i : Nat} {u : Value} (h : Things B w M) (hi : M i = some ⟨T, .slice (some ⟨g, 0, .none⟩) 1 1, [u]⟩) : Row T w g [u] := Row.of_owns (h.1 i _ hi)
/-- 'append(out, u)' as an operation of a region, u in a box -/
theorem run_append_box {P : Program} {w : World} {o : Oper} {f : Operand → Value} {R : Value → World → Prop} (s x : Operand) (t : TypeId)
    (ho : o.op = .call { callee := .builtin .append, args := #[s, x], argTypes := #[t, t] })
    (e : TypeId) (z : Value) (bytes : Nat) (ht : P.underlying t = some (.slice e)) (hinfo : (P.info? e).map (fun i => (i.zero, i.size, i.bytes)) = some (some z, 1, bytes)) (hz : z.cells.size = 1) (hby : bytes ≤ 100)
    (base : Nat) (v : Value) (xs : List Value) (hs : f s = v) (hown : Own e base w v xs)
    (g : Nat) (u : Value) (hx : f x = .slice (some ⟨g, 0, none⟩) 1 1) (hrow : Row e w g [u]) (h1 : u.oneCell' = true) (hlen : xs.length ≤ 1000000) (hbase : base ≤ w.heap.size)
    (h : ∀ v' w', Own e base w' v' (xs ++ [u]) → w.grownBy w' v.ownBlock → (v'.ownBlock = v.ownBlock ∨ v'.ownBlock = some w.heap.size) → R v' w') :
    relUpon P R ((execOp f o).run P w) := by
  obtain ⟨i, hi, hz0, hz1, hz2⟩ := info_parts hinfo
  obtain ⟨v', w', hr, h2, h3, h4, h5⟩ := run_append_own_at (P := P) w base t o.type e i z 1 bytes ht hi hz0 hz1 hz2 hz (by decide) v xs.length xs hown ⟨g, 0, none⟩ 1 1 [u] (by simp) (by
    intro j y hj
    have hj1 : j < 1 := (List.getElem?_eq_some_iff.1 hj).1
    have : j = 0 := by omega
    subst this
    have := hrow.cell 0
    rw [add_none]; simpa using this.trans hj) (by intro y hy; simp at hy; subst hy; exact h1) (by simp [maxLen]; omega) (by
      have : (xs.length + 1) * bytes ≤ 1000001 * 100 := Nat.mul_le_mul (by omega) hby
      omega) hbase
  unfold execOp
  simp only [ho, resolve, invoke, builtin, Sem.run_bind, Sem.run_pure, Result.andThen_ok, List.map_toArray, List.map_cons, List.map_nil, hs, hx, hr]
  refine h v' w' ?_ h3 h5
  show w'.ownsRow base e 1 v' (xs ++ [u]).length (xs ++ [u])
  rw [List.length_append]; exact h2
/-- 'append(out, u)' in a plain walk: the element lies in a box of its own, made last; the others stay apart -/
theorem wpList_append_thing {P : Program} (W : World) {ops : Array Oper} {rest : List Oper} {o : Oper} {a : Act} {Q : Exit → Act → World → Prop} (hgd : o.guard = none) (s x : Operand) (t : TypeId)
    (ho : o.op = .call { callee := .builtin .append, args := #[s, x], argTypes := #[t, t] })
    (e : TypeId) (z : Value) (bytes : Nat) (ht : P.underlying t = some (.slice e)) (hinfo : (P.info? e).map (fun i => (i.zero, i.size, i.bytes)) = some (some z, 1, bytes)) (hz : z.cells.size = 1) (hby : bytes ≤ 100)
    (B n : Nat) (M : Nat → Option Thing) (v : Value) (xs : List Value) (hth : Things B W M) (hM : M n = some ⟨e, v, xs⟩) (hs : a.eval s = v)
    (u : Value) (hx : a.eval x = .slice (some ⟨W.heap.size, 0, none⟩) 1 1) (h1 : u.oneCell' = true) (hlen : xs.length ≤ 1000000) (hbase : B ≤ W.heap.size)
    (h : ∀ v' w', Things B w' (setT M n ⟨e, v', xs ++ [u]⟩) → Below B W w' → wpList P ops Q rest (a.put o.dst v') w') : wpList P ops Q (o :: rest) a (W.alloc (.cells #[u] e)) := by
  obtain ⟨i, hi, hz0, hz1, hz2⟩ := info_parts hinfo
  have hb : Below W.heap.size W (W.alloc (.cells #[u] e)) := (Below.refl _ _).alloc (Nat.le_refl _) _
  have hth1 := hth.below hb (Nat.le_refl _)
  refine wpList_append_own_at (W.alloc (.cells #[u] e)) hgd s x t ho B e i z 1 bytes ht hi hz0 hz1 hz2 hz (by decide) v xs.length xs hs (hth1.own hM) ⟨W.heap.size, 0, none⟩ 1 1 [u] hx (by simp) (cell_one_new _ _ _) (by intro y hy; simp at hy; subst hy; exact h1) (by simp [maxLen]; omega) (by
      have : (xs.length + 1) * bytes ≤ 1000001 * 100 := Nat.mul_le_mul (by omega) hby
      omega) (by simp; omega) ?_
  intro v' w' h2 h3 _ h5
  have hown : Own e B w' v' (xs ++ [u]) := by
    show w'.ownsRow B e 1 v' (xs ++ [u]).length (xs ++ [u])
    rw [List.length_append]; exact h2
  refine h v' w' (hth1.app hM hown h3 h5) ?_
  exact (hb.mono hbase).grown h3 (by simp; omega) (fun k hk => (World.ownsRow.lt (hth1.own hM) k hk).1)
/-- what becomes of an operation: a value that is known; that of another operation; a new box with a name; a slice of the call's own with a name, onto which what is in a box is appended -/
inductive Kg where
  | fix (v : Value)
  | same (j : Nat)
  | box (n : Nat) (T : TypeId) (u : Value)
  | app (n jb : Nat) (T : TypeId) (v : Value) (xs : List Value) (u : Value)
def Kg.name : Kg → Option Nat
  | .box n .. => some n
  | .app n .. => some n
  | _ => none
def kgB (l : List Oper) (ks : List Kg) : Bool :=
  ks.length == l.length && (List.range l.length).all fun i => match ks[i]?, l[i]? with
    | some k, some o => (match k with
        | .same j => (predsR o).contains j
        | .app _ jb _ _ _ _ => (predsR o).contains jb
        | _ => true) &&
      (List.range l.length).all (fun j => j == i || (match ks[j]? with | some k' => k.name.isNone || k.name != k'.name | none => true))
    | _, _ => true
/-- the box that is appended is one with the right cell -/
def appB (ks : List Kg) : Prop := ∀ (i n jb T : Nat) (v : Value) (xs : List Value) (u : Value), ks[i]? = some (.app n jb T v xs u) → ∃ nb, ks[jb]? = some (.box nb T u)
structure KgFacts (l : List Oper) (ks : List Kg) (i : Nat) (o : Oper) (k : Kg) : Prop where
  same : ∀ j, k = .same j → j ∈ predsR o
  app : ∀ n jb T v xs u, k = .app n jb T v xs u → jb ∈ predsR o
  name : ∀ n, k.name = some n → ∀ j k', j ≠ i → ks[j]? = some k' → k'.name ≠ some n
theorem kgB_spec {l : List Oper} {ks : List Kg} (h : kgB l ks = true) {i : Nat} {o : Oper} {k : Kg} (ho : l[i]? = some o) (hk : ks[i]? = some k) : KgFacts l ks i o k := by
  unfold kgB at h
  simp only [Bool.and_eq_true, beq_iff_eq] at h
  obtain ⟨hl, h⟩ := h
  rw [List.all_eq_true] at h
  have hi : i < l.length := (List.getElem?_eq_some_iff.1 ho).1
  have h := h i (List.mem_range.2 hi)
  rw [ho, hk] at h
  simp only [Bool.and_eq_true] at h
  obtain ⟨h1, h2⟩ := h
  refine ⟨fun j e => ?_, fun n jb T v xs u e => ?_, fun n hn j k' hj hk' e => ?_⟩
  · subst e; simpa [List.contains_iff_mem] using h1
  · subst e; simpa [List.contains_iff_mem] using h1
  · rw [List.all_eq_true] at h2
    have hjl : j < l.length := by rw [← hl]; exact (List.getElem?_eq_some_iff.1 hk').1
    have := h2 j (List.mem_range.2 hjl)
    rw [hk', hn] at this
    simp only [e] at this
    simp [hj] at this
/-- what is known of the operations, once those of A have come -/
def Gk (A : Nat → Prop) (v : Nat → Value) (M : Nat → Option Thing) (j : Nat) : Kg → Prop
  | .fix x => A j → v j = x
  | .same i => A j → v j = v i
  | .box n T u => A j → ∃ g, v j = .slice (some ⟨g, 0, none⟩) 1 1 ∧ M n = some ⟨T, .slice (some ⟨g, 0, none⟩) 1 1, [u]⟩
  | .app n _ T x xs u => (¬ A j → M n = some ⟨T, x, xs⟩) ∧ (A j → M n = some ⟨T, v j, xs ++ [u]⟩)
/-- what an operation must yield -/
def FixR (x : Value) (w1 : World) (u : Value) (w2 : World) : Prop := u = x ∧ Below w1.heap.size w1 w2
def BoxR (T : TypeId) (x : Value) (w1 : World) (u : Value) (w2 : World) : Prop := u = .slice (some ⟨w1.heap.size, 0, none⟩) 1 1 ∧ w2 = w1.alloc (.cells #[x] T)
def AppR (T B : Nat) (x : Value) (ys : List Value) (w1 : World) (u : Value) (w2 : World) : Prop := Own T B w2 u ys ∧ w1.grownBy w2 x.ownBlock ∧ (u.ownBlock = x.ownBlock ∨ u.ownBlock = some w1.heap.size)
def Ob (B : Nat) (P : Program) (v : Nat → Value) (w1 : World) (r : Result Next) : Kg → Prop
  | .fix x => relUpon P (FixR x w1) r
  | .same j => relUpon P (FixR (v j) w1) r
  | .box _ T x => relUpon P (BoxR T x w1) r
  | .app _ jb T x xs y => ∀ g, v jb = .slice (some ⟨g, 0, none⟩) 1 1 → Row T w1 g [y] → Own T B w1 x xs → relUpon P (AppR T B x (xs ++ [y]) w1) r
theorem relUpon_mono {P : Program} {R R' : Value → World → Prop} {r : Result Next} (h : relUpon P R r) (hm : ∀ u w, R u w → R' u w) : relUpon P R' r := by
  unfold relUpon at *
  split at h
  · exact hm _ _ h
  · exact hm _ _ h
  · exact Calls.mono h (fun e w' ⟨u, e1, h1⟩ => ⟨u, e1, hm _ _ h1⟩)
  · exact h.elim
/-- the value that is known of a predecessor -/
def Kv (v : Nat → Value) (j : Nat) : Option Kg → Prop
  | some (.fix x) => v j = x
  | some (.same i) => v j = v i
  | _ => True
def wantKg (ks : List Kg) (o : Oper) : Option Bool :=
  match o.guard with
  | none => some true
  | some (j, want) => match ks[j]? with
    | some (.fix (.bool b)) => some (b == want)
    | _ => none
/-- A region that draws its order, whose operations read, make boxes with one cell and append them to slices of the call's own. -/
theorem wp_region_things {P : Program} {id : Nat} {l : List Oper} {Q : Exit → Act → World → Prop} {a : Act} {w : World} (hm : P.follows .mixedOrders = true) (n : Nat) (hn : a.tmps.size = n) (hB : relC l n = true)
    (ks : List Kg) (hK : kgB l ks = true) (hA : appB ks) (B : Nat) (W0 : World) (hb0 : Below B W0 w) (hBW : B ≤ W0.heap.size) (M0 : Nat → Option Thing) (hT : Things B w M0)
    (hM : ∀ (j n jb T : Nat) (x : Value) (xs : List Value) (u : Value), ks[j]? = some (.app n jb T x xs u) → M0 n = some ⟨T, x, xs⟩)
    (hop : ∀ i o k, l[i]? = some o → ks[i]? = some k → ∀ v w1, Below B W0 w1 → (∀ j ∈ predsR o, Kv v j ks[j]?) →
      (wantKg ks o = some true ∧ Ob B P v w1 ((execOp (putAll v (l.take i) 0 a).eval o).run P w1) k) ∨ (wantKg ks o = some false ∧ k = .fix undef))
    (hQ : ∀ v w1 M, Below B W0 w1 → Things B w1 M → (∀ j k, ks[j]? = some k → Gk (fun _ => True) v M j k) → (∀ n, (∀ (j : Nat) k, ks[j]? = some k → k.name ≠ some n) → M n = M0 n) → Q .normal (putAll v l 0 a) w1) :
    (Code.region id l.toArray true).wp P Q a w := by
  have hlen : ks.length = l.length := by unfold kgB at hK; simp only [Bool.and_eq_true, beq_iff_eq] at hK; exact hK.1
  refine wp_region_gen hm n hn hB (fun A v w1 => Below B W0 w1 ∧ ∃ M, Things B w1 M ∧ (∀ j k, ks[j]? = some k → Gk A v M j k) ∧ (∀ n, (∀ (j : Nat) k, ks[j]? = some k → k.name ≠ some n) → M n = M0 n)) ?_ ?_ ?_
  · refine ⟨hb0.drew, M0, hT.below ((Below.refl w.heap.size w).drew) (Nat.le_refl _), fun j k hk => ?_, fun _ _ => rfl⟩
    cases k with
    | fix x => exact fun h => h.elim
    | same i => exact fun h => h.elim
    | box n T u => exact fun h => h.elim
    | app n jb T x xs u => exact ⟨fun _ => hM j n jb T x xs u hk, fun h => h.elim⟩
  · intro i o hi A v w1 hni hcl hp ⟨hb, M, hth, hG, hO⟩
    have hil : i < l.length := (List.getElem?_eq_some_iff.1 hi).1
    obtain ⟨k, hk⟩ : ∃ k, ks[i]? = some k := ⟨ks[i], List.getElem?_eq_getElem (by omega)⟩
    have KF := kgB_spec hK hi hk
    have hBw1 : B ≤ w1.heap.size := Nat.le_trans hBW hb.size
    have hkv : ∀ j ∈ predsR o, Kv v j ks[j]? := fun j hj => by
      unfold Kv
      split
      · rename_i x e; exact hG j _ e (hp j hj)
      · rename_i i' e; exact hG j _ e (hp j hj)
      · trivial
    -- what was known of the others is known still
    have keep : ∀ (u : Value) (M' : Nat → Option Thing), (∀ n, (∃ j k', j ≠ i ∧ ks[j]? = some k' ∧ k'.name = some n) → M' n = M n) → ∀ j k', j ≠ i → ks[j]? = some k' → Gk (fun j => j = i ∨ A j) (upd v i u) M' j k' := by
      intro u M' hM' j k' hji hk'
      have hg := hG j k' hk'
      have hjl : j < l.length := by rw [← hlen]; exact (List.getElem?_eq_some_iff.1 hk').1
      have KJ := kgB_spec hK (List.getElem?_eq_getElem hjl) hk'
      cases k' with
      | fix x => exact fun h => by rw [upd_other hji]; exact hg (h.resolve_left hji)
      | same i' =>
        intro h
        have h' := h.resolve_left hji
        have hii : i' ≠ i := fun e => hni (e ▸ hcl j _ (List.getElem?_eq_getElem hjl) h' i' (KJ.same i' rfl))
        rw [upd_other hji, upd_other hii]; exact hg h'
      | box n T x =>
        intro h
        obtain ⟨g, e1, e2⟩ := hg (h.resolve_left hji)
        exact ⟨g, by rw [upd_other hji]; exact e1, (hM' n ⟨j, _, hji, hk', rfl⟩).trans e2⟩
      | app n jb T x xs y =>
        have e := hM' n ⟨j, _, hji, hk', rfl⟩
        exact ⟨fun h => e.trans (hg.1 (fun h' => h (.inr h'))), fun h => by rw [upd_other hji]; exact e.trans (hg.2 (h.resolve_left hji))⟩
    have whole : ∀ (u : Value) (M' : Nat → Option Thing), (∀ n, (∃ j k', j ≠ i ∧ ks[j]? = some k' ∧ k'.name = some n) → M' n = M n) → Gk (fun j => j = i ∨ A j) (upd v i u) M' i k → ∀ j k', ks[j]? = some k' → Gk (fun j => j = i ∨ A j) (upd v i u) M' j k' := by
      intro u M' hM' hg j k' hk'
      by_cases hji : j = i
      · subst hji; rw [hk] at hk'; cases hk'; exact hg
      · exact keep u M' hM' j k' hji hk'
    have guard : ∀ b, wantKg ks o = some b → wantG v o = b := fun b hw => by
      have OF := relC_spec hB hi
      unfold wantKg at hw
      unfold wantG
      split at hw
      · cases hw; rfl
      · rename_i j want hg
        split at hw
        · rename_i c hc
          have := hG j _ hc (hp j (OF.guard j want hg).1)
          simp only [this]
          cases hw; rfl
        · cases hw
    rcases hop i o k hi hk v w1 hb hkv with ⟨hw, hr⟩ | ⟨hw, hu⟩
    · refine .inl ⟨guard true hw, ?_⟩
      cases k with
      | fix x =>
        refine relUpon_mono hr fun u w2 ⟨hu, hb2⟩ => ⟨hb.trans (hb2.mono hBw1), M, hth.below hb2 (Nat.le_refl _), ?_, hO⟩
        exact whole u M (fun _ _ => rfl) (fun _ => by rw [upd_here]; exact hu)
      | same i' =>
        have hii : i' ≠ i := fun e => hni (hp i (e ▸ KF.same i' rfl))
        refine relUpon_mono hr fun u w2 ⟨hu, hb2⟩ => ⟨hb.trans (hb2.mono hBw1), M, hth.below hb2 (Nat.le_refl _), ?_, hO⟩
        exact whole u M (fun _ _ => rfl) (fun _ => by rw [upd_here, upd_other hii]; exact hu)
      | box n T x =>
        refine relUpon_mono hr fun u w2 ⟨hu, hw2⟩ => ?_
        subst hw2
        refine ⟨hb.alloc hBw1 _, setT M n ⟨T, .slice (some ⟨w1.heap.size, 0, none⟩) 1 1, [x]⟩, hth.box hBw1 n x, ?_, fun n' hn' => ?_⟩
        · refine whole u _ (fun n' ⟨j, k', hji, hk', hn'⟩ => setT_other (fun e => KF.name n rfl j k' hji hk' (e ▸ hn'))) (fun _ => ⟨w1.heap.size, by rw [upd_here]; exact hu, setT_here _ _ _⟩)
        · rw [setT_other (fun e => hn' i _ hk (by rw [e]; rfl))]; exact hO n' hn'
      | app n jb T x xs y =>
        obtain ⟨nb, hkb⟩ := hA i n jb T x xs y hk
        obtain ⟨g, e1, e2⟩ := hG jb _ hkb (hp jb (KF.app n jb T x xs y rfl))
        have hMn := (hG i _ hk).1 hni
        refine relUpon_mono (hr g e1 (hth.box_row e2) (hth.own hMn)) fun u w2 ⟨ho, hg, hat⟩ => ?_
        have hown := hth.own hMn
        refine ⟨hb.grown hg hBw1 (fun k hk => (World.ownsRow.lt hown k hk).1), setT M n ⟨T, u, xs ++ [y]⟩, hth.app hMn ho hg hat, ?_, fun n' hn' => ?_⟩
        · refine whole u _ (fun n' ⟨j, k', hji, hk', hn'⟩ => setT_other (fun e => KF.name n rfl j k' hji hk' (e ▸ hn'))) ⟨fun h => (h (.inl rfl)).elim, fun _ => by rw [upd_here]; exact setT_here _ _ _⟩
        · rw [setT_other (fun e => hn' i _ hk (by rw [e]; rfl))]; exact hO n' hn'
    · refine .inr ⟨guard false hw, hb, M, hth, ?_, hO⟩
      subst hu
      exact whole undef M (fun _ _ => rfl) (fun _ => by rw [upd_here])
  · intro A v w1 hall ⟨hb, M, hth, hG, hO⟩
    refine hQ v w1 M hb hth (fun j k hk => ?_) hO
    have hj : A j := hall j (by rw [← hlen]; exact (List.getElem?_eq_some_iff.1 hk).1)
    have hg := hG j k hk
    cases k with
    | fix x => exact fun _ => hg hj
    | same i => exact fun _ => hg hj
    | box n T u => exact fun _ => hg hj
    | app n jb T x xs u => exact ⟨fun h => (h trivial).elim, fun _ => hg.2 hj⟩

/-- the bidders of a set are worth more alone than what they get and pay, and the others pay -/
def blockedP (K : Nat) (bids : List (List Int)) (p : List Int) (set : Nat) : Bool := decide (ownTo bids (bestP K bids) set bids.length + restTo p set bids.length < worthP K bids set)
/-- isBlocked, at payments from 0 to what is offered -/
def SpecBlocked : Prop := ∀ (v fv pv : Value) (K : Nat) (bids : List (List Int)) (p : List Int) (set : Nat) (w : World), Mat w v bids → Sl w fv (ints (offP bids (bestP K bids))) → Sl w pv (ints p) → K ≤ 6 → 1 ≤ bids.length → bids.length ≤ 6 → Offers K bids →
  p.length = bids.length → (∀ i, i < bids.length → 0 ≤ p.getD i 0 ∧ p.getD i 0 ≤ 1000000) → set < 2 ^ bids.length →
  Calls Tryd.prog 79 #[.agg #[.int .i64 ((2 ^ K - 1 : Nat) : Int), v], .int .i64 set, fv, pv] w fun e w' => e = .returned (.bool (blockedP K bids p set)) ∧ Below w.heap.size w w'
theorem core_no1 {K : Nat} {bids : List (List Int)} {p : List Int} {i : Nat} (hi : i < bids.length) (h : p.getD i 0 < 0 ∨ (offP bids (bestP K bids)).getD i 0 < p.getD i 0) : coreP K bids p = false := by
  rw [offP_get _ _ _ (by rw [bestP_len]; exact hi)] at h
  unfold offAt at h
  unfold coreP
  rw [Bool.and_eq_false_iff]
  left
  rw [List.all_eq_false]
  refine ⟨i, List.mem_range.2 hi, ?_⟩
  rw [Bool.and_eq_true, decide_eq_true_eq, decide_eq_true_eq]
  omega
theorem core_no2 {K : Nat} {bids : List (List Int)} {p : List Int} {set : Nat} (hi : set < 2 ^ bids.length) (h : blockedP K bids p set = true) : coreP K bids p = false := by
  unfold blockedP at h
  rw [decide_eq_true_eq] at h
  unfold coreP
  rw [Bool.and_eq_false_iff]
  right
  rw [List.all_eq_false]
  refine ⟨set, List.mem_range.2 hi, ?_⟩
  rw [decide_eq_true_eq]
  omega
theorem core_yes {K : Nat} {bids : List (List Int)} {p : List Int} (h : ∀ i, i < bids.length → 0 ≤ p.getD i 0 ∧ p.getD i 0 ≤ (offP bids (bestP K bids)).getD i 0) (h2 : ∀ set, set < 2 ^ bids.length → blockedP K bids p set = false) : coreP K bids p = true := by
  unfold coreP
  rw [Bool.and_eq_true]
  constructor
  · rw [List.all_eq_true]
    intro i hi
    rw [List.mem_range] at hi
    have := h i hi
    rw [offP_get _ _ _ (by rw [bestP_len]; exact hi)] at this
    unfold offAt at this
    rw [Bool.and_eq_true, decide_eq_true_eq, decide_eq_true_eq]
    exact this
  · rw [List.all_eq_true]
    intro s hs
    rw [List.mem_range] at hs
    have := h2 s hs
    unfold blockedP at this
    rw [decide_eq_false_iff_not] at this
    rw [decide_eq_true_eq]
    omega
set_option maxRecDepth 100000 in
set_option maxHeartbeats 4000000 in
theorem isCore_go (B : SpecBlocked) (v pv : Value) (m : Nat) (bids : List (List Int)) (q : List Int) (w : World) (hl : Mat w v bids) (hq : Sl w pv (ints q)) (hm : m ≤ 6) (hn : bids.length ≤ 6) (hn1 : 1 ≤ bids.length) (ho : Offers m bids) (hql : q.length = bids.length) :
    Calls Tryd.prog 57 #[.agg #[.int .i64 ((2 ^ m - 1 : Nat) : Int), v], pv] w fun e w' => e = .returned (.bool (coreP m bids q)) ∧ Below w.heap.size w w' := by
  obtain ⟨p, cap, rfl, hlc, hcm⟩ := hl.form_
  unfold maxLen at hcm
  obtain ⟨qp, qc, rfl, hqlc, hqcm⟩ := hq.form
  have HQ0 : Hid (Sl w (.slice qp bids.length qc) (ints q)) := by rw [← hql]; exact hq
  rw [hql] at hqlc ⊢
  have HQL := Lib.hid hql
  have hr0 := row_new 73 w #[.int .i64 ((2 ^ m - 1 : Nat) : Int), .slice p bids.length cap]
  have hb0 := (Below.refl w.heap.size w).alloc (Nat.le_refl _) (.cells #[.int .i64 ((2 ^ m - 1 : Nat) : Int), .slice p bids.length cap] 73)
  have HFIRST : Hid (∀ W, Below w.heap.size w W → Calls Tryd.prog 47 #[.agg #[.int .i64 ((2 ^ m - 1 : Nat) : Int), .slice p bids.length cap]] W fun e w' => ∃ v', e = .returned v' ∧ Sl w' v' (ints (bestP m bids)) ∧ Below W.heap.size W w') := fun W hb => (first_go _ m bids W (hl.below hb) hm (by omega) hn1 ho).mono fun e w' ⟨v', h1, h2, h3⟩ => ⟨v', h1, h2.sl, h3⟩
  have HOFF : Hid (∀ W lv, Below w.heap.size w W → Sl W lv (ints (bestP m bids)) → Calls Tryd.prog 49 #[.agg #[.int .i64 ((2 ^ m - 1 : Nat) : Int), .slice p bids.length cap], lv] W fun e w' => ∃ v', e = .returned v' ∧ Sl w' v' (ints (offP bids (bestP m bids))) ∧ Below W.heap.size W w') := fun W lv hb hs => (offered_go _ _ lv bids _ W (hl.below hb) hs (by omega) (best_deals ho)).mono fun e w' ⟨v', h1, h2, h3⟩ => ⟨v', h1, h2.sl, h3⟩
  have HBL : Hid (∀ (W : World) (fv : Value) (s : Nat), Below w.heap.size w W → Sl W fv (ints (offP bids (bestP m bids))) → (∀ i, i < bids.length → 0 ≤ q.getD i 0 ∧ q.getD i 0 ≤ (offP bids (bestP m bids)).getD i 0) → s < 2 ^ bids.length →
      Calls Tryd.prog 79 #[.agg #[.int .i64 ((2 ^ m - 1 : Nat) : Int), .slice p bids.length cap], .int .i64 s, fv, .slice qp bids.length qc] W fun e w' => e = .returned (.bool (blockedP m bids q s)) ∧ Below W.heap.size W w') := fun W fv s hb hf ha hs => by
    have hx : ∀ i, i < bids.length → 0 ≤ q.getD i 0 ∧ q.getD i 0 ≤ 1000000 := fun i hi => by
      have h1 := ha i hi
      have h2 := (offP_bd ho (bestP m bids) i).2
      exact ⟨h1.1, Int.le_trans h1.2 h2⟩
    exact B (.slice p bids.length cap) fv (.slice qp bids.length qc) m bids q s W (hl.below hb) hf (HQ0.out.below hb) hm hn1 hn ho hql hx hs
  have HNO1 := Lib.hid (fun i => @core_no1 m bids q i)
  have HNO2 := Lib.hid (fun s => @core_no2 m bids q s)
  have HYES := Lib.hid (@core_yes m bids q)
  have HOL : Hid ((offP bids (bestP m bids)).length = bids.length) := by show _ = _; rw [offP_len, bestP_len]
  have hM := wrap_pow bids.length (by omega)
  have hM64 := pow_le64 hn
  have hM0 := pow_pos2 bids.length
  obtain ⟨M, hMM⟩ : ∃ M, 2 ^ bids.length = M := ⟨_, rfl⟩
  rw [hMM] at hM hM64 hM0 HBL HNO2 HYES
  obtain ⟨N, hN⟩ : ∃ N : Nat, 2 ^ m - 1 = N := ⟨_, rfl⟩
  rw [hN] at hr0 hb0 HFIRST HOFF HBL ⊢
  obtain ⟨F, hF⟩ : ∃ F, offP bids (bestP m bids) = F := ⟨_, rfl⟩
  rw [hF] at HOFF HBL HNO1 HYES HOL
  obtain ⟨GL, hG⟩ : ∃ GL, bestP m bids = GL := ⟨_, rfl⟩
  rw [hG] at HFIRST HOFF
  obtain ⟨CP, hCP⟩ : ∃ CP, coreP m bids q = CP := ⟨_, rfl⟩
  rw [hCP] at HNO1 HNO2 HYES ⊢
  obtain ⟨BP, hBP⟩ : ∃ BP, blockedP m bids q = BP := ⟨_, rfl⟩
  rw [hBP] at HNO2 HYES HBL
  have HR0 := Lib.hid hr0
  have HB0 := Lib.hid hb0
  obtain ⟨W0, hW0⟩ : ∃ W0, w.alloc (.cells #[.int .i64 N, .slice p bids.length cap] 73) = W0 := ⟨_, rfl⟩
  rw [hW0] at HR0 HB0
  clear hl ho hm hr0 hb0 hN hF hG hMM hCP hBP hq hql
  have hl0 : (0 : Int) ≤ (bids.length : Int) := by omega
  go_enter Tryd.func57, Tryd.ntmps57
  go_wp2
  clear hW0
  refine wp_region_rel (by kernel_rfl) 44 rfl (by kernel_rfl) [.fix (.agg #[.int .i64 (N : Nat), .slice p bids.length cap]), .fix (.agg #[.int .i64 (N : Nat), .slice p bids.length cap]), .mem (fun u W => Sl W u (ints GL)), .mem (fun u W => Sl W u (ints F)), .mem (fun u W => Sl W u (ints F))] rfl (stays_of (fun i M hk v w w' h hb => by rcases i with _ | _ | _ | _ | _ | i <;> simp at hk <;> subst hk <;> exact Sl.below h hb) (fun j b k T n => by rcases j with _ | _ | _ | _ | _ | j <;> simp)) ?hop ?hQ
  case hop =>
    intro W hW j o hj vs w1 hb hV
    have hbw : Below W0.heap.size W0 w1 := by rw [hW] at hb; exact ((Below.refl W0.heap.size W0).drew).trans hb
    have d0 : w1.cell? ⟨w.heap.size, 0, none⟩ = some (.int .i64 (N : Nat)) := (HR0.out.below hbw HR0.out.lt).cell 0
    have d1 : w1.cell? ⟨w.heap.size, 1, none⟩ = some (.slice p bids.length cap) := (HR0.out.below hbw HR0.out.lt).cell 1
    clear hW hb
    have hj' : j < 5 := (List.getElem?_eq_some_iff.1 hj).1
    rcases (by omega : j = 0 ∨ j = 1 ∨ j = 2 ∨ j = 3 ∨ j = 4) with rfl | rfl | rfl | rfl | rfl
    · cases hj
      clear hj'
      refine .inl ⟨rfl, ?_⟩
      (try simp [predsR, Region.binds, Vk] at hV)
      simp only [putAll]
      generalize hR : Res _ _ vs w1 = R
      go_simp
      subst hR
      exact ⟨rfl, Below.refl _ _⟩
    · cases hj
      clear hj'
      refine .inl ⟨rfl, ?_⟩
      (try simp [predsR, Region.binds, Vk] at hV)
      simp only [putAll]
      generalize hR : Res _ _ vs w1 = R
      go_simp
      subst hR
      exact ⟨rfl, Below.refl _ _⟩
    · cases hj
      clear hj'
      refine .inl ⟨rfl, ?_⟩
      (try simp [predsR, Region.binds, Vk] at hV)
      simp only [putAll]
      generalize hR : Res _ _ vs w1 = R
      go_simp
      subst hR
      refine (HFIRST.out w1 (HB0.out.trans (hbw.mono HB0.out.size))).mono ?_
      rintro e w2 ⟨v2, rfl, hs2, hb2⟩
      exact ⟨_, rfl, hs2, hb2⟩
    · cases hj
      clear hj'
      refine .inl ⟨rfl, ?_⟩
      generalize hG : relUpon _ _ _ = G
      have q0 : vs 0 = _ := hV 0 (by decide)
      have hS : Sl w1 (vs 2) (ints GL) := hV 2 (by decide)
      clear hV
      subst hG
      simp only [putAll]
      generalize hR : Res _ _ vs w1 = R
      go_simp
      subst hR
      refine (HOFF.out w1 _ (HB0.out.trans (hbw.mono HB0.out.size)) hS).mono ?_
      rintro e w2 ⟨v2, rfl, hs2, hb2⟩
      exact ⟨_, rfl, hs2, hb2⟩
    · cases hj
      clear hj'
      refine .inl ⟨rfl, ?_⟩
      generalize hG : relUpon _ _ _ = G
      have hS : Sl w1 (vs 3) (ints F) := hV 3 (by decide)
      clear hV
      subst hG
      simp only [putAll]
      generalize hR : Res _ _ vs w1 = R
      go_simp
      subst hR
      exact ⟨hS, Below.refl _ _⟩
  case hQ =>
    intro W hW vs w1 hb hV hD
    have hbw : Below W0.heap.size W0 w1 := by rw [hW] at hb; exact ((Below.refl W0.heap.size W0).drew).trans hb
    have v0 : vs 0 = _ := hV 0 (by decide)
    have v1 : vs 1 = _ := hV 1 (by decide)
    have hS : Sl w1 (vs 4) (ints F) := hV 4 (by decide)
    have HR1 := Lib.hid (HR0.out.below hbw HR0.out.lt)
    have HB1 := Lib.hid (HB0.out.trans (hbw.mono HB0.out.size))
    simp only [putAll, v0, v1]
    obtain ⟨fv, hfv⟩ : ∃ fv, vs 4 = fv := ⟨_, rfl⟩
    rw [hfv] at hS ⊢
    obtain ⟨y2, hy2⟩ : ∃ y2, vs 2 = y2 := ⟨_, rfl⟩
    obtain ⟨y3, hy3⟩ : ∃ y3, vs 3 = y3 := ⟨_, rfl⟩
    rw [hy2, hy3]
    have HS := Lib.hid hS
    have HQ1 := Lib.hid (HQ0.out.below HB1.out)
    clear hV hD v0 v1 hb hbw hW hfv hy2 hy3 HR0 HB0 hS HFIRST HOFF
    obtain ⟨fp, fc, rfl, hfl, hfm⟩ := HS.out.form
    rw [HOL.out] at hfl HS ⊢
    obtain ⟨wb, hwb0⟩ : ∃ wb : World, wb = w1 := ⟨_, rfl⟩
    subst hwb0
    go_wp2
    go_loopw [15] (fun i wr => ∃ k : Nat, k ≤ bids.length ∧ i = .int .i64 k ∧ (∀ j, j < k → 0 ≤ q.getD j 0 ∧ q.getD j 0 ≤ F.getD j 0) ∧ Below wb.heap.size wb wr) (fun i _ => bids.length - (intOf i).toNat)
    case atStart => exact ⟨0, Nat.zero_le _, rfl, fun j hj => by omega, Below.refl _ _⟩
    case round =>
      obtain ⟨k, hk, rfl, hall, hbl⟩ := hrel
      have HALL := Lib.hid hall
      have HBL2 := Lib.hid hbl
      by_cases hlt : k < bids.length
      · obtain ⟨b1, o1, c1, hv, _, _, _, hc1⟩ := (HQ1.out.below hbl).int_at k (by rw [HQL.out]; exact hlt)
        rw [HQL.out] at hv
        cases hv
        obtain ⟨b2, o2, c2, hv, _, _, _, hc2⟩ := (HS.out.below hbl).int_at k (by rw [HOL.out]; exact hlt)
        rw [HOL.out] at hv
        cases hv
        have HNO := Lib.hid (HNO1.out k hlt)
        obtain ⟨x, hx⟩ : ∃ x, q.getD k 0 = x := ⟨_, rfl⟩
        obtain ⟨y, hy⟩ : ∃ y, F.getD k 0 = y := ⟨_, rfl⟩
        rw [hx] at hc1 HNO
        rw [hy] at hc2 HNO
        have HX := Lib.hid hx
        have HY := Lib.hid hy
        have HBE := Lib.hid (HB1.out.trans (hbl.mono HB1.out.size))
        clear hx hy hall hbl
        by_cases h0 : x < 0
        · have HF := Lib.hid (HNO.out (Or.inl h0))
          clear HNO
          go_wp2
          go_ret
          exact ⟨by rw [HF.out]; rfl, HBE.out⟩
        · by_cases h1 : y < x
          · have HF := Lib.hid (HNO.out (Or.inr h1))
            clear HNO
            go_wp2
            go_ret
            exact ⟨by rw [HF.out]; rfl, HBE.out⟩
          · clear HNO
            go_wp2
            go_roundw
            case rel => exact ⟨k + 1, by omega, by go_num, fun j hj => by
              rcases Nat.lt_or_ge j k with h | h
              · exact HALL.out j h
              · have : j = k := by omega
                subst this; rw [HX.out, HY.out]; omega, HBL2.out⟩
            case measure => simp [intOf]; omega
      · have hkn : k = bids.length := by omega
        rw [hkn] at HALL
        have HBE := Lib.hid (HB1.out.trans (hbl.mono HB1.out.size))
        have HRE := Lib.hid (HR1.out.below hbl HR1.out.lt)
        have HSE := Lib.hid (HS.out.below hbl)
        have hnlt : ¬ ((k : Int) < (bids.length : Int)) := by omega
        have d1 : wr.cell? ⟨w.heap.size, 1, none⟩ = some (.slice p bids.length cap) := HRE.out.cell 1
        obtain ⟨wo, hwo⟩ : ∃ wo : World, wo = wr := ⟨_, rfl⟩
        subst hwo
        clear hall hbl hkn
        go_wp2
        clear d1
        go_loopw [35] (fun i wr => ∃ k : Nat, k ≤ M ∧ i = .int .i64 k ∧ (∀ j, j < k → BP j = false) ∧ Below wo.heap.size wo wr) (fun i _ => M - (intOf i).toNat)
        case atStart => exact ⟨0, Nat.zero_le _, rfl, fun j hj => by omega, Below.refl _ _⟩
        case round =>
          obtain ⟨s, hs, rfl, hall2, hbl2⟩ := hrel
          have HALL2 := Lib.hid hall2
          have HBL3 := Lib.hid hbl2
          by_cases hlt2 : s < M
          · have hre := HRE.out.below hbl2 HRE.out.lt
            have d0 : wr.cell? ⟨w.heap.size, 0, none⟩ = some (.int .i64 (N : Nat)) := hre.cell 0
            have d1 : wr.cell? ⟨w.heap.size, 1, none⟩ = some (.slice p bids.length cap) := hre.cell 1
            have HC := Lib.hid (HBL.out wr _ s (HBE.out.trans (hbl2.mono HBE.out.size)) (HSE.out.below hbl2) HALL.out hlt2)
            have HBX := Lib.hid (HBE.out.trans (hbl2.mono HBE.out.size))
            obtain ⟨t, ht⟩ : ∃ t, BP s = t := ⟨_, rfl⟩
            rw [ht] at HC
            clear hre hall2 hbl2
            cases t with
            | true =>
              have HF := Lib.hid (HNO2.out s hlt2 ht)
              clear ht
              go_wp2_with (first | (go_at_call 79; refine HC.out.mono ?_; rintro e w2 ⟨rfl, hb2⟩; have HB2 := Lib.hid (HBX.out.trans (hb2.mono HBX.out.size)); clear hb2))
              go_ret
              exact ⟨by rw [HF.out]; rfl, HB2.out⟩
            | false =>
              have HT := Lib.hid ht
              clear ht
              go_wp2_with (first | (go_at_call 79; refine HC.out.mono ?_; rintro e w2 ⟨rfl, hb2⟩; have HB2 := Lib.hid (HBL3.out.trans (hb2.mono HBL3.out.size)); clear hb2))
              go_roundw
              case rel => exact ⟨s + 1, by omega, by go_num, fun j hj => by
                rcases Nat.lt_or_ge j s with h | h
                · exact HALL2.out j h
                · have : j = s := by omega
                  subst this; exact HT.out, HB2.out⟩
              case measure => simp [intOf]; omega
          · have hsM : s = M := by omega
            rw [hsM] at HALL2
            have HF := Lib.hid (HYES.out HALL.out HALL2.out)
            have HBX := Lib.hid (HBE.out.trans (hbl2.mono HBE.out.size))
            have hnlt2 : ¬ ((s : Int) < (M : Int)) := by omega
            clear hall2 hbl2 hsM
            go_wp2
            go_ret
            exact ⟨by rw [HF.out]; rfl, HBX.out⟩
set_option maxRecDepth 100000 in
set_option maxHeartbeats 2000000 in
theorem core_spec (B : SpecBlocked) : SpecCore := by
  intro v pv K bids q w hl hq h1 h6 hn1 hn6 ho hiq hq8
  have hck := checkP_off h1 h6 hn1 hn6 ho
  have HNW := Lib.hid (new_go v K bids w hl (by unfold I64; omega) (few_off h6 hn6 ho))
  have e1 : newR (K : Int) bids v = .agg #[.int .i64 ((2 ^ K - 1 : Nat) : Int), v] := by unfold newR; rw [if_pos hck, Int.toNat_natCast]
  rw [e1, hck] at HNW
  obtain ⟨qp, qc, rfl, hqlc, hqcm⟩ := hq.form
  by_cases hql : q.length = bids.length
  · have HC : Hid (∀ W, Below w.heap.size w W → Calls Tryd.prog 57 #[.agg #[.int .i64 ((2 ^ K - 1 : Nat) : Int), v], .slice qp q.length qc] W fun e w' => e = .returned (.bool (coreP K bids q)) ∧ Below W.heap.size W w') := fun W hb => isCore_go B v _ K bids q W (hl.below hb) (hq.below hb) h6 hn6 hn1 ho hql
    have HE : Hid (coreB K bids q = coreP K bids q ∧ coreE bids q = 0) := ⟨if_pos hql, if_pos hql⟩
    rw [HE.out.1, HE.out.2]
    obtain ⟨CP, hCP⟩ : ∃ CP, coreP K bids q = CP := ⟨_, rfl⟩
    rw [hCP] at HC ⊢
    rw [hql] at HC hqlc ⊢
    obtain ⟨p, cap, rfl, hlc, hcm⟩ := hl.form_
    obtain ⟨N, hN⟩ : ∃ N : Nat, 2 ^ K - 1 = N := ⟨_, rfl⟩
    rw [hN] at HNW HC
    clear hl hq ho hiq hck e1 hN hCP HE hql hq8
    go_enter Tryd.func23, Tryd.ntmps23
    go_wp2_with (first
      | (go_at_call 57; refine (HC.out _ HB1.out).mono ?_; rintro e w2 ⟨rfl, hb2⟩; have HB2 := Lib.hid (HB1.out.trans (hb2.mono HB1.out.size)); clear hb2)
      | (go_at_call 46; refine HNW.out.mono ?_; rintro e w1 ⟨rfl, hb1⟩; have HB1 := Lib.hid (hb1.alloc hb1.size (.cells #[.int .i64 (N : Int), .slice p bids.length cap] 73)); have hr1 := row_new 73 w1 #[.int .i64 (N : Int), .slice p bids.length cap]; have d0 := hr1.cell 0; have d1 := hr1.cell 1; simp only [List.getElem?_cons_zero, List.getElem?_cons_succ, List.getElem?_toArray] at d0 d1; clear hb1 hr1))
    go_ret2
    exact ⟨rfl, HB2.out⟩
  · have HE : Hid (coreB K bids q = false ∧ coreE bids q = 1) := ⟨if_neg hql, if_neg hql⟩
    rw [HE.out.1, HE.out.2]
    have hne : ((q.length : Int) != (bids.length : Int)) = true := by rw [bne_iff_ne]; omega
    obtain ⟨p, cap, rfl, hlc, hcm⟩ := hl.form_
    obtain ⟨N, hN⟩ : ∃ N : Nat, 2 ^ K - 1 = N := ⟨_, rfl⟩
    rw [hN] at HNW
    clear hl hq ho hiq hck e1 hN HE
    go_enter Tryd.func23, Tryd.ntmps23
    go_wp2_with (first | (go_at_call 46; refine HNW.out.mono ?_; rintro e w1 ⟨rfl, hb1⟩; have HB1 := Lib.hid (hb1.alloc hb1.size (.cells #[.int .i64 (N : Int), .slice p bids.length cap] 73)); clear hb1))
    go_ret2
    exact ⟨rfl, HB1.out⟩

/-- what isBlocked has at the head of its loop: the bidders of the set, what they are offered, what the others pay -/
def BlockRel (B : Nat) (w W0 : World) (set : Nat) (bids : List (List Int)) (F p : List Int) (k : Nat) (b o q : Value) (wr : World) : Prop :=
  ∃ vs M, vs.length = (selT set bids k).length ∧ (∀ i u, vs[i]? = some u → Sl w u (ints ((selT set bids k).getD i []))) ∧ Things B wr M ∧ M 1 = some ⟨31, b, vs⟩ ∧ M 2 = some ⟨2, o, ints (inT set F k)⟩ ∧ M 3 = some ⟨2, q, ints (outT set p k)⟩ ∧ Below B W0 wr
theorem getD_snoc {α : Type} (l : List α) (x d : α) (i : Nat) : (l ++ [x]).getD i d = if i = l.length then x else l.getD i d := by
  rw [List.getD_eq_getElem?_getD, List.getD_eq_getElem?_getD]
  rcases Nat.lt_trichotomy i l.length with h | h | h
  · rw [List.getElem?_append_left h, if_neg (by omega)]
  · subst h; rw [List.getElem?_append_right (Nat.le_refl _), if_pos rfl]; simp
  · rw [List.getElem?_eq_none (by simp; omega), if_neg (by omega), List.getElem?_eq_none (by omega)]
section
variable {B : Nat} {w W0 w1 : World} {set : Nat} {bids : List (List Int)} {F p : List Int} {k : Nat} {b o q u : Value} {vs : List Value} {M : Nat → Option Thing} {x : Int}
theorem BlockRel.inn (hT : bt set k = true) (hl : vs.length = (selT set bids k).length) (hr : ∀ i u, vs[i]? = some u → Sl w u (ints ((selT set bids k).getD i []))) (hs : Sl w u (ints (bids.getD k []))) (hx : F.getD k 0 = x)
    (hth : Things B w1 M) (h1 : M 1 = some ⟨31, b, vs ++ [u]⟩) (h2 : M 2 = some ⟨2, o, ints (inT set F k) ++ [.int .i64 x]⟩) (h3 : M 3 = some ⟨2, q, ints (outT set p k)⟩) (hb : Below B W0 w1) : BlockRel B w W0 set bids F p (k + 1) b o q w1 := by
  refine ⟨vs ++ [u], M, ?_, fun i u' hu => ?_, hth, h1, ?_, ?_, hb⟩
  · rw [selT_in hT]; simp [hl]
  · rw [selT_in hT, getD_snoc]
    rcases Nat.lt_trichotomy i vs.length with h | h | h
    · rw [List.getElem?_append_left h] at hu
      rw [if_neg (by omega)]; exact hr i u' hu
    · subst h
      rw [List.getElem?_append_right (Nat.le_refl _)] at hu
      simp at hu; subst hu
      rw [if_pos hl]; exact hs
    · rw [List.getElem?_eq_none (by simp; omega)] at hu; cases hu
  · rw [h2, inT_in hT, ints_append, hx]; rfl
  · rw [h3, outT_in hT]
theorem BlockRel.out (hT : bt set k = false) (hl : vs.length = (selT set bids k).length) (hr : ∀ i u, vs[i]? = some u → Sl w u (ints ((selT set bids k).getD i []))) (hx : p.getD k 0 = x)
    (hth : Things B w1 M) (h1 : M 1 = some ⟨31, b, vs⟩) (h2 : M 2 = some ⟨2, o, ints (inT set F k)⟩) (h3 : M 3 = some ⟨2, q, ints (outT set p k) ++ [.int .i64 x]⟩) (hb : Below B W0 w1) : BlockRel B w W0 set bids F p (k + 1) b o q w1 := by
  refine ⟨vs, M, ?_, fun i u' hu => ?_, hth, h1, ?_, ?_, hb⟩
  · rw [selT_out hT]; exact hl
  · rw [selT_out hT]; exact hr i u' hu
  · rw [h2, inT_out hT]
  · rw [h3, outT_out hT, ints_append, hx]; rfl
end
set_option maxRecDepth 100000 in
set_option maxHeartbeats 4000000 in
theorem blocked : SpecBlocked := by
  intro v fv pv m bids p set w hl hf hp hm hn1 hn6 ho hpl hpb hset
  obtain ⟨bp, cap, rfl, hlc, hcm⟩ := hl.form_
  obtain ⟨fp, fc, rfl, hfl, hfm⟩ := hf.form
  obtain ⟨pp, pc, rfl, hplc, hpm⟩ := hp.form
  have hFL : (offP bids (bestP m bids)).length = bids.length := by rw [offP_len, bestP_len]
  unfold maxLen at hcm
  have HFB := Lib.hid (offP_bd ho (bestP m bids))
  have HIS : Hid (∀ k, k ≤ bids.length → addTo (inT set (offP bids (bestP m bids)) k) (inT set (offP bids (bestP m bids)) k).length = ownTo bids (bestP m bids) set k) := fun k hk => inT_sum set k (by rw [bestP_len]; exact hk)
  have HOS : Hid (∀ k, addTo (outT set p k) (outT set p k).length = restTo p set k) := fun k => outT_sum set k
  have HPB : Hid (∀ i, 0 ≤ p.getD i 0 ∧ p.getD i 0 ≤ 1000000) := fun i => by
    by_cases hi : i < bids.length
    · exact hpb i hi
    · rw [List.getD_eq_getElem?_getD, List.getElem?_eq_none (by omega)]; simp
  have HBLK : Hid (blockedP m bids p set = decide (ownTo bids (bestP m bids) set bids.length + restTo p set bids.length < worthP m bids set)) := rfl
  have HOB := Lib.hid (ownTo_bd ho (bestP m bids) set bids.length)
  have HRB := Lib.hid (restTo_bd hpb set bids.length (Nat.le_refl _))
  have HWB := Lib.hid (worthP_bd ho set)
  have hM64 := pow_le64 hn6
  have HALONE : Hid (∀ W bv, Mat W bv (selT set bids bids.length) → Calls Tryd.prog 71 #[.agg #[.int .i64 ((2 ^ m - 1 : Nat) : Int), .slice bp bids.length cap], bv] W fun e w' => e = .returned (.int .i64 (worthP m bids set)) ∧ Below W.heap.size W w') := fun W bv hb => by
    have := alone_go (.slice bp bids.length cap) bv m (selT set bids bids.length) W ⟨_, _, _, rfl⟩ hb hm (Nat.le_trans (selT_len set bids bids.length) (by omega)) (offers_sel ho)
    rw [selT_sel, worthP_alone hm ho] at this
    exact this
  obtain ⟨F, hF⟩ : ∃ F, offP bids (bestP m bids) = F := ⟨_, rfl⟩
  rw [hF] at HFB HIS hFL hf hfl ⊢
  rw [hFL] at hfl ⊢
  rw [hpl] at hplc ⊢
  have HL := Lib.hid hl
  have HF : Hid (Sl w (.slice fp bids.length fc) (ints F)) := by rw [← hFL]; exact hf
  have HP : Hid (Sl w (.slice pp bids.length pc) (ints p)) := by rw [← hpl]; exact hp
  have HFL := Lib.hid hFL
  have HPL := Lib.hid hpl
  have hr0 := row_new 73 w #[.int .i64 ((2 ^ m - 1 : Nat) : Int), .slice bp bids.length cap]
  obtain ⟨N, hN⟩ : ∃ N : Nat, 2 ^ m - 1 = N := ⟨_, rfl⟩
  rw [hN] at HALONE hr0 ⊢
  obtain ⟨W0, hW0⟩ : ∃ W0, w.alloc (.cells #[.int .i64 N, .slice bp bids.length cap] 73) = W0 := ⟨_, rfl⟩
  have HB0 : Hid (Below w.heap.size w W0) := by rw [← hW0]; exact (Below.refl w.heap.size w).alloc (Nat.le_refl _) _
  have HZ0 : Hid (W0.heap.size = w.heap.size + 1) := by rw [← hW0]; exact alloc_size _ _
  rw [hW0] at hr0
  have HR0 := Lib.hid hr0
  have d1 := hr0.cell 1
  simp only [List.getElem?_cons_zero, List.getElem?_cons_succ] at d1
  have hset64 : set < 64 := by omega
  clear hl hf hp hFL hF ho hpl hpb hr0 hN hm hset
  have hl0 : (0 : Int) ≤ (bids.length : Int) := by omega
  go_enter Tryd.func79, Tryd.ntmps79
  go_wp2
  clear hW0
  go_loopw [9, 10, 11, 17] (fun b o q i wr => ∃ k : Nat, k ≤ bids.length ∧ i = .int .i64 k ∧ BlockRel (w.heap.size + 1) w W0 set bids F p k b o q wr) (fun _ _ _ i _ => bids.length - (intOf i).toNat)
  case atStart =>
    refine ⟨0, Nat.zero_le _, rfl, [], setT (setT (setT (fun _ => none) 1 ⟨31, .slice none 0 0, []⟩) 2 ⟨2, .slice none 0 0, []⟩) 3 ⟨2, .slice none 0 0, []⟩, rfl, fun i u hu => by simp at hu, ?_, rfl, rfl, rfl, Below.refl _ _⟩
    exact (((Things.none _ _).nil 1).nil 2).nil 3
  case round =>
    clear d1
    obtain ⟨k, hk, rfl, vs, M, hvl, hvr, hth, hM1, hM2, hM3, hb⟩ := hrel
    have HVL := Lib.hid hvl
    have HVR := Lib.hid hvr
    have HTH := Lib.hid hth
    have HM1 := Lib.hid hM1
    have HM2 := Lib.hid hM2
    have HM3 := Lib.hid hM3
    have HB := Lib.hid hb
    have hbw := HB0.out.trans (hb.mono (Nat.le_succ _))
    clear hvl hvr hth hM1 hM2 hM3 hb
    have hvs : vs.length ≤ 64 := by have := selT_len set bids k; rw [← HVL.out] at this; omega
    have hls : (ints (inT set F k)).length ≤ 64 := by rw [ints_length]; have := inT_len set F k; omega
    by_cases hlt : k < bids.length
    · obtain ⟨b1, o1, c1, u, hv, _, _, _, hcu0, hsu⟩ := HL.out.row_at k hlt
      cases hv
      have hb1 : b1 < w.heap.size := by
        obtain ⟨b, o, c, _, hv, _, _, h, _, _⟩ := HL.out.row_at k hlt
        cases hv; exact h
      have hcu := (hbw.cell (p := ⟨b1, o1 + k, none⟩) hb1).trans hcu0
      obtain ⟨up, uc, rfl, hulc, hucm⟩ := hsu.form
      have HSU := Lib.hid hsu
      obtain ⟨r, hr⟩ : ∃ r, (bids.getD k []).length = r := ⟨_, rfl⟩
      rw [hr] at hcu hulc HSU
      have hd := Nat.div_le_self set (2 ^ k)
      have h1 : bits .and .i64 ((set / 2 ^ k : Nat) : Int) 1 = ((set / 2 ^ k % 2 : Nat) : Int) := by rw [← Nat.and_one_is_mod]; exact i64_and (set / 2 ^ k) 1 (by omega) (by omega)
      have hs := cast_shr set k
      have HBT : Hid (bt set k = (set / 2 ^ k % 2 == 1)) := rfl
      obtain ⟨d, hdd⟩ : ∃ d, set / 2 ^ k = d := ⟨_, rfl⟩
      rw [hdd] at h1 hd hs HBT
      have hw : IntKind.i64.wrap (d : Int) = (d : Int) := wrap_small d (by omega)
      obtain ⟨e2, he2⟩ : ∃ e2, d % 2 = e2 := ⟨_, rfl⟩
      rw [he2] at h1 HBT
      have hbx : bt set k = true ∨ bt set k = false := by cases bt set k <;> simp
      clear hsu hcu0 hr hdd he2
      rcases hbx with hbx | hbx
      · have HT := Lib.hid hbx
        have htst : ((e2 : Int) == 1) = true := by
          have := HBT.out; rw [hbx] at this; rw [beq_iff_eq]; have := (beq_iff_eq.1 this.symm); omega
        clear hbx HBT
        obtain ⟨b3, o3, c3, hv, _, _, hb3, hc3⟩ := HF.out.int_at k (by rw [HFL.out]; exact hlt)
        rw [HFL.out] at hv
        cases hv
        obtain ⟨x, hx⟩ : ∃ x, F.getD k 0 = x := ⟨_, rfl⟩
        rw [hx] at hc3
        have HX := Lib.hid hx
        have HB3 := Lib.hid hb3
        have HC3 := Lib.hid hc3
        clear hx hb3 hc3
        go_wp2
        refine wp_region_things (by kernel_rfl) 55 rfl (by kernel_rfl) [.fix u9, .fix (.slice up r uc), .box 4 31 (.slice up r uc), .app 1 2 31 u9 vs (.slice up r uc), .fix u10, .fix (.slice (some ⟨b3, o3, none⟩) bids.length fc), .fix (.int .i64 k), .fix (.pointer (some ⟨b3, o3 + k, none⟩)), .fix (.int .i64 x), .box 5 2 (.int .i64 x), .app 2 9 2 u10 (ints (inT set F k)) (.int .i64 x), .same 3, .same 10] (by rfl) ?hA (w.heap.size + 1) W0 HB.out (by rw [HZ0.out]; exact Nat.le_refl _) M HTH.out ?hM ?hop ?hQ
        case hA =>
          intro i n jb T v xs u h
          rcases i with _ | _ | _ | _ | _ | _ | _ | _ | _ | _ | _ | _ | _ | i
          all_goals (first | (cases h; exact ⟨_, rfl⟩) | cases h)
        case hM =>
          intro i n jb T v xs u h
          rcases i with _ | _ | _ | _ | _ | _ | _ | _ | _ | _ | _ | _ | _ | i
          all_goals (first | (cases h; first | exact HM1.out | exact HM2.out) | cases h)
        case hop =>
          intro i o kd hi hkd v w1 hb hV
          have hbw1 : Below w.heap.size w w1 := HB0.out.trans (hb.mono (Nat.le_succ _))
          have d3 : w1.cell? ⟨b3, o3 + k, none⟩ = some (.int .i64 x) := (hbw1.cell (p := ⟨b3, o3 + k, none⟩) HB3.out).trans HC3.out
          have hsz : w.heap.size + 1 ≤ w1.heap.size := by have := hb.size; rw [HZ0.out] at this; exact this
          clear hb hbw1
          have hi' : i < 13 := (List.getElem?_eq_some_iff.1 hi).1
          rcases (by omega : i = 0 ∨ i = 1 ∨ i = 2 ∨ i = 3 ∨ i = 4 ∨ i = 5 ∨ i = 6 ∨ i = 7 ∨ i = 8 ∨ i = 9 ∨ i = 10 ∨ i = 11 ∨ i = 12) with rfl | rfl | rfl | rfl | rfl | rfl | rfl | rfl | rfl | rfl | rfl | rfl | rfl
          · cases hi
            cases hkd
            clear hi'
            refine .inl ⟨rfl, ?_⟩
            clear hV
            simp only [List.take_succ_cons, List.take_zero, putAll, Ob]
            generalize hR : FixR _ _ = R
            go_simp
            subst hR
            exact ⟨rfl, Below.refl _ _⟩
          · cases hi
            cases hkd
            clear hi'
            refine .inl ⟨rfl, ?_⟩
            clear hV
            simp only [List.take_succ_cons, List.take_zero, putAll, Ob]
            generalize hR : FixR _ _ = R
            go_simp
            subst hR
            exact ⟨rfl, Below.refl _ _⟩
          · cases hi
            cases hkd
            clear hi'
            refine .inl ⟨rfl, ?_⟩
            have q1 : v 1 = _ := hV 1 (by decide)
            clear hV
            simp only [List.take_succ_cons, List.take_zero, putAll, Ob]
            generalize hR : BoxR _ _ _ = R
            go_simp
            subst hR
            exact ⟨rfl, rfl⟩
          · cases hi
            cases hkd
            clear hi'
            refine .inl ⟨rfl, ?_⟩
            have q0 : v 0 = _ := hV 0 (by decide)
            clear hV
            intro g hg hrow hown
            simp only [List.take_succ_cons, List.take_zero, putAll]
            refine run_append_box (.tmp 27) (.tmp 29) 22 rfl 31 (.slice none 0 0) 24 Tryd.underlying22 Tryd.info31 rfl (by omega) (w.heap.size + 1) u9 vs ?hs hown g (.slice up r uc) ?hx hrow rfl ?hlen hsz (fun v' w' h1 h2 h3 => ⟨h1, h2, h3⟩)
            case hs => go_simp
            case hx => go_simp
            case hlen => omega
          · cases hi
            cases hkd
            clear hi'
            refine .inl ⟨rfl, ?_⟩
            clear hV
            simp only [List.take_succ_cons, List.take_zero, putAll, Ob]
            generalize hR : FixR _ _ = R
            go_simp
            subst hR
            exact ⟨rfl, Below.refl _ _⟩
          · cases hi
            cases hkd
            clear hi'
            refine .inl ⟨rfl, ?_⟩
            clear hV
            simp only [List.take_succ_cons, List.take_zero, putAll, Ob]
            generalize hR : FixR _ _ = R
            go_simp
            subst hR
            exact ⟨rfl, Below.refl _ _⟩
          · cases hi
            cases hkd
            clear hi'
            refine .inl ⟨rfl, ?_⟩
            clear hV
            simp only [List.take_succ_cons, List.take_zero, putAll, Ob]
            generalize hR : FixR _ _ = R
            go_simp
            subst hR
            exact ⟨rfl, Below.refl _ _⟩
          · cases hi
            cases hkd
            clear hi'
            refine .inl ⟨rfl, ?_⟩
            have q5 : v 5 = _ := hV 5 (by decide)
            have q6 : v 6 = _ := hV 6 (by decide)
            clear hV
            simp only [List.take_succ_cons, List.take_zero, putAll, Ob]
            generalize hR : FixR _ _ = R
            go_simp
            subst hR
            exact ⟨rfl, Below.refl _ _⟩
          · cases hi
            cases hkd
            clear hi'
            refine .inl ⟨rfl, ?_⟩
            have q7 : v 7 = _ := hV 7 (by decide)
            clear hV
            simp only [List.take_succ_cons, List.take_zero, putAll, Ob]
            generalize hR : FixR _ _ = R
            go_simp
            subst hR
            exact ⟨rfl, Below.refl _ _⟩
          · cases hi
            cases hkd
            clear hi'
            refine .inl ⟨rfl, ?_⟩
            have q8 : v 8 = _ := hV 8 (by decide)
            clear hV
            simp only [List.take_succ_cons, List.take_zero, putAll, Ob]
            generalize hR : BoxR _ _ _ = R
            go_simp
            subst hR
            exact ⟨rfl, rfl⟩
          · cases hi
            cases hkd
            clear hi'
            refine .inl ⟨rfl, ?_⟩
            have q4 : v 4 = _ := hV 4 (by decide)
            clear hV
            intro g hg hrow hown
            simp only [List.take_succ_cons, List.take_zero, putAll]
            refine run_append_box (.tmp 31) (.tmp 36) 31 rfl 2 (.int .i64 0) 8 Tryd.underlying31 Tryd.info2 rfl (by omega) (w.heap.size + 1) u10 (ints (inT set F k)) ?hs hown g (.int .i64 x) ?hx hrow rfl ?hlen hsz (fun v' w' h1 h2 h3 => ⟨h1, h2, h3⟩)
            case hs => go_simp
            case hx => go_simp
            case hlen => omega
          · cases hi
            cases hkd
            clear hi'
            refine .inl ⟨rfl, ?_⟩
            clear hV
            simp only [List.take_succ_cons, List.take_zero, putAll, Ob]
            generalize hR : FixR _ _ = R
            go_simp
            subst hR
            exact ⟨rfl, Below.refl _ _⟩
          · cases hi
            cases hkd
            clear hi'
            refine .inl ⟨rfl, ?_⟩
            clear hV
            simp only [List.take_succ_cons, List.take_zero, putAll, Ob]
            generalize hR : FixR _ _ = R
            go_simp
            subst hR
            exact ⟨rfl, Below.refl _ _⟩
        case hQ =>
          intro v w1 M' hb hth hG hO
          have e3 := (hG 3 _ rfl).2 trivial
          have e10 := (hG 10 _ rfl).2 trivial
          have e11 : v 11 = v 3 := hG 11 _ rfl trivial
          have e12 : v 12 = v 10 := hG 12 _ rfl trivial
          have e33 : M' 3 = M 3 := hO 3 (by
            intro j kd h
            rcases j with _ | _ | _ | _ | _ | _ | _ | _ | _ | _ | _ | _ | _ | j
            all_goals (cases h <;> (intro h; cases h)))
          have HREL : Hid (BlockRel (w.heap.size + 1) w W0 set bids F p (k + 1) (v 3) (v 10) u11 w1) :=
            BlockRel.inn HT.out HVL.out HVR.out HSU.out HX.out hth e3 e10 (e33.trans HM3.out) hb
          simp only [putAll, e11, e12]
          clear e3 e10 e11 e12 e33 hth hb hG hO
          go_wp2
          go_roundw
          case rel => exact ⟨k + 1, by omega, by go_num, HREL.out⟩
          case measure => simp [intOf]; omega
      · have HT := Lib.hid hbx
        have htst : ((e2 : Int) == 1) = false := by
          have := HBT.out; rw [hbx] at this; rw [beq_eq_false_iff_ne]; intro h; have := beq_eq_false_iff_ne.1 this.symm; omega
        clear hbx HBT
        obtain ⟨b3, o3, c3, hv, _, _, hb3, hc3⟩ := HP.out.int_at k (by rw [HPL.out]; exact hlt)
        rw [HPL.out] at hv
        cases hv
        obtain ⟨x, hx⟩ : ∃ x, p.getD k 0 = x := ⟨_, rfl⟩
        rw [hx] at hc3
        have HX := Lib.hid hx
        have HB3 := Lib.hid hb3
        have HC3 := Lib.hid hc3
        clear hx hb3 hc3
        have hcw := (hbw.cell (p := ⟨b3, o3 + k, none⟩) HB3.out).trans HC3.out
        have hsz : w.heap.size + 1 ≤ wr.heap.size := by have := HB.out.size; rw [HZ0.out] at this; exact this
        go_wp2_with (first | (at_builtin; refine wpList_append_thing wr rfl (.tmp 38) (.tmp 43) 31 rfl 2 (.int .i64 0) 8 Tryd.underlying31 Tryd.info2 rfl (by omega) (w.heap.size + 1) 3 M u11 (ints (outT set p k)) HTH.out HM3.out rfl (.int .i64 x) rfl rfl ?a1 hsz ?_))
        case a1 => rw [ints_length]; have := outT_len set p k; omega
        intro v' w' hth2 hb2
        have HREL : Hid (BlockRel (w.heap.size + 1) w W0 set bids F p (k + 1) u9 u10 v' w') :=
          BlockRel.out HT.out HVL.out HVR.out HX.out hth2 ((setT_other (by decide)).trans HM1.out) ((setT_other (by decide)).trans HM2.out) (setT_here _ _ _) (HB.out.trans hb2)
        clear hth2 hb2
        go_wp2
        go_roundw
        case rel => exact ⟨k + 1, by omega, by go_num, HREL.out⟩
        case measure => simp [intOf]; omega
    · obtain rfl : k = bids.length := by omega
      have HMAT : Hid (Mat wr u9 (selT set bids bids.length)) := ⟨vs, HVL.out, (HTH.out.own HM1.out).sl, fun i u hu => (HVR.out i u hu).below hbw⟩
      have HOWN : Hid (Sl wr u10 (ints (inT set F bids.length))) := (HTH.out.own HM2.out).sl
      have HPAID : Hid (Sl wr u11 (ints (outT set p bids.length))) := (HTH.out.own HM3.out).sl
      obtain ⟨bp9, bc9, rfl, _, _⟩ := HMAT.out.form_
      obtain ⟨op9, oc9, rfl, _, _⟩ := HOWN.out.form
      obtain ⟨pp9, pc9, rfl, _, _⟩ := HPAID.out.form
      have hr0 := HR0.out.below HB.out (Nat.lt_succ_self _)
      have d0 := hr0.cell 0
      have d1 := hr0.cell 1
      simp only [List.getElem?_cons_zero, List.getElem?_cons_succ] at d0 d1
      have HC1 := Lib.hid (HALONE.out wr _ HMAT.out)
      have HC2 : Hid (∀ W, Below wr.heap.size wr W → Calls Tryd.prog 48 #[.slice op9 (inT set F bids.length).length oc9] W fun e w' => e = .returned (.int .i64 (ownTo bids (bestP m bids) set bids.length)) ∧ W = w') := fun W hb => by
        have := sum_go _ _ W (HOWN.out.below hb) (Nat.le_trans (inT_len set F bids.length) (by omega)) (fun i => by have := inT_bd (B := 1000000) (by omega) HFB.out set bids.length i; omega)
        rw [HIS.out bids.length (Nat.le_refl _)] at this
        exact this
      have HC3 : Hid (∀ W, Below wr.heap.size wr W → Calls Tryd.prog 48 #[.slice pp9 (outT set p bids.length).length pc9] W fun e w' => e = .returned (.int .i64 (restTo p set bids.length)) ∧ W = w') := fun W hb => by
        have := sum_go _ _ W (HPAID.out.below hb) (Nat.le_trans (outT_len set p bids.length) (by omega)) (fun i => by have := outT_bd (B := 1000000) (by omega) HPB.out set bids.length i; omega)
        rw [HOS.out bids.length] at this
        exact this
      have hob := HOB.out
      have hrb := HRB.out
      have hwb := HWB.out
      have HBW := Lib.hid hbw
      obtain ⟨S1, hS1⟩ : ∃ S1, (selT set bids bids.length).length = S1 := ⟨_, rfl⟩
      obtain ⟨S2, hS2⟩ : ∃ S2, (inT set F bids.length).length = S2 := ⟨_, rfl⟩
      obtain ⟨S3, hS3⟩ : ∃ S3, (outT set p bids.length).length = S3 := ⟨_, rfl⟩
      obtain ⟨x1, hx1⟩ : ∃ x1, ownTo bids (bestP m bids) set bids.length = x1 := ⟨_, rfl⟩
      obtain ⟨x2, hx2⟩ : ∃ x2, restTo p set bids.length = x2 := ⟨_, rfl⟩
      obtain ⟨x3, hx3⟩ : ∃ x3, worthP m bids set = x3 := ⟨_, rfl⟩
      rw [hS1] at HC1 ⊢
      rw [hS2] at HC2 ⊢
      rw [hS3] at HC3 ⊢
      rw [hx1] at HC2 HBLK hob
      rw [hx2] at HC3 HBLK hrb
      rw [hx3] at HC1 HBLK hwb
      clear hbw hr0 HMAT HOWN HPAID HOB HRB HWB hS1 hS2 hS3 hx1 hx2 hx3 HTH HM1 HM2 HM3
      go_wp2_with fail
      refine HC1.out.mono ?_
      rintro e w1 ⟨rfl, hb1⟩
      have HB1 := Lib.hid hb1
      clear hb1 HC1
      go_wp2_with fail
      refine (HC2.out _ HB1.out).mono ?_
      rintro e w2 ⟨rfl, rfl⟩
      clear HC2
      go_wp2_with fail
      refine (HC3.out _ HB1.out).mono ?_
      rintro e w2 ⟨rfl, rfl⟩
      clear HC3
      go_wp2
      go_ret
      exact ⟨by rw [HBLK.out]; rfl, HBW.out.trans (HB1.out.mono HBW.out.size)⟩
end Go.Proofs.YthbfgmgpploneaaDoor
