/- A region that draws: what each operation yields, said of one value for each, in whatever order. -/
import Derived.Test.YtmhmkhdgpfhnfaaGreatDoorR3
import Derived.StillTailTactics
set_option linter.unnecessarySimpa false
set_option linter.unusedVariables false
set_option linter.unusedSimpArgs false
namespace Go.Proofs.YtmhmkhdgpfhnfaaGreatDoor.Ref
open Go.RowKit

/-- the worlds in which all that there was is as it was -/
structure Kin (W : World) where
  val : World
  below : Below W.heap.size W val
instance (W : World) : Nonempty (Kin W) := ⟨⟨W, Below.refl _ _⟩⟩
def leftN (l : List Bool) : Nat := l.countP (!·)
theorem leftN_set : ∀ (l : List Bool) (i : Nat), l[i]? = some false → leftN (l.set i true) + 1 = leftN l
  | [], i, h => by simp at h
  | x :: l, 0, h => by simp at h; subst h; simp [leftN]
  | x :: l, i + 1, h => by
    have := leftN_set l i (by simpa using h)
    simp only [leftN, List.set_cons_succ, List.countP_cons] at this ⊢
    omega
theorem leftN_zero : ∀ (l : List Bool), leftN l = 0 → ∀ (i : Nat), l[i]? ≠ some false
  | [], _, i => by simp
  | x :: l, h, 0 => by
    simp only [leftN, List.countP_cons] at h
    cases x <;> simp_all
  | x :: l, h, i + 1 => by
    simp only [List.getElem?_cons_succ]
    refine leftN_zero l ?_ i
    simp only [leftN, List.countP_cons] at h ⊢
    omega
theorem ready_spec {ops : Array Oper} {listed : Array Bool} {i : Nat} (h : i ∈ Region.ready .any ops listed) :
    i < ops.size ∧ listed.getD i true = false ∧ ∀ o, ops[i]? = some o → o.after.all (fun e => !Region.binds .any e || listed.getD e.on false) = true := by
  unfold Region.ready at h
  simp only [List.mem_filter, List.mem_range, Bool.and_eq_true, Bool.not_eq_true'] at h
  obtain ⟨h1, h2, h3⟩ := h
  refine ⟨h1, h2, fun o ho => ?_⟩
  rw [ho] at h3
  simpa using h3
theorem ready_nil {ops : Array Oper} {listed : Array Bool} (hsz : listed.size = ops.size) (h : Region.ready .any ops listed = []) (i : Nat) (o : Oper) (ho : ops[i]? = some o) (hp : o.after.all (fun e => !Region.binds .any e || listed.getD e.on false) = true) : listed[i]?.getD false = true := by
  have hi : i < ops.size := (Array.getElem?_eq_some_iff.1 ho).1
  cases hx : listed[i]?.getD false with
  | true => rfl
  | false =>
    have hi' : i < listed.size := by omega
    have : i ∈ Region.ready .any ops listed := by
      unfold Region.ready
      simp only [List.mem_filter, List.mem_range, Bool.and_eq_true, Bool.not_eq_true']
      refine ⟨hi, ?_, ?_⟩
      · rw [Array.getD_eq_getD_getElem?]
        rw [Array.getElem?_eq_getElem hi'] at hx ⊢
        simpa using hx
      · rw [ho]; simpa using hp
    rw [h] at this
    cases this
theorem wp_region_inv {P : Program} {id : Nat} {ops : Array Oper} {Q : Exit → Act → World → Prop} {a : Act} {w : World} (hm : P.follows .mixedOrders = true) (I : Array Bool → Act → World → Prop)
    (h0 : I (Array.replicate ops.size false) a w.drew)
    (hs : ∀ listed a w, listed.size = ops.size → I listed a w → ∀ i ∈ Region.ready .any ops listed, wpOp P ops Q i (I (listed.setIfInBounds i true)) a w)
    (he : ∀ listed a w, listed.size = ops.size → I listed a w → Region.ready .any ops listed = [] → Q .normal a w) : (Code.region id ops true).wp P Q a w := by
  refine wp_region_any hm ?_
  have key : ∀ (n : Nat) (listed : Array Bool) (a : Act) (w : World), listed.size = ops.size → leftN listed.toList ≤ n → I listed a w → wpAny P .any ops Q n listed a w := by
    intro n
    induction n with
    | zero =>
      intro listed a w hsz hl hi
      have hr : Region.ready .any ops listed = [] := by
        rw [List.eq_nil_iff_forall_not_mem]
        intro i hmem
        obtain ⟨h1, h2, _⟩ := ready_spec hmem
        have h3 := leftN_zero listed.toList (by omega) i
        apply h3
        rw [Array.getElem?_toList]
        have h4 : i < listed.size := by omega
        rw [Array.getD_eq_getD_getElem?, Array.getElem?_eq_getElem h4] at h2
        rw [Array.getElem?_eq_getElem h4]
        simpa using h2
      exact ⟨hr, he listed a w hsz hi hr⟩
    | succ n ih =>
      intro listed a w hsz hl hi
      refine ⟨he listed a w hsz hi, fun i hmem => ?_⟩
      obtain ⟨h1, h2, _⟩ := ready_spec hmem
      have h4 : i < listed.size := by omega
      have h5 : listed.toList[i]? = some false := by
        rw [Array.getElem?_toList]
        rw [Array.getD_eq_getD_getElem?, Array.getElem?_eq_getElem h4] at h2
        rw [Array.getElem?_eq_getElem h4]
        simpa using h2
      have h6 := leftN_set _ _ h5
      refine wpOp_mono (fun a' w' h' => ih _ a' w' (by simpa using hsz) ?_ h') (hs listed a w hsz hi i hmem)
      simp only [Array.toList_setIfInBounds]
      omega
  refine key _ _ _ _ (by simp) ?_ h0
  simp only [leftN, Array.toList_replicate]
  exact Nat.le_trans List.countP_le_length (by simp)

/-- no integer -/
def NoInt (x : Value) : Prop := ∀ k n, x ≠ .int k n
theorem noInt_bool (b : Bool) : NoInt (.bool b) := fun _ _ e => by cases e
theorem noInt_slice (p : Option Addr) (n c : Nat) : NoInt (.slice p n c) := fun _ _ e => by cases e
/-- what boxes hold: so many cells, and no integers -/
def Bx (n : Nat) (xs : List Value) : Prop := xs.length = n ∧ ∀ x ∈ xs, NoInt x
theorem Bx.two {x y : Value} (hx : NoInt x) (hy : NoInt y) : Bx 2 [x, y] := ⟨rfl, fun u hu => by
  rcases List.mem_cons.1 hu with rfl | hu
  · exact hx
  · rcases List.mem_cons.1 hu with rfl | hu
    · exact hy
    · cases hu⟩
theorem Bx.four {x y z t : Value} (hx : NoInt x) (hy : NoInt y) (hz : NoInt z) (ht : NoInt t) : Bx 4 [x, y, z, t] := ⟨rfl, fun u hu => by
  rcases List.mem_cons.1 hu with rfl | hu
  · exact hx
  · rcases List.mem_cons.1 hu with rfl | hu
    · exact hy
    · rcases List.mem_cons.1 hu with rfl | hu
      · exact hz
      · rcases List.mem_cons.1 hu with rfl | hu
        · exact ht
        · cases hu⟩
/-- what becomes of an operation: a value that is known; one of which is known what the memory behind it is; a new box; a box that is filled with the cells of another operation's value -/
inductive Kd where
  | fix (v : Value)
  | mem (M : Value → World → Prop)
  | box (T n : Nat)
  | fill (b k T n : Nat)
/-- one block is written -/
structure Touch (g : Nat) (w w' : World) : Prop where
  size : w'.heap.size = w.heap.size
  other : ∀ k, k ≠ g → w'.heap[k]? = w.heap[k]?
  os : w'.os = w.os
  tape : w'.tape = w.tape
  output : w'.output = w.output
theorem Touch.trans {g : Nat} {w w₁ w₂ : World} (a : Touch g w w₁) (b : Touch g w₁ w₂) : Touch g w w₂ :=
  ⟨b.size.trans a.size, fun k h => (b.other k h).trans (a.other k h), b.os.trans a.os, b.tape.trans a.tape, b.output.trans a.output⟩
theorem Touch.cell (w : World) (g i : Nat) (u : Value) : Touch g w (w.setCell ⟨g, i, none⟩ u) :=
  ⟨by simp, fun k hk => by simp only [World.setCell, Array.getElem?_modify]; rw [if_neg (by intro h; exact hk h.symm)], rfl, rfl, rfl⟩
theorem Row.touch {T : TypeId} {w w' : World} {g k : Nat} {xs : List Value} (h : Row T w k xs) (t : Touch g w w') (hk : k ≠ g) : Row T w' k xs := (t.other k hk).trans h
theorem below_touch {B g : Nat} {w w₁ w₂ : World} (h : Below B w w₁) (t : Touch g w₁ w₂) (hg : B ≤ g) : Below B w w₂ :=
  h.trans ⟨t.os, t.tape, t.output, by rw [t.size]; exact Nat.le_refl _, fun k hk => t.other k (by omega)⟩
/-- what is known of an operation that has come -/
def Vk (W : World) (ks : List Kd) (i : Nat) (vs : Nat → Value) (w : World) : Prop :=
  match ks[i]? with
  | some (.fix v) => vs i = v
  | some (.mem M) => M (vs i) w
  | some (.box T n) => ∃ g xs, vs i = .pointer (some ⟨g, 0, none⟩) ∧ W.heap.size ≤ g ∧ Row T w g xs ∧ Bx n xs
  | some (.fill b k T n) => ∃ g xs, vs b = .pointer (some ⟨g, 0, none⟩) ∧ Row T w g xs ∧ (vs k).cells.toList = xs ∧ Bx n xs
  | none => True
/-- what it must yield -/
def Res (ks : List Kd) (i : Nat) (vs : Nat → Value) (w1 : World) (u : Value) (w2 : World) : Prop :=
  match ks[i]? with
  | some (.fix v) => u = v ∧ Below w1.heap.size w1 w2
  | some (.mem M) => M u w2 ∧ Below w1.heap.size w1 w2
  | some (.box T n) => ∃ xs : List Value, u = .pointer (some ⟨w1.heap.size, 0, none⟩) ∧ w2 = w1.alloc (.cells xs.toArray T) ∧ Bx n xs
  | some (.fill b k T n) => ∃ g xs, vs b = .pointer (some ⟨g, 0, none⟩) ∧ Touch g w1 w2 ∧ Row T w2 g xs ∧ (vs k).cells.toList = xs ∧ Bx n xs
  | none => False
def relUpon (P : Program) (R : Value → World → Prop) : Result Next → Prop
  | .ok (.value u) w => R u w
  | .ok .skip w => R undef w
  | .ok (.enter f args) w => Calls P f args w fun e w' => ∃ u, e = .returned u ∧ R u w'
  | _ => False
def putAll (vs : Nat → Value) : List Oper → Nat → Act → Act
  | [], _, a => a
  | o :: l, i, a => putAll vs l (i + 1) (a.put o.dst (vs i))
def predsR (o : Oper) : List Nat := o.after.toList.filterMap fun e => if Region.binds .any e then some e.on else none
def opTmpsR (o : Oper) : List Nat := o.op.operands.toList.filterMap fun x => match x with | .tmp t => some t | _ => none
def dstIsR (l : List Oper) (t j : Nat) : Bool :=
  match l[j]? with
  | some o => match o.dst with
    | some d => d == t
    | none => false
  | none => false
def relB (l : List Oper) (n : Nat) : Bool :=
  (List.range l.length).all fun i => match l[i]? with
    | some o => (predsR o).all (fun j => decide (j < i)) &&
      (match o.dst with
        | some d => decide (d < n) && (List.range l.length).all (fun j => j == i || !dstIsR l d j)
        | none => true) &&
      (opTmpsR o).all (fun t => (List.range l.length).all fun j => !dstIsR l t j || (predsR o).contains j) &&
      (match o.guard with
        | some (g, _) => (predsR o).contains g && (match l[g]? with | some p => p.dst.isSome | none => false)
        | none => true) &&
      (match o.op with | .select .. => false | _ => true)
    | none => true
def kdB (l : List Oper) (ks : List Kd) : Bool :=
  ks.length == l.length && (List.range l.length).all fun i => match ks[i]?, l[i]? with
    | some (.fill b k T n), some o => (predsR o).contains b && (predsR o).contains k && (match ks[b]? with | some (.box T' n') => T' == T && n' == n | _ => false) &&
      (List.range l.length).all (fun j => j == i || (match ks[j]? with | some (.fill b' _ _ _) => b' != b | _ => true))
    | _, _ => true
def wantK (ks : List Kd) (o : Oper) : Option Bool :=
  match o.guard with
  | none => some true
  | some (j, want) => match ks[j]? with
    | some (.fix (.bool b)) => some (b == want)
    | _ => none
/-- boxes are different ones -/
def Dist (ks : List Kd) (vs : Nat → Value) (A : Nat → Prop) : Prop :=
  ∀ i j T n T' n', i ≠ j → ks[i]? = some (.box T n) → ks[j]? = some (.box T' n') → A i → A j → vs i ≠ vs j

theorem put_size (a : Act) (d : Option Tmp) (v : Value) : (a.put d v).tmps.size = a.tmps.size := by cases d <;> simp [Act.put]
theorem put_defers (a : Act) (d : Option Tmp) (v : Value) : (a.put d v).defers = a.defers := by cases d <;> rfl
theorem putAll_defers (vs : Nat → Value) : ∀ (l : List Oper) (i : Nat) (a : Act), (putAll vs l i a).defers = a.defers
  | [], _, _ => rfl
  | o :: l, i, a => by rw [putAll, putAll_defers vs l, put_defers]
theorem put_other {a : Act} {d : Option Tmp} {v : Value} {t : Nat} (h : d ≠ some t) : (a.put d v).tmps[t]? = a.tmps[t]? := by
  cases d with
  | none => rfl
  | some d => simp only [Act.put]; rw [Array.getElem?_setIfInBounds, if_neg (fun e => h (by rw [e]))]
theorem put_here {a : Act} {d : Nat} {v : Value} (h : d < a.tmps.size) : (a.put (some d) v).tmps[d]? = some v := by
  simp only [Act.put]; rw [Array.getElem?_setIfInBounds, if_pos rfl, if_pos h]
theorem putAll_other (vs : Nat → Value) {t : Nat} : ∀ (l : List Oper) (i : Nat) (a : Act), (∀ o ∈ l, o.dst ≠ some t) → (putAll vs l i a).tmps[t]? = a.tmps[t]?
  | [], _, _, _ => rfl
  | o :: l, i, a, h => by
    rw [putAll, putAll_other vs l _ _ (fun o' ho => h o' (List.mem_cons_of_mem _ ho)), put_other (h o (List.mem_cons_self ..))]
theorem putAll_here (vs : Nat → Value) {d : Nat} : ∀ (l : List Oper) (i : Nat) (a : Act) (j : Nat) (o : Oper), l[j]? = some o → o.dst = some d → d < a.tmps.size → (∀ j' o', j' ≠ j → l[j']? = some o' → o'.dst ≠ some d) →
    (putAll vs l i a).tmps[d]? = some (vs (i + j))
  | [], _, _, j, o, h, _, _, _ => by simp at h
  | o' :: l, i, a, 0, o, h, hd, hs, hu => by
    simp at h; subst h
    rw [putAll, putAll_other vs l _ _ (fun o hm => by
      obtain ⟨k, hk, he⟩ := List.mem_iff_getElem.1 hm
      exact hu (k + 1) o (by omega) (by simp [← he, hk])), hd, put_here hs]
    rfl
  | o' :: l, i, a, j + 1, o, h, hd, hs, hu => by
    rw [putAll, putAll_here vs l (i + 1) _ j o (by simpa using h) hd (by rw [put_size]; exact hs) (fun j' o'' hj ho => hu (j' + 1) o'' (by omega) (by simpa using ho))]
    congr 1; rw [show i + 1 + j = i + (j + 1) by omega]

def At (l : Array Bool) (i : Nat) : Prop := l[i]?.getD false = true
theorem at_set {l : Array Bool} {i j : Nat} (h : At (l.setIfInBounds i true) j) : j = i ∨ At l j := by
  unfold At at *
  rw [Array.getElem?_setIfInBounds] at h
  by_cases hij : i = j
  · exact .inl hij.symm
  · right; rw [if_neg hij] at h; exact h
theorem at_mono {l : Array Bool} {i j : Nat} (h : At l j) : At (l.setIfInBounds i true) j := by
  unfold At at *
  rw [Array.getElem?_setIfInBounds]
  by_cases hij : i = j
  · subst hij
    rw [if_pos rfl]
    by_cases hb : i < l.size
    · simp [hb]
    · rw [Array.getElem?_eq_none (by omega)] at h; simp at h
  · rw [if_neg hij]; exact h
theorem at_here {l : Array Bool} {i : Nat} (h : i < l.size) : At (l.setIfInBounds i true) i := by
  unfold At; rw [Array.getElem?_setIfInBounds, if_pos rfl, if_pos h]; rfl
theorem not_at {l : Array Bool} {i : Nat} (h : l.getD i true = false) : ¬ At l i := by
  intro q
  unfold At at q
  rw [Array.getD_eq_getD_getElem?] at h
  rcases hq : l[i]? with _ | x
  · rw [hq] at h; simp at h
  · rw [hq] at h q; simp at h q; rw [h] at q; cases q

section
variable {l : List Oper} {n : Nat} {ks : List Kd}
structure OpFacts (l : List Oper) (n : Nat) (i : Nat) (o : Oper) : Prop where
  pred : ∀ j ∈ predsR o, j < i
  dst : ∀ d, o.dst = some d → d < n ∧ ∀ j o', j ≠ i → l[j]? = some o' → o'.dst ≠ some d
  tmp : ∀ t ∈ opTmpsR o, ∀ j o', l[j]? = some o' → o'.dst = some t → j ∈ predsR o
  guard : ∀ g b, o.guard = some (g, b) → g ∈ predsR o ∧ ∃ p d, l[g]? = some p ∧ p.dst = some d
  sel : ∀ cs b, o.op ≠ .select cs b
theorem dstIsR_iff {t j : Nat} : dstIsR l t j = true ↔ ∃ o, l[j]? = some o ∧ o.dst = some t := by
  unfold dstIsR
  constructor
  · intro h
    split at h
    · rename_i o ho
      split at h
      · rename_i d hd; exact ⟨o, ho, by rw [hd]; congr 1; simpa using h⟩
      · cases h
    · cases h
  · rintro ⟨o, ho, hd⟩; simp [ho, hd]
theorem relB_spec (h : relB l n = true) {i : Nat} {o : Oper} (ho : l[i]? = some o) : OpFacts l n i o := by
  unfold relB at h
  rw [List.all_eq_true] at h
  have hi : i < l.length := (List.getElem?_eq_some_iff.1 ho).1
  have h := h i (List.mem_range.2 hi)
  rw [ho] at h
  simp only [Bool.and_eq_true] at h
  obtain ⟨⟨⟨⟨h1, h2⟩, h3⟩, h4⟩, h5⟩ := h
  refine ⟨fun j hj => ?_, fun d hd => ?_, fun t ht j o' hj hd => ?_, fun g b hg => ?_, fun cs b hc => ?_⟩
  · rw [List.all_eq_true] at h1; simpa using h1 j hj
  · rw [hd] at h2
    simp only [Bool.and_eq_true, decide_eq_true_eq, List.all_eq_true, List.mem_range, Bool.or_eq_true, beq_iff_eq, Bool.not_eq_true'] at h2
    refine ⟨h2.1, fun j o' hj ho' hd' => ?_⟩
    rcases h2.2 j (List.getElem?_eq_some_iff.1 ho').1 with h | h
    · exact hj h
    · rw [dstIsR_iff.2 ⟨o', ho', hd'⟩] at h; cases h
  · simp only [List.all_eq_true, List.mem_range, Bool.or_eq_true, Bool.not_eq_true', List.contains_iff_mem] at h3
    rcases h3 t ht j (List.getElem?_eq_some_iff.1 hj).1 with h | h
    · rw [dstIsR_iff.2 ⟨o', hj, hd⟩] at h; cases h
    · exact h
  · rw [hg] at h4
    simp only [Bool.and_eq_true, List.contains_iff_mem] at h4
    refine ⟨h4.1, ?_⟩
    have h5 := h4.2
    split at h5
    · rename_i p hp
      obtain ⟨d, hd⟩ := Option.isSome_iff_exists.1 h5
      exact ⟨p, d, hp, hd⟩
    · cases h5
  · rw [hc] at h5; cases h5
structure FillFacts (l : List Oper) (ks : List Kd) (i : Nat) (o : Oper) (b k T n : Nat) : Prop where
  pb : b ∈ predsR o
  pk : k ∈ predsR o
  box : ks[b]? = some (.box T n)
  uniq : ∀ j b' k' T' n', j < l.length → j ≠ i → ks[j]? = some (.fill b' k' T' n') → b' ≠ b
theorem kdB_spec (h : kdB l ks = true) {i : Nat} {o : Oper} (ho : l[i]? = some o) {b k T n : Nat} (hk : ks[i]? = some (.fill b k T n)) : FillFacts l ks i o b k T n := by
  unfold kdB at h
  simp only [Bool.and_eq_true] at h
  obtain ⟨_, h⟩ := h
  rw [List.all_eq_true] at h
  have hi : i < l.length := (List.getElem?_eq_some_iff.1 ho).1
  have h := h i (List.mem_range.2 hi)
  rw [ho, hk] at h
  simp only [Bool.and_eq_true, List.contains_iff_mem] at h
  obtain ⟨⟨⟨h1, h2⟩, h3⟩, h4⟩ := h
  refine ⟨h1, h2, ?_, fun j b' k' T' n' hj hji hkj => ?_⟩
  · split at h3
    · rename_i T' n' hb
      simp only [Bool.and_eq_true, beq_iff_eq] at h3
      rw [hb, h3.1, h3.2]
    · cases h3
  · rw [List.all_eq_true] at h4
    have := h4 j (List.mem_range.2 hj)
    rw [hkj] at this
    simp only [Bool.or_eq_true, beq_iff_eq, bne_iff_ne] at this
    exact this.resolve_left hji
end
def updV (vs : Nat → Value) (i : Nat) (u : Value) (j : Nat) : Value := if j = i then u else vs j
theorem updV_here (vs : Nat → Value) (i : Nat) (u : Value) : updV vs i u i = u := if_pos rfl
theorem updV_other {vs : Nat → Value} {i j : Nat} {u : Value} (h : j ≠ i) : updV vs i u j = vs j := if_neg h
/-- memory that stays: behind what is made, and behind what is filled -/
structure Stays (ks : List Kd) : Prop where
  more : ∀ (i : Nat) M v w w', ks[i]? = some (.mem M) → M v w → Below w.heap.size w w' → M v w'
  fill : ∀ (i : Nat) M v w w' (j g b k T n : Nat) xs, ks[i]? = some (.mem M) → ks[j]? = some (.fill b k T n) → Row T w g xs → Bx n xs → Touch g w w' → M v w → M v w'
def noMemB (ks : List Kd) : Bool := ks.all fun k => match k with | .mem _ => false | _ => true
theorem stays_fix {ks : List Kd} (h : noMemB ks = true) : Stays ks := by
  have hn : ∀ (i : Nat) M, ks[i]? ≠ some (.mem M) := by
    intro i M hk
    unfold noMemB at h
    rw [List.all_eq_true] at h
    have := h _ (List.mem_of_getElem? hk)
    cases this
  exact ⟨fun i M _ _ _ hk => absurd hk (hn i M), fun i M _ _ _ _ _ _ _ _ _ _ hk => absurd hk (hn i M)⟩
structure RInv (W : World) (l : List Oper) (n : Nat) (ks : List Kd) (a : Act) (listed : Array Bool) (a' : Act) (w' : World) (vs : Nat → Value) : Prop where
  defers : a'.defers = a.defers
  size : a'.tmps.size = n
  here : ∀ j o d, l[j]? = some o → o.dst = some d → At listed j → a'.tmps[d]? = some (vs j)
  other : ∀ t, (∀ j o, l[j]? = some o → o.dst = some t → ¬ At listed j) → a'.tmps[t]? = a.tmps[t]?
  bel : Below W.heap.size W w'
  val : ∀ j, j < l.length → At listed j → Vk W ks j vs w'
  dist : Dist ks vs (fun j => j < l.length ∧ At listed j)
  closed : ∀ j o, l[j]? = some o → At listed j → ∀ p ∈ predsR o, At listed p
theorem Vk.below {W : World} {ks : List Kd} {j : Nat} {vs : Nat → Value} {w w' : World} (hs : Stays ks) (h : Vk W ks j vs w) (hb : Below w.heap.size w w') : Vk W ks j vs w' := by
  unfold Vk at *
  split at h <;> rename_i hk
  · exact h
  · exact hs.more _ _ _ _ _ hk h hb
  · obtain ⟨g, xs, h1, h2, h3, h4⟩ := h
    exact ⟨g, xs, h1, h2, h3.below hb h3.lt, h4⟩
  · obtain ⟨g, xs, h1, h2, h3, h4⟩ := h
    exact ⟨g, xs, h1, h2.below hb h2.lt, h3, h4⟩
  · trivial
theorem RInv.next {W : World} {l : List Oper} {n : Nat} {ks : List Kd} {a : Act} {listed : Array Bool} {a' : Act} {w1 w2 : World} {vs : Nat → Value} {i : Nat} {o : Oper} {u : Value}
    (hB : relB l n = true) (hK : kdB l ks = true) (hs : Stays ks) (hsz : i < listed.size) (h : RInv W l n ks a listed a' w1 vs) (hi : l[i]? = some o) (hn : ¬ At listed i) (hp : ∀ p ∈ predsR o, At listed p)
    (hr : Res ks i vs w1 u w2) : RInv W l n ks a (listed.setIfInBounds i true) (a'.put o.dst u) w2 (updV vs i u) := by
  have hil : i < l.length := (List.getElem?_eq_some_iff.1 hi).1
  have OF := relB_spec hB hi
  have lt_of : ∀ {p}, p ∈ predsR o → p < l.length := fun hp => Nat.lt_trans (OF.pred _ hp) hil
  -- the values alone
  have hval : ∀ j, j < l.length → At listed j → Vk W ks j (updV vs i u) w1 := by
    intro j hj hat
    have hji : j ≠ i := fun e => hn (e ▸ hat)
    have hv := h.val j hj hat
    unfold Vk at *
    split at hv <;> rename_i hk
    · simp only [hk, updV_other hji]; exact hv
    · simp only [hk, updV_other hji]; exact hv
    · simp only [hk, updV_other hji]; exact hv
    · have hoj : l[j]? = some l[j] := List.getElem?_eq_getElem hj
      have FF := kdB_spec hK hoj hk
      rename_i b k T m
      have hb : b ≠ i := fun e => hn (e ▸ h.closed j _ hoj hat b FF.pb)
      have hkk : k ≠ i := fun e => hn (e ▸ h.closed j _ hoj hat k FF.pk)
      simp only [hk, updV_other hb, updV_other hkk]; exact hv
    · simp only [hk]
  have hdist : Dist ks (updV vs i u) (fun j => j < l.length ∧ At listed j) := by
    intro p q T n T' n' hpq h1 h2 h3 h4
    rw [updV_other (show p ≠ i from fun e => hn (e ▸ h3.2)), updV_other (show q ≠ i from fun e => hn (e ▸ h4.2))]
    exact h.dist p q T n T' n' hpq h1 h2 h3 h4
  have hptr : ∀ p q T n T' n' g g', ks[p]? = some (.box T n) → ks[q]? = some (.box T' n') → p < l.length → q < l.length → At listed p → At listed q → p ≠ q → vs p = .pointer (some ⟨g, 0, none⟩) → vs q = .pointer (some ⟨g', 0, none⟩) → g ≠ g' := by
    intro p q T n T' n' g g' h1 h2 h3 h4 h5 h6 hpq e1 e2 e
    exact h.dist p q T n T' n' hpq h1 h2 ⟨h3, h5⟩ ⟨h4, h6⟩ (by rw [e1, e2, e])
  -- the world
  have key : Below W.heap.size W w2 ∧ (∀ j, j < l.length → At listed j → Vk W ks j (updV vs i u) w2) ∧ Vk W ks i (updV vs i u) w2 := by
    unfold Res at hr
    split at hr <;> rename_i hk
    · obtain ⟨h1, h2⟩ := hr
      refine ⟨h.bel.trans (h2.mono h.bel.size), fun j hj hat => (hval j hj hat).below hs h2, ?_⟩
      unfold Vk; simp only [hk, updV_here]; exact h1
    · obtain ⟨h1, h2⟩ := hr
      refine ⟨h.bel.trans (h2.mono h.bel.size), fun j hj hat => (hval j hj hat).below hs h2, ?_⟩
      unfold Vk; simp only [hk, updV_here]; exact h1
    · rename_i T m
      obtain ⟨xs, h1, rfl, h3⟩ := hr
      have h2 : ∀ ob, Below w1.heap.size w1 (w1.alloc ob) := fun ob => (Below.refl _ _).alloc (Nat.le_refl _) _
      refine ⟨h.bel.trans ((h2 _).mono h.bel.size), fun j hj hat => (hval j hj hat).below hs (h2 _), ?_⟩
      unfold Vk; simp only [hk, updV_here]
      exact ⟨_, xs, h1, h.bel.size, by have := row_new T w1 xs.toArray; simpa using this, h3⟩
    · rename_i b k T m
      obtain ⟨g, xs, h1, h2, h3, h4, h5⟩ := hr
      have FF := kdB_spec hK hi hk
      have hbl := lt_of FF.pb
      have hbat := hp b FF.pb
      have hbi : b ≠ i := fun e => hn (e ▸ hbat)
      have hki : k ≠ i := fun e => hn (e ▸ hp k FF.pk)
      have hvb := h.val b hbl hbat
      unfold Vk at hvb
      simp only [FF.box] at hvb
      obtain ⟨g0, xs0, e1, e2, e3, e4⟩ := hvb
      have eg : g0 = g := by rw [e1] at h1; simpa using h1
      subst eg
      refine ⟨below_touch h.bel h2 e2, fun j hj hat => ?_, ?_⟩
      · have hji : j ≠ i := fun e => hn (e ▸ hat)
        have hv := hval j hj hat
        unfold Vk at *
        split at hv <;> rename_i hkj
        · (try simp only [hkj]); exact hv
        · (try simp only [hkj]); exact hs.fill j _ _ _ _ i g0 b k T m xs0 hkj hk e3 e4 h2 hv
        · rename_i T' m'
          try simp only [hkj]
          obtain ⟨g', ys, f1, f2, f3, f4⟩ := hv
          by_cases hjb : j = b
          · subst hjb
            rw [FF.box] at hkj
            cases hkj
            rw [updV_other hbi] at f1
            have : g' = g0 := by rw [e1] at f1; simpa using f1.symm
            subst this
            exact ⟨g', xs, by rw [updV_other hbi]; exact f1, f2, h3, h5⟩
          · rw [updV_other hji] at f1
            exact ⟨g', ys, by rw [updV_other hji]; exact f1, f2, f3.touch h2 (hptr j b _ _ _ _ g' g0 hkj FF.box hj hbl hat hbat hjb f1 e1), f4⟩
        · rename_i b' k' T' m'
          try simp only [hkj]
          obtain ⟨g', ys, f1, f2, f3, f4⟩ := hv
          have hoj : l[j]? = some l[j] := List.getElem?_eq_getElem hj
          have FJ := kdB_spec hK hoj hkj
          have hb' := h.closed j _ hoj hat b' FJ.pb
          have hb'i : b' ≠ i := fun e => hn (e ▸ hb')
          have hb'l : b' < l.length := Nat.lt_trans ((relB_spec hB hoj).pred _ FJ.pb) hj
          rw [updV_other hb'i] at f1
          exact ⟨g', ys, by rw [updV_other hb'i]; exact f1, f2.touch h2 (hptr b' b _ _ _ _ g' g0 FJ.box FF.box hb'l hbl hb' hbat (FF.uniq j b' k' T' m' hj hji hkj) f1 e1), f3, f4⟩
        · trivial
      · unfold Vk; simp only [hk, updV_other hbi, updV_other hki]
        exact ⟨g0, xs, h1, h3, h4, h5⟩
    · exact hr.elim
  obtain ⟨k1, k2, k3⟩ := key
  refine ⟨by rw [put_defers]; exact h.defers, by rw [put_size]; exact h.size, fun j o' d hj hd hat => ?_, fun t ht => ?_, k1, fun j hj hat => ?_, ?_, fun j o' hj hat p hpp => ?_⟩
  · by_cases hji : j = i
    · subst hji
      rw [hi] at hj; cases hj
      rw [hd, put_here (by rw [h.size]; exact (OF.dst d hd).1), updV_here]
    · have hat' := (at_set hat).resolve_left hji
      rw [put_other (fun e => (OF.dst d e).2 j o' hji hj hd), updV_other hji]
      exact h.here j o' d hj hd hat'
  · rw [put_other (fun e => ht i o hi e (at_here hsz))]
    exact h.other t fun j o' hj hd hat => ht j o' hj hd (at_mono hat)
  · rcases at_set hat with rfl | hat
    · exact k3
    · exact k2 j hj hat
  · intro p q T m T' m' hpq h1 h2 h3 h4
    obtain ⟨h3l, h3⟩ := h3
    obtain ⟨h4l, h4⟩ := h4
    have boxlt : ∀ j T m, ks[j]? = some (.box T m) → j < l.length → At listed j → ∃ g, vs j = .pointer (some ⟨g, 0, none⟩) ∧ g < w1.heap.size := by
      intro j T m hk hj hat
      have hv := h.val j hj hat
      unfold Vk at hv
      simp only [hk] at hv
      obtain ⟨g, xs, f1, _, f3, _⟩ := hv
      exact ⟨g, f1, f3.lt⟩
    have newptr : ∀ T m, ks[i]? = some (.box T m) → u = .pointer (some ⟨w1.heap.size, 0, none⟩) := by
      intro T m hk
      unfold Res at hr
      simp only [hk] at hr
      obtain ⟨xs, e, _⟩ := hr
      exact e
    rcases at_set h3 with rfl | h3' <;> rcases at_set h4 with rfl | h4'
    · exact absurd rfl hpq
    · rw [updV_here, updV_other (Ne.symm hpq), newptr T m h1]
      obtain ⟨g, e1, e2⟩ := boxlt q T' m' h2 h4l h4'
      rw [e1]; intro e
      have : w1.heap.size = g := by first | (simp at e; done) | (simp at e; exact e)
      omega
    · rw [updV_here, updV_other hpq, newptr T' m' h2]
      obtain ⟨g, e1, e2⟩ := boxlt p T m h1 h3l h3'
      rw [e1]; intro e
      have : g = w1.heap.size := by first | (simp at e; done) | (simp at e; exact e)
      omega
    · exact hdist p q T m T' m' hpq h1 h2 ⟨h3l, h3'⟩ ⟨h4l, h4'⟩
  · rcases at_set hat with rfl | hat
    · rw [hi] at hj; cases hj
      exact at_mono (hp p hpp)
    · exact at_mono (h.closed j o' hj hat p hpp)
theorem putAll_agrees {W : World} {l : List Oper} {n : Nat} {ks : List Kd} {a : Act} {listed : Array Bool} {a' : Act} {w1 : World} {vs : Nat → Value} (hB : relB l n = true) (hn : a.tmps.size = n)
    (h : RInv W l n ks a listed a' w1 vs) {i : Nat} {o : Oper} (hi : l[i]? = some o) (hp : ∀ p ∈ predsR o, At listed p) : ∀ x ∈ o.op.operands, a'.eval x = (putAll vs l 0 a).eval x := by
  have OF := relB_spec hB hi
  intro x hx
  cases x with
  | tmp t =>
    show a'.tmps.getD t undef = (putAll vs l 0 a).tmps.getD t undef
    rw [Array.getD_eq_getD_getElem?, Array.getD_eq_getD_getElem?]
    have ht : t ∈ opTmpsR o := by
      unfold opTmpsR
      rw [List.mem_filterMap]
      exact ⟨.tmp t, by simpa using hx, rfl⟩
    by_cases hex : ∃ (j : Nat) (o' : Oper), l[j]? = some o' ∧ o'.dst = some t
    · obtain ⟨j, o', hj, hd⟩ := hex
      have hat := hp j (OF.tmp t ht j o' hj hd)
      have OJ := relB_spec hB hj
      rw [h.here j o' t hj hd hat, putAll_here vs l 0 a j o' hj hd (by rw [hn]; exact (OJ.dst t hd).1) (fun j' o'' hne ho => (OJ.dst t hd).2 j' o'' hne ho), Nat.zero_add]
    · rw [h.other t (fun j o' hj hd _ => hex ⟨j, o', hj, hd⟩), putAll_other vs l 0 a (fun o' ho hd => by
        obtain ⟨j, hj, he⟩ := List.mem_iff_getElem.1 ho
        exact hex ⟨j, o', by simp [← he, hj], hd⟩)]
  | const v => rfl
  | global g => rfl
  | func f => rfl
theorem yielded_kd {W : World} {l : List Oper} {n : Nat} {ks : List Kd} {a : Act} {listed : Array Bool} {a' : Act} {w1 : World} {vs : Nat → Value} (hB : relB l n = true)
    (h : RInv W l n ks a listed a' w1 vs) {ops : Array Oper} (hops : ∀ (j : Nat) (o : Oper), l[j]? = some o → ops[j]? = some o) {i : Nat} {o : Oper} (hi : l[i]? = some o) (hp : ∀ p ∈ predsR o, At listed p) {b : Bool} (hw : wantK ks o = some b) : Region.wanted o (yielded ops a'.tmps) = b := by
  have OF := relB_spec hB hi
  unfold wantK at hw
  unfold Region.wanted
  split at hw
  · rename_i hg; rw [hg]; cases hw; rfl
  · rename_i j want hg
    rw [hg]
    obtain ⟨hpj, p, d, hpd, hd⟩ := OF.guard j want hg
    split at hw
    · rename_i c hc
      cases hw
      have hjl : j < l.length := (List.getElem?_eq_some_iff.1 hpd).1
      have hv := h.val j hjl (hp j hpj)
      unfold Vk at hv
      simp only [hc] at hv
      have ht := h.here j p d hpd hd (hp j hpj)
      rw [hv] at ht
      have : yielded ops a'.tmps j = some c := by
        unfold yielded
        simp [hops j p hpd, hd, ht]
      show (yielded ops a'.tmps j == some want) = (c == want)
      rw [this]
      cases c <;> cases want <;> rfl
    · cases hw
theorem wp_region_rel {P : Program} {id : Nat} {l : List Oper} {Q : Exit → Act → World → Prop} {a : Act} {w : World} (hm : P.follows .mixedOrders = true) (n : Nat) (hn : a.tmps.size = n) (hB : relB l n = true)
    (ks : List Kd) (hK : kdB l ks = true) (hs : Stays ks)
    (hop : ∀ W, W = w.drew → ∀ i o, l[i]? = some o → ∀ vs w1, Below W.heap.size W w1 → (∀ j ∈ predsR o, Vk W ks j vs w1) →
      (wantK ks o = some true ∧ relUpon P (Res ks i vs w1) ((execOp (putAll vs l 0 a).eval o).run P w1)) ∨ (wantK ks o = some false ∧ ks[i]? = some (.fix undef)))
    (hQ : ∀ W, W = w.drew → ∀ vs w1, Below W.heap.size W w1 → (∀ i, i < l.length → Vk W ks i vs w1) → Dist ks vs (fun j => j < l.length) → Q .normal (putAll vs l 0 a) w1) :
    (Code.region id l.toArray true).wp P Q a w := by
  refine wp_region_inv hm (fun listed a' w' => ∃ vs, RInv w.drew l n ks a listed a' w' vs) ?_ ?_ ?_
  · have hno : ∀ i, ¬ At (Array.replicate l.toArray.size false) i := fun i h => by
      unfold At at h
      rw [Array.getElem?_replicate] at h
      split at h <;> simp at h
    exact ⟨fun _ => undef, rfl, hn, fun j o d _ _ h => (hno _ h).elim, fun t _ => rfl, Below.refl _ _, fun j _ h => (hno _ h).elim, fun p q _ _ _ _ _ _ _ h _ => (hno _ h.2).elim, fun j o _ h => (hno _ h).elim⟩
  · intro listed a' w1 hsz ⟨vs, h⟩ i hmem
    obtain ⟨h1, h2, h3⟩ := ready_spec hmem
    have hil : i < l.length := by simpa using h1
    have hi : l[i]? = some l[i] := List.getElem?_eq_getElem hil
    obtain ⟨o, ho⟩ : ∃ o, l[i] = o := ⟨_, rfl⟩
    rw [ho] at hi
    have hia : l.toArray[i]? = some o := by simpa using hi
    have hsz' : listed.size = l.length := by simpa using hsz
    have hp : ∀ p ∈ predsR o, At listed p := by
      intro p hpp
      unfold predsR at hpp
      rw [List.mem_filterMap] at hpp
      obtain ⟨e, he, hb⟩ := hpp
      have h4 := h3 o hia
      rw [Array.all_eq_true_iff_forall_mem] at h4
      have := h4 e (by simpa using he)
      split at hb
      · rename_i hbb
        cases hb
        rw [hbb] at this
        simp only [Bool.not_true, Bool.false_or] at this
        unfold At
        rw [Array.getD_eq_getD_getElem?] at this
        exact this
      · cases hb
    have hna := not_at h2
    have OF := relB_spec hB hi
    have next : ∀ u w2, Res ks i vs w1 u w2 → ∃ vs, RInv w.drew l n ks a (listed.setIfInBounds i true) (a'.put o.dst u) w2 vs :=
      fun u w2 hr => ⟨_, h.next hB hK hs (by omega) hi hna hp hr⟩
    have hv : ∀ j ∈ predsR o, Vk w.drew ks j vs w1 := fun j hj => h.val j (Nat.lt_trans (OF.pred j hj) hil) (hp j hj)
    unfold wpOp
    simp only [hia]
    rcases hop w.drew rfl i o hi vs w1 h.bel hv with ⟨hw, hr⟩ | ⟨hw, hu⟩
    · rw [if_pos (yielded_kd hB h (ops := l.toArray) (fun j o hj => by simpa using hj) hi hp hw)]
      refine .inl ?_
      unfold Oper.wp
      rw [execOp_congr o OF.sel (putAll_agrees hB hn h hi hp)]
      generalize (execOp (putAll vs l 0 a).eval o).run P w1 = r at hr ⊢
      unfold relUpon at hr
      split at hr
      · exact next _ _ hr
      · exact next _ _ hr
      · simp only [Oper.upon_enter]
        refine Calls.mono hr ?_
        rintro e w2 ⟨u, rfl, hr⟩
        exact next _ _ hr
      · exact hr.elim
    · rw [if_neg (by rw [yielded_kd hB h (ops := l.toArray) (fun j o hj => by simpa using hj) hi hp hw]; simp)]
      refine next _ _ ?_
      unfold Res
      rw [hu]
      exact ⟨rfl, Below.refl _ _⟩
  · intro listed a' w1 hsz ⟨vs, h⟩ hr
    have hsz' : listed.size = l.length := by simpa using hsz
    have hall : ∀ m i, i < m → i < l.length → At listed i := by
      intro m
      induction m with
      | zero => intro i hi; omega
      | succ m ih =>
        intro i hi hil
        have hio : l[i]? = some l[i] := List.getElem?_eq_getElem hil
        have OF := relB_spec hB hio
        refine ready_nil (by simp [hsz']) hr i l[i] (by simpa using hio) ?_
        rw [Array.all_eq_true_iff_forall_mem]
        intro e he
        cases hb : Region.binds .any e with
        | false => rfl
        | true =>
          have hpe : e.on ∈ predsR l[i] := by
            unfold predsR
            rw [List.mem_filterMap]
            exact ⟨e, by simpa using he, by simp [hb]⟩
          have hlt := OF.pred _ hpe
          have := ih e.on (by omega) (by omega)
          unfold At at this
          rw [Array.getD_eq_getD_getElem?]
          simpa using this
    have hat : ∀ i, i < l.length → At listed i := fun i hi => hall (i + 1) i (by omega) hi
    have hfr : a' = putAll vs l 0 a := by
      have hd : a'.defers = (putAll vs l 0 a).defers := by rw [h.defers, putAll_defers]
      have ht : a'.tmps = (putAll vs l 0 a).tmps := by
        apply Array.ext_getElem?
        intro t
        by_cases hex : ∃ (j : Nat) (o' : Oper), l[j]? = some o' ∧ o'.dst = some t
        · obtain ⟨j, o', hj, hd⟩ := hex
          have hjl : j < l.length := (List.getElem?_eq_some_iff.1 hj).1
          have OJ := relB_spec hB hj
          rw [h.here j o' t hj hd (hat j hjl), putAll_here vs l 0 a j o' hj hd (by rw [hn]; exact (OJ.dst t hd).1) (fun j' o'' hne ho => (OJ.dst t hd).2 j' o'' hne ho), Nat.zero_add]
        · rw [h.other t (fun j o' hj hd _ => hex ⟨j, o', hj, hd⟩), putAll_other vs l 0 a (fun o' ho hd => by
            obtain ⟨j, hj, he⟩ := List.mem_iff_getElem.1 ho
            exact hex ⟨j, o', by simp [← he, hj], hd⟩)]
      cases a'
      cases hq : putAll vs l 0 a
      rw [hq] at hd ht
      simp only at hd ht
      rw [hd, ht]
    rw [hfr]
    exact hQ w.drew rfl vs w1 h.bel (fun i hi => h.val i hi (hat i hi)) (fun p q T m T' m' hpq h1 h2 h3 h4 => h.dist p q T m T' m' hpq h1 h2 ⟨h3, hat p h3⟩ ⟨h4, hat q h4⟩)
theorem putAll_all {W : World} {l : List Oper} {n : Nat} {ks : List Kd} {a : Act} {listed : Array Bool} {a' : Act} {w1 : World} {vs : Nat → Value} (hB : relB l n = true) (hn : a.tmps.size = n)
    (h : RInv W l n ks a listed a' w1 vs) (hat : ∀ i, i < l.length → At listed i) : a' = putAll vs l 0 a := by
  have hd : a'.defers = (putAll vs l 0 a).defers := by rw [h.defers, putAll_defers]
  have ht : a'.tmps = (putAll vs l 0 a).tmps := by
    apply Array.ext_getElem?
    intro t
    by_cases hex : ∃ (j : Nat) (o' : Oper), l[j]? = some o' ∧ o'.dst = some t
    · obtain ⟨j, o', hj, hd⟩ := hex
      have hjl : j < l.length := (List.getElem?_eq_some_iff.1 hj).1
      have OJ := relB_spec hB hj
      rw [h.here j o' t hj hd (hat j hjl), putAll_here vs l 0 a j o' hj hd (by rw [hn]; exact (OJ.dst t hd).1) (fun j' o'' hne ho => (OJ.dst t hd).2 j' o'' hne ho), Nat.zero_add]
    · rw [h.other t (fun j o' hj hd _ => hex ⟨j, o', hj, hd⟩), putAll_other vs l 0 a (fun o' ho hd => by
        obtain ⟨j, hj, he⟩ := List.mem_iff_getElem.1 ho
        exact hex ⟨j, o', by simp [← he, hj], hd⟩)]
  cases a'
  cases hq : putAll vs l 0 a
  rw [hq] at hd ht
  simp only at hd ht
  rw [hd, ht]
end Go.Proofs.YtmhmkhdgpfhnfaaGreatDoor.Ref
