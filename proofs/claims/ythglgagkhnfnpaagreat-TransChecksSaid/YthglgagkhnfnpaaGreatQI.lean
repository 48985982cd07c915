/- A region that draws: an invariant, in whatever order. -/
import Derived.Test.YthglgagkhnfnpaaGreatQT
set_option linter.unusedVariables false
set_option linter.unusedSimpArgs false
set_option linter.unnecessarySimpa false
namespace Go.Proofs.YthglgagkhnfnpaaGreat
open Go.RowKit

def leftN (l : List Bool) : Nat := l.countP (!·)
theorem leftN_set : ∀ (l : List Bool) (i : Nat), l[i]? = some false → leftN (l.set i true) + 1 = leftN l
  | [], i, h => by simp at h
  | x :: l, 0, h => by simp at h; subst h; simp [leftN]
  | x :: l, i + 1, h => by
    have := leftN_set l i (by simpa using h)
    simp only [leftN, List.set_cons_succ, List.countP_cons] at this ⊢
    omega
theorem leftN_zero : ∀ (l : List Bool), leftN l = 0 → ∀ (i : Nat), l[i]? ≠ some false
  | [], _, i => by simp
  | x :: l, h, 0 => by
    simp only [leftN, List.countP_cons] at h
    cases x <;> simp_all
  | x :: l, h, i + 1 => by
    simp only [List.getElem?_cons_succ]
    refine leftN_zero l ?_ i
    simp only [leftN, List.countP_cons] at h ⊢
    omega
theorem ready_spec {ops : Array Oper} {listed : Array Bool} {i : Nat} (h : i ∈ Region.ready .any ops listed) :
    i < ops.size ∧ listed.getD i true = false ∧ ∀ o, ops[i]? = some o → o.after.all (fun e => !Region.binds .any e || listed.getD e.on false) = true := by
  unfold Region.ready at h
  simp only [List.mem_filter, List.mem_range, Bool.and_eq_true, Bool.not_eq_true'] at h
  obtain ⟨h1, h2, h3⟩ := h
  refine ⟨h1, h2, fun o ho => ?_⟩
  rw [ho] at h3
  simpa using h3
theorem ready_nil {ops : Array Oper} {listed : Array Bool} (hsz : listed.size = ops.size) (h : Region.ready .any ops listed = []) (i : Nat) (o : Oper) (ho : ops[i]? = some o) (hp : o.after.all (fun e => !Region.binds .any e || listed.getD e.on false) = true) : listed[i]?.getD false = true := by
  have hi : i < ops.size := (Array.getElem?_eq_some_iff.1 ho).1
  cases hx : listed[i]?.getD false with
  | true => rfl
  | false =>
    have hi' : i < listed.size := by omega
    have : i ∈ Region.ready .any ops listed := by
      unfold Region.ready
      simp only [List.mem_filter, List.mem_range, Bool.and_eq_true, Bool.not_eq_true']
      refine ⟨hi, ?_, ?_⟩
      · rw [Array.getD_eq_getD_getElem?]
        rw [Array.getElem?_eq_getElem hi'] at hx ⊢
        simpa using hx
      · rw [ho]; simpa using hp
    rw [h] at this
    cases this
theorem wp_region_inv {P : Program} {id : Nat} {ops : Array Oper} {Q : Exit → Act → World → Prop} {a : Act} {w : World} (hm : P.follows .mixedOrders = true) (I : Array Bool → Act → World → Prop)
    (h0 : I (Array.replicate ops.size false) a w.drew)
    (hs : ∀ listed a w, listed.size = ops.size → I listed a w → ∀ i ∈ Region.ready .any ops listed, wpOp P ops Q i (I (listed.setIfInBounds i true)) a w)
    (he : ∀ listed a w, listed.size = ops.size → I listed a w → Region.ready .any ops listed = [] → Q .normal a w) : (Code.region id ops true).wp P Q a w := by
  refine wp_region_any hm ?_
  have key : ∀ (n : Nat) (listed : Array Bool) (a : Act) (w : World), listed.size = ops.size → leftN listed.toList ≤ n → I listed a w → wpAny P .any ops Q n listed a w := by
    intro n
    induction n with
    | zero =>
      intro listed a w hsz hl hi
      have hr : Region.ready .any ops listed = [] := by
        rw [List.eq_nil_iff_forall_not_mem]
        intro i hmem
        obtain ⟨h1, h2, _⟩ := ready_spec hmem
        have h3 := leftN_zero listed.toList (by omega) i
        apply h3
        rw [Array.getElem?_toList]
        have h4 : i < listed.size := by omega
        rw [Array.getD_eq_getD_getElem?, Array.getElem?_eq_getElem h4] at h2
        rw [Array.getElem?_eq_getElem h4]
        simpa using h2
      exact ⟨hr, he listed a w hsz hi hr⟩
    | succ n ih =>
      intro listed a w hsz hl hi
      refine ⟨he listed a w hsz hi, fun i hmem => ?_⟩
      obtain ⟨h1, h2, _⟩ := ready_spec hmem
      have h4 : i < listed.size := by omega
      have h5 : listed.toList[i]? = some false := by
        rw [Array.getElem?_toList]
        rw [Array.getD_eq_getD_getElem?, Array.getElem?_eq_getElem h4] at h2
        rw [Array.getElem?_eq_getElem h4]
        simpa using h2
      have h6 := leftN_set _ _ h5
      refine wpOp_mono (fun a' w' h' => ih _ a' w' (by simpa using hsz) ?_ h') (hs listed a w hsz hi i hmem)
      simp only [Array.toList_setIfInBounds]
      omega
  refine key _ _ _ _ (by simp) ?_ h0
  simp only [leftN, Array.toList_replicate]
  exact Nat.le_trans List.countP_le_length (by simp)
end Go.Proofs.YthglgagkhnfnpaaGreat
