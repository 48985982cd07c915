/- Plain numbers: lists of limbs of nine digits. -/
import Derived.Lib.ItoaNum
import Derived.Lib.UnsafeStr
import Derived.WalkKit
import Derived.WalkSpells
import Derived.WalkLawsBesides
import Derived.BigQuiet
import Derived.Deep.QuietTactic
import Derived.Lib.Hide
set_option linter.unusedVariables false
set_option linter.unusedSimpArgs false
set_option linter.unnecessarySimpa false
/- Plain numbers: lists of limbs of nine digits. -/
namespace Go.Proofs.YtmhmkhdgpfhnfaaGreatDoor
/-- the value of a list of limbs, the lowest first -/
def val : List Nat → Nat
  | [] => 0
  | d :: l => d + 1000000000 * val l
/-- the list without zeros at its end -/
def trimL (l : List Nat) : List Nat := (l.reverse.dropWhile (fun d => d == 0)).reverse
def Lo (l : List Nat) : Prop := ∀ d, d ∈ l → d < 1000000000
def limbs (n : Nat) : List Nat := if h : n = 0 then [] else (n % 1000000000) :: limbs (n / 1000000000)
  termination_by n
  decreasing_by omega

theorem trimL_nil : trimL [] = [] := rfl
theorem trimL_snoc (l : List Nat) (d : Nat) : trimL (l ++ [d]) = if d = 0 then trimL l else l ++ [d] := by
  unfold trimL
  by_cases h : d = 0
  · simp [h]
  · simp [h]
theorem take_snoc' (l : List Nat) (k : Nat) (h : k < l.length) : l.take (k + 1) = l.take k ++ [l.getD k 0] := by
  rw [List.take_succ_eq_append_getElem h]; simp [List.getD_eq_getElem?_getD, h]
theorem trimL_take (l : List Nat) (k : Nat) (h : k < l.length) : trimL (l.take (k + 1)) = if l.getD k 0 = 0 then trimL (l.take k) else l.take (k + 1) := by
  rw [take_snoc' l k h, trimL_snoc]
theorem limbs_zero : limbs 0 = [] := by rw [limbs]; simp
theorem limbs_pos (n : Nat) (h : n ≠ 0) : limbs n = (n % 1000000000) :: limbs (n / 1000000000) := by rw [limbs]; simp [h]
theorem val_limbs (n : Nat) : val (limbs n) = n := by
  induction n using Nat.strongRecOn with
  | _ n ih =>
    by_cases h : n = 0
    · subst h; rw [limbs_zero]; rfl
    · rw [limbs_pos n h]; simp only [val]; rw [ih _ (by omega)]; omega
theorem Lo_limbs (n : Nat) : Lo (limbs n) := by
  induction n using Nat.strongRecOn with
  | _ n ih =>
    by_cases h : n = 0
    · subst h; rw [limbs_zero]; intro d hd; simp at hd
    · rw [limbs_pos n h]; intro d hd; rcases List.mem_cons.1 hd with rfl | hd
      · omega
      · exact ih _ (by omega) d hd
theorem val_append (a b : List Nat) : val (a ++ b) = val a + 1000000000 ^ a.length * val b := by
  induction a with
  | nil => simp [val]
  | cons d a ih => simp only [List.cons_append, val, ih, List.length_cons, Nat.pow_succ]; rw [Nat.mul_add, Nat.mul_comm (1000000000 ^ a.length) 1000000000, Nat.mul_assoc]; omega
theorem Lo.append {a b : List Nat} (ha : Lo a) (hb : Lo b) : Lo (a ++ b) := fun d hd => (List.mem_append.1 hd).elim (ha d) (hb d)
theorem Lo.left {a b : List Nat} (h : Lo (a ++ b)) : Lo a := fun d hd => h d (List.mem_append.2 (Or.inl hd))
theorem Lo.right {a b : List Nat} (h : Lo (a ++ b)) : Lo b := fun d hd => h d (List.mem_append.2 (Or.inr hd))
theorem Lo.take {a : List Nat} (h : Lo a) (k : Nat) : Lo (a.take k) := fun d hd => h d (List.mem_of_mem_take hd)
theorem Lo.drop {a : List Nat} (h : Lo a) (k : Nat) : Lo (a.drop k) := fun d hd => h d (List.mem_of_mem_drop hd)
theorem Lo.getD {a : List Nat} (h : Lo a) (k : Nat) : a.getD k 0 < 1000000000 := by
  by_cases hk : k < a.length
  · rw [List.getD_eq_getElem?_getD, List.getElem?_eq_getElem hk]; exact h _ (List.getElem_mem hk)
  · rw [List.getD_eq_getElem?_getD, List.getElem?_eq_none (by omega)]; simp
theorem val_zeros (n : Nat) : val (List.replicate n 0) = 0 := by
  induction n with
  | zero => rfl
  | succ n ih => simp [List.replicate_succ, val, ih]
/-- what is trimmed is what the value says -/
theorem trimL_eq (l : List Nat) (h : Lo l) : trimL l = limbs (val l) := by
  -- by the list from its end
  have key : ∀ m : List Nat, Lo m → (∀ d, m.getLast? = some d → d ≠ 0) → limbs (val m) = m := by
    intro m
    induction m with
    | nil => intro _ _; exact limbs_zero
    | cons d m ih =>
      intro hm hl
      have hd : d < 1000000000 := hm d (List.mem_cons_self ..)
      have hm' : Lo m := fun x hx => hm x (List.mem_cons_of_mem _ hx)
      have hv : val (d :: m) ≠ 0 := by
        simp only [val]
        cases m with
        | nil => have := hl d rfl; simp [val]; exact this
        | cons e m =>
          have : limbs (val (e :: m)) = e :: m := ih hm' (fun x hx => hl x (by simpa using hx))
          have h0 : val (e :: m) ≠ 0 := by intro h0; rw [h0, limbs_zero] at this; cases this
          omega
      rw [limbs_pos _ hv]
      simp only [val]
      have e1 : (d + 1000000000 * val m) % 1000000000 = d := by omega
      have e2 : (d + 1000000000 * val m) / 1000000000 = val m := by omega
      rw [e1, e2, ih hm' (by
        intro x hx; apply hl
        cases m with
        | nil => simp at hx
        | cons e m => simpa using hx)]
  have main : ∀ n (l : List Nat), l.length = n → Lo l → trimL l = limbs (val l) := by
    intro n
    induction n with
    | zero => intro l h0 _; have : l = [] := List.length_eq_zero_iff.1 h0; subst this; rw [trimL_nil]; exact limbs_zero.symm
    | succ n ih =>
      intro l hl hlo
      obtain ⟨m, d, rfl⟩ : ∃ m d, l = m ++ [d] := ⟨l.dropLast, l.getLast (by intro h; subst h; simp at hl), (List.dropLast_concat_getLast _).symm⟩
      rw [trimL_snoc]
      by_cases h : d = 0
      · subst h; rw [if_pos rfl, ih m (by simpa using hl) hlo.left, val_append]; simp [val]
      · rw [if_neg h, key _ hlo (by intro x hx; simp at hx; subst hx; exact h)]
  exact main l.length l rfl h
theorem val_lt (l : List Nat) (h : Lo l) : val l < 1000000000 ^ l.length := by
  induction l with
  | nil => simp [val]
  | cons d l ih =>
    have hd : d < 1000000000 := h d (List.mem_cons_self ..)
    have := ih (fun x hx => h x (List.mem_cons_of_mem _ hx))
    simp only [val, List.length_cons, Nat.pow_succ]; omega
theorem limbs_val_trim (l : List Nat) (h : Lo l) : val (trimL l) = val l := by rw [trimL_eq l h, val_limbs]
theorem limbs_length_le (n k : Nat) (h : n < 1000000000 ^ k) : (limbs n).length ≤ k := by
  induction k generalizing n with
  | zero => simp at h; subst h; rw [limbs_zero]; simp
  | succ k ih =>
    by_cases h0 : n = 0
    · subst h0; rw [limbs_zero]; simp
    · rw [limbs_pos n h0]; simp only [List.length_cons]
      have := ih (n / 1000000000) (by rw [Nat.pow_succ] at h; omega)
      omega
theorem limbs_lower (n : Nat) (h : n ≠ 0) : 1000000000 ^ ((limbs n).length - 1) ≤ n := by
  induction n using Nat.strongRecOn with
  | _ n ih =>
    rw [limbs_pos n h]; simp only [List.length_cons, Nat.add_sub_cancel]
    by_cases h1 : n / 1000000000 = 0
    · rw [h1, limbs_zero]; simp; omega
    · have := ih (n / 1000000000) (by omega) h1
      rw [limbs_pos _ h1] at this ⊢
      simp only [List.length_cons, Nat.add_sub_cancel] at this ⊢
      rw [Nat.pow_succ]
      omega
theorem limbs_nil_iff (n : Nat) : limbs n = [] ↔ n = 0 := ⟨fun h => by have := val_limbs n; rw [h] at this; simpa [val] using this.symm, fun h => by rw [h]; exact limbs_zero⟩
end Go.Proofs.YtmhmkhdgpfhnfaaGreatDoor
/- The digits of a number: in limbs, from the first one and from the last one. -/
namespace Go.Proofs.YtmhmkhdgpfhnfaaGreatDoor
open Go Go.Lib
/-- k digits more, behind a number that is not 0 -/
theorem dec_join : ∀ (k V d : Nat), 0 < k → V ≠ 0 → d < 10 ^ k → decDigits (d + 10 ^ k * V) = decDigits V ++ (List.replicate (k - nDigits d) (48 : UInt8) ++ decDigits d)
  | 0, _, _, h, _, _ => absurd h (by omega)
  | 1, V, d, _, hV, hd => by
    have hd : d < 10 := by simpa using hd
    rw [Nat.pow_one, decDigits, dif_neg (by omega), nDigits_small hd, show (d + 10 * V) / 10 = V by omega, show (d + 10 * V) % 10 = d by omega, decDigits_one hd]
    rfl
  | k + 2, V, d, _, hV, hd => by
    have hp : 1 ≤ 10 ^ (k + 1) := Nat.one_le_pow _ _ (by decide)
    rw [Nat.pow_succ] at hd ⊢
    have hmul : 10 ^ (k + 1) * 10 * V = 10 * (10 ^ (k + 1) * V) := by rw [Nat.mul_comm (10 ^ (k + 1)) 10, Nat.mul_assoc]
    have hV1 : 1 ≤ 10 ^ (k + 1) * V := Nat.mul_pos hp (by omega)
    rw [hmul]
    generalize hM : 10 ^ (k + 1) * V = M at hV1 ⊢
    rw [decDigits, dif_neg (by omega), show (d + 10 * M) / 10 = d / 10 + M by omega, show (d + 10 * M) % 10 = d % 10 by omega, ← hM, dec_join (k + 1) V (d / 10) (by omega) hV (by omega)]
    by_cases h10 : d < 10
    · rw [show d / 10 = 0 by omega, nDigits_small h10, nDigits_small (show 0 < 10 by omega), decDigits_one (show 0 < 10 by omega), decDigits_one h10, show d % 10 = d by omega]
      have e : List.replicate (k + 2 - 1) (48 : UInt8) = List.replicate (k + 1 - 1) 48 ++ [48] := by rw [show k + 2 - 1 = (k + 1 - 1) + 1 by omega, List.replicate_succ']
      rw [e]
      simp
    · rw [nDigits_big h10]
      conv => rhs; rw [show decDigits d = decDigits (d / 10) ++ [UInt8.ofNat (48 + d % 10)] by rw [decDigits, dif_neg h10]]
      rw [show k + 2 - (nDigits (d / 10) + 1) = k + 1 - nDigits (d / 10) by omega]
      simp [List.append_assoc]
/-- the digits of N, the last one first, so many -/
def revD (N m : Nat) : List UInt8 := (List.range m).map fun j => dg N j
theorem revD_length (N m : Nat) : (revD N m).length = m := by simp [revD]
theorem revD_succ (N m : Nat) : revD N (m + 1) = revD N m ++ [dg N m] := by simp [revD, List.range_succ]
theorem revD_take (N m k : Nat) (h : k ≤ m) : (revD N m).take k = revD N k := by
  unfold revD
  rw [← List.map_take, List.take_range, Nat.min_eq_left h]
theorem revD_rev (N : Nat) : (revD N (nDigits N)).reverse = decDigits N := by
  rw [decDigits_eq]
  unfold revD
  apply List.ext_getElem
  · simp
  · intro i h1 h2
    simp [List.getElem_reverse]
theorem nDigits_ge : ∀ (N : Nat), N ≠ 0 → 10 ^ (nDigits N - 1) ≤ N := by
  intro N
  induction N using Nat.strongRecOn with
  | _ N ih =>
    intro h0
    by_cases h : N < 10
    · rw [nDigits_small h]; simp; omega
    · have h1 := ih (N / 10) (by omega) (by omega)
      have h2 := nDigits_pos (N / 10)
      rw [nDigits_big h, show nDigits (N / 10) + 1 - 1 = (nDigits (N / 10) - 1) + 1 by omega, Nat.pow_succ]
      omega
theorem nDigits_le {N k : Nat} (h : N < 10 ^ k) (hk : 0 < k) : nDigits N ≤ k := by
  by_cases h0 : N = 0
  · subst h0; rw [nDigits_small (by omega)]; omega
  · have h1 := nDigits_ge N h0
    apply Nat.le_of_not_lt
    intro hlt
    have : 10 ^ k ≤ 10 ^ (nDigits N - 1) := Nat.pow_le_pow_right (by decide) (by omega)
    omega
/-- behind the number's own digits stand zeros -/
theorem dg_zero {N j : Nat} (h : nDigits N ≤ j) : dg N j = 48 := by
  have h1 := lt_pow_nDigits N
  have h2 : 10 ^ nDigits N ≤ 10 ^ j := Nat.pow_le_pow_right (by decide) h
  unfold dg
  rw [Nat.div_eq_of_lt (by omega)]
  rfl
theorem dg_nat (N j : Nat) : (dg N j).toNat = 48 + N / 10 ^ j % 10 := by
  unfold dg
  have : N / 10 ^ j % 10 < 10 := Nat.mod_lt _ (by decide)
  rw [UInt8.toNat_ofNat']
  omega
/-- the first digit is not 0 -/
theorem dg_top {N : Nat} (h : N ≠ 0) : (dg N (nDigits N - 1)).toNat ≠ 48 := by
  rw [dg_nat]
  have h1 := nDigits_ge N h
  have h2 := lt_pow_nDigits N
  have h3 := nDigits_pos N
  have h4 : 10 ^ nDigits N = 10 ^ (nDigits N - 1) * 10 := by rw [← Nat.pow_succ]; congr 1; omega
  have hp : 0 < 10 ^ (nDigits N - 1) := Nat.pos_of_ne_zero (by intro e; rw [e] at h1 h4; omega)
  have h5 : 1 ≤ N / 10 ^ (nDigits N - 1) := (Nat.le_div_iff_mul_le hp).2 (by omega)
  have h6 : N / 10 ^ (nDigits N - 1) < 10 := (Nat.div_lt_iff_lt_mul hp).2 (by rw [Nat.mul_comm]; omega)
  omega
/-- a digit inside a limb -/
theorem dg_limb (N i k v : Nat) (hk : k < 9) (hv : N / 1000000000 ^ i % 1000000000 / 10 ^ k = v) : (dg N (9 * i + k)).toNat = 48 + v % 10 := by
  rw [dg_nat]
  have e : N / 10 ^ (9 * i + k) = N / 1000000000 ^ i / 10 ^ k := by
    rw [Nat.pow_add, Nat.pow_mul, ← Nat.div_div_eq_div_mul]
  rw [e, ← hv]
  generalize N / 1000000000 ^ i = M
  have : k = 0 ∨ k = 1 ∨ k = 2 ∨ k = 3 ∨ k = 4 ∨ k = 5 ∨ k = 6 ∨ k = 7 ∨ k = 8 := by omega
  rcases this with rfl | rfl | rfl | rfl | rfl | rfl | rfl | rfl | rfl <;> simp <;> omega
theorem limbs_at (N i : Nat) : (limbs N).getD i 0 = N / 1000000000 ^ i % 1000000000 := by
  induction i generalizing N with
  | zero =>
    by_cases h : N = 0
    · subst h; rw [limbs_zero]; simp
    · rw [limbs_pos N h]; simp
  | succ i ih =>
    by_cases h : N = 0
    · subst h; rw [limbs_zero]; simp
    · rw [limbs_pos N h, List.getD_cons_succ, ih, Nat.pow_succ, Nat.mul_comm, Nat.div_div_eq_div_mul]
/-- the next limb, behind those above it -/
theorem dec_limb {l : List Nat} {i : Nat} (h : i < l.length) (hlo : Lo l) (hV : val (l.drop (i + 1)) ≠ 0) :
    decDigits (val (l.drop i)) = decDigits (val (l.drop (i + 1))) ++ (List.replicate (9 - nDigits (l.getD i 0)) (48 : UInt8) ++ decDigits (l.getD i 0)) := by
  have e : l.drop i = l.getD i 0 :: l.drop (i + 1) := by
    rw [List.drop_eq_getElem_cons h, List.getD_eq_getElem?_getD, List.getElem?_eq_getElem h]; rfl
  rw [e]
  exact dec_join 9 _ _ (by omega) hV (hlo.getD i)
end Go.Proofs.YtmhmkhdgpfhnfaaGreatDoor
/- Rows of numbers in memory: what a slice of numbers reads as, and what stays as it was. -/
namespace Go.Proofs.YtmhmkhdgpfhnfaaGreatDoor
open Go.RowKit

/-- the cells of a list of numbers -/
def nums (K : IntKind) (l : List Nat) : List Value := l.map fun (d : Nat) => Value.int K (d : Int)
theorem nums_length (K : IntKind) (l : List Nat) : (nums K l).length = l.length := by simp [nums]
theorem nums_get (K : IntKind) (l : List Nat) (i : Nat) (h : i < l.length) : (nums K l)[i]? = some (.int K (l.getD i 0 : Nat)) := by
  simp [nums, h]
theorem nums_set (K : IntKind) (l : List Nat) (i d : Nat) : (nums K l).set i (.int K (d : Int)) = nums K (l.set i d) := by
  simp [nums, List.map_set]
/-- block g holds just these cells -/
def Row (T : TypeId) (w : World) (g : Nat) (xs : List Value) : Prop := w.heap[g]? = some (.cells xs.toArray T (0, 0))
theorem Row.lt {T : TypeId} {w : World} {g : Nat} {xs : List Value} (h : Row T w g xs) : g < w.heap.size := lt_of_block h
theorem Row.cell {T : TypeId} {w : World} {g : Nat} {xs : List Value} (h : Row T w g xs) (i : Nat) : w.cell? ⟨g, i, none⟩ = xs[i]? := by
  unfold Row at h; simp [World.cell?, h]
theorem Row.free {T : TypeId} {w : World} {g : Nat} {xs : List Value} (h : Row T w g xs) (i : Nat) : w.frozen? ⟨g, i, none⟩ = false := by
  unfold Row at h; simp [World.frozen?, h]
theorem Row.below {T : TypeId} {w w' : World} {g B : Nat} {xs : List Value} (h : Row T w g xs) (hb : Below B w w') (hg : g < B) : Row T w' g xs := by
  unfold Row at h ⊢; rw [hb.block g hg]; exact h
theorem Row.store {T : TypeId} {w : World} {g : Nat} {xs : List Value} (h : Row T w g xs) (i : Nat) (u : Value) : Row T (w.setCell ⟨g, i, none⟩ u) g (xs.set i u) := by
  unfold Row at h ⊢
  have := heap_setCell_same w g i xs.toArray T u h
  rw [this]; simp
theorem Row.other {T : TypeId} {w : World} {g : Nat} {xs : List Value} (h : Row T w g xs) (a : Addr) (ha : a.block ≠ g) (u : Value) : Row T (w.setCell a u) g xs := by
  unfold Row at h ⊢; rw [Below.heap_setCell _ _ _ _ (fun e => ha e.symm)]; exact h
theorem Row.alloc {T : TypeId} {w : World} {g : Nat} {xs : List Value} (h : Row T w g xs) (o : Obj) : Row T (w.alloc o) g xs := by
  have := h.lt; unfold Row at h ⊢; rw [Below.heap_alloc _ _ _ this]; exact h
theorem Row.drew {T : TypeId} {w : World} {g : Nat} {xs : List Value} (h : Row T w g xs) : Row T w.drew g xs := h
theorem Row.of_owns {T : TypeId} {w : World} {base g n : Nat} {xs : List Value} (h : w.ownsRow base T 1 (.slice (some ⟨g, 0, none⟩) n n) n xs) : Row T w g xs := by
  obtain ⟨h1, h2⟩ := h
  rcases h2 with ⟨h, _⟩ | ⟨g', cap, cur, hv, _, hh, _, _, hs, ht⟩
  · cases h
  · cases hv
    unfold Row; rw [hh]
    have : cur.toList = xs := by rw [← ht, List.take_of_length_le (by simp; omega)]
    rw [← this]
/-- a slice reads as a list of numbers: nil or empty for the empty list -/
def Rd (K : IntKind) (w : World) (v : Value) (l : List Nat) : Prop :=
  ∃ p cap, v = .slice p l.length cap ∧ l.length ≤ cap ∧ cap ≤ maxLen ∧ (l = [] → p = none ∧ cap = 0) ∧
    (0 < l.length → ∃ b off, p = some ⟨b, off, none⟩ ∧ b < w.heap.size ∧ ∀ i, i < l.length → w.cell? ⟨b, off + i, none⟩ = some (.int K (l.getD i 0 : Nat)))
theorem Rd.below {K : IntKind} {w w' : World} {v : Value} {l : List Nat} (h : Rd K w v l) (hb : Below w.heap.size w w') : Rd K w' v l := by
  obtain ⟨p, cap, hv, hl, hm, hn, hp⟩ := h
  refine ⟨p, cap, hv, hl, hm, hn, fun h0 => ?_⟩
  obtain ⟨b, off, hp, hbs, hc⟩ := hp h0
  exact ⟨b, off, hp, Nat.lt_of_lt_of_le hbs hb.size, fun i hi => by rw [hb.cell (p := ⟨b, off + i, none⟩) hbs]; exact hc i hi⟩
theorem Rd.nil (K : IntKind) (w : World) : Rd K w (.slice none 0 0) [] := ⟨none, 0, rfl, Nat.le_refl _, Nat.zero_le _, fun _ => ⟨rfl, rfl⟩, fun h => absurd h (by simp)⟩
/-- a slice of the call's own (its block is 'base' or later) that reads as a list of numbers and may be written -/
def Own (T : TypeId) (K : IntKind) (base : Nat) (w : World) (v : Value) (l : List Nat) : Prop :=
  (l = [] ∧ v = .slice none 0 0) ∨
  (l ≠ [] ∧ ∃ g cap more, v = .slice (some ⟨g, 0, none⟩) l.length cap ∧ base ≤ g ∧ cap ≤ maxLen ∧ l.length ≤ cap ∧ cap ≤ l.length + more.length ∧ Row T w g (nums K l ++ more))
theorem Own.rd {T : TypeId} {K : IntKind} {base : Nat} {w : World} {v : Value} {l : List Nat} (h : Own T K base w v l) : Rd K w v l := by
  rcases h with ⟨rfl, rfl⟩ | ⟨hne, g, cap, more, rfl, hb, hm, hlc, hcm, hr⟩
  · exact Rd.nil K w
  · refine ⟨_, _, rfl, hlc, hm, fun h => absurd h hne, fun _ => ⟨g, 0, rfl, hr.lt, fun i hi => ?_⟩⟩
    rw [hr.cell, Nat.zero_add, List.getElem?_append_left (by rw [nums_length]; exact hi), nums_get K l i hi]
theorem Own.below {T : TypeId} {K : IntKind} {base B : Nat} {w w' : World} {v : Value} {l : List Nat} (h : Own T K base w v l) (hb : Below B w w') (hB : w.heap.size ≤ B) : Own T K base w' v l := by
  rcases h with h | ⟨hne, g, cap, more, rfl, hg, hm, hlc, hcm, hr⟩
  · exact Or.inl h
  · exact Or.inr ⟨hne, g, cap, more, rfl, hg, hm, hlc, hcm, hr.below hb (Nat.lt_of_lt_of_le hr.lt hB)⟩
theorem Own.base {T : TypeId} {K : IntKind} {base base' : Nat} {w : World} {v : Value} {l : List Nat} (h : Own T K base w v l) (hb : base' ≤ base) : Own T K base' w v l := by
  rcases h with h | ⟨hne, g, cap, more, rfl, hg, r⟩
  · exact Or.inl h
  · exact Or.inr ⟨hne, g, cap, more, rfl, by omega, r⟩
/-- what a call leaves that makes a list of numbers -/
def Out (T : TypeId) (K : IntKind) (w : World) (l : List Nat) (e : Ending) (w' : World) : Prop :=
  ∃ v, e = .returned v ∧ Own T K w.heap.size w' v l ∧ Below w.heap.size w w'
/-- the slice over limbs at one place, cut to its length; nil if there are none -/
def natV (b off : Nat) (l : List Nat) : Value := if l = [] then .slice none 0 0 else .slice (some ⟨b, off, none⟩) l.length l.length
theorem natV_nil (b off : Nat) {l : List Nat} (h : l = []) : natV b off l = .slice none 0 0 := by unfold natV; rw [if_pos h]
theorem natV_pos (b off : Nat) {l : List Nat} (h : l ≠ []) : natV b off l = .slice (some ⟨b, off, none⟩) l.length l.length := by unfold natV; rw [if_neg h]
theorem trimL_prefix (l : List Nat) : ∃ m, l = trimL l ++ m := by
  unfold trimL
  refine ⟨(l.reverse.takeWhile (fun d => d == 0)).reverse, ?_⟩
  rw [← List.reverse_append, List.takeWhile_append_dropWhile, List.reverse_reverse]
theorem trimL_length (l : List Nat) : (trimL l).length ≤ l.length := by
  obtain ⟨m, h⟩ := trimL_prefix l
  have := congrArg List.length h; simp at this; omega
/-- what is cut out of a row of the call's own -/
theorem Own.cut {T : TypeId} {K : IntKind} {base g : Nat} {w : World} {l : List Nat} {more : List Value} (h : Row T w g (nums K l ++ more)) (hb : base ≤ g) (hm : l.length ≤ 1099511627776) : Own T K base w (natV g 0 (trimL l)) (trimL l) := by
  obtain ⟨m, hlm⟩ := trimL_prefix l
  have hl := trimL_length l
  by_cases he : trimL l = []
  · exact Or.inl ⟨he, natV_nil _ _ he⟩
  · refine Or.inr ⟨he, g, (trimL l).length, nums K m ++ more, natV_pos _ _ he, hb, by unfold maxLen; omega, Nat.le_refl _, by omega, ?_⟩
    have : nums K l = nums K (trimL l) ++ nums K m := by
      conv => lhs; rw [hlm]
      simp [nums]
    rw [← List.append_assoc, ← this]; exact h
theorem madeCells_one (z : Value) (hz : z.cells = #[z]) (n : Nat) : (madeCells z.cells n).toList = List.replicate n z := by
  rw [hz]; unfold madeCells
  apply List.ext_getElem
  · simp
  · intro i h1 h2; simp [Nat.mod_one]
/-- 'make([]T, n)' of elements of one cell: a new row of zero values -/
theorem wpList_make_row {P : Program} (w : World) {ops : Array Oper} {rest : List Oper} {o : Oper} {a : Act} {Q : Exit → Act → World → Prop}
    (hg : o.guard = none) (l c : Operand) (t : TypeId) (hop : o.op = Op.makeSlice t l c)
    (e : TypeId) (z : Value) (by_ : Nat) (h1 : P.underlying t = some (.slice e)) (hinfo : (P.info? e).map (fun i => (i.zero, i.size, i.bytes)) = some (some z, 1, by_)) (hz : z.cells = #[z])
    (kl kc : IntKind) (L C : Int) (n : Nat) (hl : a.eval l = .int kl L) (hc : a.eval c = .int kc C) (hL : L = (n : Int)) (hC : C = (n : Int)) (b2 : by_ * n ≤ 281474976710656) (b3 : n ≤ maxLen)
    (hK : ∀ w', Row e w' w.heap.size (List.replicate n z) → Below w.heap.size w w' → wpList P ops Q rest (a.put o.dst (.slice (some ⟨w.heap.size, 0, none⟩) n n)) w') :
    wpList P ops Q (o :: rest) a w := by
  obtain ⟨i, hi, hz0, hz1, hz2⟩ := info_parts hinfo
  refine wpList_make_full w hg l c t hop w.heap.size e i z 1 h1 hi hz0 hz1 kl kc L C n hl hc hL hC (by rw [hz2]; exact b2) b3 (Nat.le_refl _) ?_
  intro w' hown hgr
  rw [Nat.mul_one, madeCells_one z hz] at hown
  exact hK w' (Row.of_owns hown) ((Below.refl w.heap.size w).grown hgr (Nat.le_refl _) (fun k hk => by cases hk))
theorem nums_replicate (K : IntKind) (n d : Nat) : List.replicate n (Value.int K (d : Int)) = nums K (List.replicate n d) := by simp [nums]
end Go.Proofs.YtmhmkhdgpfhnfaaGreatDoor
