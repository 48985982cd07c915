/- The program's IsWhole. -/
import Derived.Test.YtllhejjcmfiebaaDoorS25
import Derived.Test.YtllhejjcmfiebaaDoorS17
import Derived.Test.YtllhejjcmfiebaaDoorG5
set_option linter.unusedVariables false
set_option linter.unusedSimpArgs false
set_option linter.unnecessarySimpa false
/- The program's IsWhole. -/
namespace Go.Proofs.YtllhejjcmfiebaaDoor
open Go.RowKit Go.Shelf

end Go.Proofs.YtllhejjcmfiebaaDoor
/- The law's own order: its walk. -/
namespace Go.Proofs.YtllhejjcmfiebaaDoor
open Go.RowKit Go.Shelf

theorem SlA.drop {w : World} {ad : Addr} {n cap : Nat} {xs : List Value} (h : SlA w (.slice (some ad) n cap) xs) (k : Nat) (hk : k ≤ n) : SlA w (.slice (some (ad.add k)) (n - k) (cap - k)) (xs.drop k) := by
  obtain ⟨p, c, hv, h1, h2, h3, h4⟩ := h
  cases hv
  have e : (xs.drop k).length = xs.length - k := by simp
  refine ⟨some (ad.add k), cap - k, by rw [e], by rw [e]; omega, by omega, (fun h => by cases h), fun h0 => ?_⟩
  rw [e] at h0
  obtain ⟨ad', hp, hb, hc⟩ := h4 (by omega)
  cases hp
  refine ⟨ad.add k, rfl, by rw [block_add]; exact hb, fun i hi => ?_⟩
  rw [e] at hi
  rw [Go.Deep.add_add, hc (k + i) (by omega), List.getElem?_drop]
end Go.Proofs.YtllhejjcmfiebaaDoor
/- The law's own board (tame): its theory. -/
namespace Go.Proofs.YtllhejjcmfiebaaDoor
open Go.RowKit Go.Shelf

/-- the pairs of one row of the law's table, up to b -/
def inI (U a b : Nat) : Ps := ((List.range b).filter fun k => decide (a < k) && U.testBit (a * 9 + k)).map fun (k : Nat) => ((a : Int), (k : Int))
def inR (U n : Nat) : Nat → Ps
  | 0 => []
  | a + 1 => inR U n a ++ inI U a n
theorem inI_start (U a : Nat) : inI U a (a + 1) = [] := by
  unfold inI
  rw [List.filter_eq_nil_iff.2]
  · rfl
  · intro k hk
    have := List.mem_range.1 hk
    simp; omega
theorem inI_step {U a k : Nat} (h : a < k) : inI U a (k + 1) = inI U a k ++ (if U.testBit (a * 9 + k) then [((a : Int), (k : Int))] else []) := by
  unfold inI
  rw [List.range_succ, List.filter_append, List.map_append]
  congr 1
  cases hb : U.testBit (a * 9 + k) <;> simp [h, hb]
theorem inI_mem {U a b : Nat} {p : Int × Int} : p ∈ inI U a b ↔ ∃ k : Nat, p = ((a : Int), (k : Int)) ∧ k < b ∧ a < k ∧ U.testBit (a * 9 + k) = true := by
  unfold inI
  simp only [List.mem_map, List.mem_filter, List.mem_range, Bool.and_eq_true, decide_eq_true_eq]
  constructor
  · rintro ⟨k, ⟨h1, h2, h3⟩, rfl⟩; exact ⟨k, rfl, h1, h2, h3⟩
  · rintro ⟨k, rfl, h1, h2, h3⟩; exact ⟨k, ⟨h1, h2, h3⟩, rfl⟩
theorem inR_mem {U n : Nat} {p : Int × Int} : ∀ m, p ∈ inR U n m ↔ ∃ a k : Nat, p = ((a : Int), (k : Int)) ∧ a < m ∧ k < n ∧ a < k ∧ U.testBit (a * 9 + k) = true
  | 0 => by
    constructor
    · intro h; cases h
    · rintro ⟨a, k, _, h, _⟩; omega
  | m + 1 => by
    show p ∈ inR U n m ++ inI U m n ↔ _
    rw [List.mem_append, inR_mem m, inI_mem]
    constructor
    · rintro (⟨a, k, h1, h2, h3⟩ | ⟨k, h1, h2, h3, h4⟩)
      · exact ⟨a, k, h1, by omega, h3⟩
      · exact ⟨m, k, h1, by omega, h2, h3, h4⟩
    · rintro ⟨a, k, h1, h2, h3, h4, h5⟩
      by_cases h : a = m
      · subst h; exact .inr ⟨k, h1, h3, h4, h5⟩
      · exact .inl ⟨a, k, h1, by omega, h3, h4, h5⟩
theorem inI_len (U a b : Nat) : (inI U a b).length ≤ b := by
  unfold inI
  rw [List.length_map]
  have := List.length_filter_le (fun k => decide (a < k) && U.testBit (a * 9 + k)) (List.range b)
  simpa using this
theorem inR_len (U n : Nat) : ∀ m, (inR U n m).length ≤ m * n
  | 0 => by simp [inR]
  | m + 1 => by
    show (inR U n m ++ inI U m n).length ≤ _
    rw [List.length_append, Nat.add_mul, Nat.one_mul]
    have := inR_len U n m; have := inI_len U m n; omega
theorem inI_sorted (U a b : Nat) : (inI U a b).Pairwise fun x y => lexB x y = true := by
  unfold inI
  rw [List.pairwise_map]
  refine List.Pairwise.imp ?_ (List.Pairwise.filter _ List.pairwise_lt_range)
  intro x y h
  unfold lexB
  simp; omega
theorem inR_sorted (U n : Nat) : ∀ m, (inR U n m).Pairwise fun x y => lexB x y = true
  | 0 => List.Pairwise.nil
  | m + 1 => by
    show (inR U n m ++ inI U m n).Pairwise _
    rw [List.pairwise_append]
    refine ⟨inR_sorted U n m, inI_sorted U m n, fun x hx y hy => ?_⟩
    obtain ⟨a, k, rfl, h1, _⟩ := (inR_mem m).1 hx
    obtain ⟨k', rfl, _⟩ := inI_mem.1 hy
    unfold lexB
    simp; omega
theorem inR_ok (U n : Nat) (m : Nat) : boardOk (n : Int) (inR U n m) = true := by
  refine boardOk_yes fun j hj => ?_
  have hj' : (inR U n m)[j]? = some (inR U n m)[j] := List.getElem?_eq_getElem hj
  have hmem := List.getElem_mem hj
  obtain ⟨a, k, he, h1, h2, h3, h4⟩ := (inR_mem m).1 hmem
  unfold okAt
  rw [List.getD_eq_getElem?_getD, hj', Option.getD_some]
  unfold edgeOk
  have hl : lexB (prevOf (inR U n m) j) (inR U n m)[j] = true := by
    unfold prevOf
    split
    · rw [he]; unfold lexB; simp; omega
    · rename_i h0
      rw [List.getD_eq_getElem?_getD, List.getElem?_eq_getElem (show j - 1 < (inR U n m).length by omega), Option.getD_some]
      exact List.pairwise_iff_getElem.1 (inR_sorted U n m) (j - 1) j (by omega) hj (by omega)
  rw [hl, he]
  simp; omega
theorem inR_lt (U n m : Nat) : Lt (toE (inR U n m)) n := by
  intro e he
  unfold toE at he
  obtain ⟨p, hp, rfl⟩ := List.mem_map.1 he
  obtain ⟨a, k, rfl, h1, h2, h3, h4⟩ := (inR_mem m).1 hp
  dsimp only
  simp only [Int.toNat_natCast]
  omega
/-- what the law's rounds see -/
def seenS (U n : Nat) (r : Nat) : Nat := rnds (-1) (toE (inR U n n)) r 1
theorem joined_seen {U n : Nat} (hn2 : 2 ≤ n) : joinedP n (toE (inR U n n)) (-1) = allSeen n (-1) (seenS U n n) := by
  unfold joinedP
  rw [if_neg (by unfold firstOf; simp; omega)]
  rfl
/-- how many pairs are not in the table -/
def left (U : Nat) : Nat := (List.range 81).countP fun i => !U.testBit i
theorem left_lt {U i : Nat} (h : i < 81) (hb : U.testBit i = false) : left (U ||| 2 ^ i) < left U := by
  unfold left
  refine countP_lt _ (fun x _ hx => ?_) ⟨i, List.mem_range.2 h, by rw [hb]; rfl, ?_⟩
  · rw [Nat.testBit_or] at hx
    cases hu : U.testBit x
    · rfl
    · rw [hu] at hx; simp at hx
  · rw [Nat.testBit_or, bit_pow]; simp
/-- where the board is not connected there is a first place that is not seen, and its edge to the place before is not in the table -/
theorem unseen {U n : Nat} (hn2 : 2 ≤ n) (hn9 : n ≤ 9) (h : joinedP n (toE (inR U n n)) (-1) = false) : ∃ k, k < n ∧ (seenS U n n).testBit k = false := by
  rw [joined_seen hn2] at h
  unfold allSeen at h
  rw [List.all_eq_false] at h
  obtain ⟨k, hk, hb⟩ := h
  refine ⟨k, List.mem_range.1 hk, ?_⟩
  cases hx : (seenS U n n).testBit k
  · rfl
  · rw [hx] at hb; simp at hb
theorem unseen_free {U n k : Nat} (hn2 : 2 ≤ n) (hn9 : n ≤ 9) (hk : k < n) (hb : (seenS U n n).testBit k = false) (hall : ∀ j, j < k → (seenS U n n).testBit j = true) : 1 ≤ k ∧ U.testBit ((k - 1) * 9 + k) = false := by
  have hL := rnds_is (inR_lt U n n) hn9 (-1) (show firstOf (-1) < n by unfold firstOf; simp; omega) (by unfold firstOf; simp)
  have hS : rnds (-1) (toE (inR U n n)) n (2 ^ firstOf (-1)) = seenS U n n := rfl
  rw [hS] at hL
  have h0 : (seenS U n n).testBit 0 = true := hL.has
  have hk1 : 1 ≤ k := by
    rcases Nat.eq_zero_or_pos k with h | h
    · subst h; rw [h0] at hb; cases hb
    · exact h
  refine ⟨hk1, ?_⟩
  cases hu : U.testBit ((k - 1) * 9 + k)
  · rfl
  · exfalso
    have hadj : Adj (toE (inR U n n)) (k - 1) k := by
      refine .inl ?_
      unfold toE
      exact List.mem_map.2 ⟨(((k - 1 : Nat) : Int), (k : Int)), (inR_mem n).2 ⟨k - 1, k, rfl, by omega, hk, by omega, hu⟩, by simp⟩
    have := hL.closed (k - 1) k hadj ⟨by omega, by omega⟩ ⟨hk, by omega⟩ (hall _ (by omega))
    rw [hb] at this; cases this
theorem inR_check {U n : Nat} (hn2 : 2 ≤ n) (hn9 : n ≤ 9) (h : joinedP n (toE (inR U n n)) (-1) = true) : checkB (n : Int) (inR U n n) = 0 := by
  unfold checkB
  rw [if_pos (by simp only [sizeB, Bool.and_eq_true, decide_eq_true_eq]; omega), inR_ok, Int.toNat_natCast, h]
  rfl
end Go.Proofs.YtllhejjcmfiebaaDoor
