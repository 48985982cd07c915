/- The program's IsWhole. -/
import Derived.Test.YtllhejjcmfiebaaDoorS25
import Derived.Test.YtllhejjcmfiebaaDoorS17
set_option linter.unusedVariables false
set_option linter.unusedSimpArgs false
set_option linter.unnecessarySimpa false
namespace Go.Proofs.YtllhejjcmfiebaaDoor
open Go.RowKit Go.Shelf

set_option maxRecDepth 100000 in
set_option maxHeartbeats 2000000 in
theorem whole_go (v : Value) (n : Int) (l : Ps) (w : World) (hl : SlP w v l) (ht : Tab w) (h : checkB n l = 0) :
    Calls Tryd.prog 19 #[.int .i64 n, v] w fun e w' => e = .returned (.tuple #[.bool (wholeB n.toNat (toE l)), .int .i64 0]) ∧ Below w.heap.size w w' := by
  have HG := Lib.hid (given_nil v n l w hl ht h)
  obtain ⟨N, rfl, hn2, hn9, hE⟩ := check_lt h
  rw [Int.toNat_natCast] at HG ⊢
  have HW := Lib.hid (fun g W (hb : BoardR W g N (toE l)) (hB : Below w.heap.size w W) => isWhole_go g N (toE l) hn2 hn9 hE W hb (ht.below hB ht.lt))
  obtain ⟨V, hV⟩ : ∃ V, wholeB N (toE l) = V := ⟨_, rfl⟩
  rw [hV] at HW ⊢
  obtain ⟨p, cap, rfl, hl1, hl2⟩ := hl.len
  clear hl ht h hE hV
  go_enter Tryd.func19, Tryd.ntmps19
  go_wp2_with (first
    | (go_at_call 49; refine (HG.out).mono ?_; rintro e w1 ⟨g, ⟨rfl, hg, hbr⟩, hb1⟩; have HS := Lib.hid (HW.out g w1 hbr hb1); have HB1 := Lib.hid hb1; clear hb1 hbr)
    | (go_at_call 54; refine HS.out.mono ?_; rintro e w2 ⟨rfl, hb2⟩; have HB2 := Lib.hid (HB1.out.trans (hb2.mono HB1.out.size)); clear hb2))
  go_ret2
  exact ⟨rfl, HB2.out⟩
/-- a number put in place i -/
def insN (out : List Int) (i : Nat) (x : Int) : List Int := out.take i ++ [x] ++ out.drop i
/-- where the law's own order puts number x -/
def atN (l : List Int) (x : Nat) : Nat := if x < l.length then ((IntKind.u64.wrap (l.getD x 0)).tmod ((x : Int) + 1)).toNat else 0
def ordN (l : List Int) : Nat → List Int
  | 0 => []
  | x + 1 => insN (ordN l x) (atN l x) x
theorem insN_len (out : List Int) (i : Nat) (x : Int) : (insN out i x).length = out.length + 1 := by
  unfold insN
  rw [List.length_append, List.length_append, List.length_take, List.length_drop]
  simp only [List.length_cons, List.length_nil]
  omega
theorem ordN_len (l : List Int) : ∀ x, (ordN l x).length = x
  | 0 => rfl
  | x + 1 => by show (insN _ _ _).length = _; rw [insN_len, ordN_len l x]
theorem ordN_mem (l : List Int) : ∀ x (y : Int), y ∈ ordN l x ↔ 0 ≤ y ∧ y < x
  | 0, y => by
    constructor
    · intro h; cases h
    · rintro ⟨h1, h2⟩; omega
  | x + 1, y => by
    show y ∈ (ordN l x).take (atN l x) ++ [(x : Int)] ++ (ordN l x).drop (atN l x) ↔ _
    have h : y ∈ (ordN l x).take (atN l x) ∨ y ∈ (ordN l x).drop (atN l x) ↔ y ∈ ordN l x := by
      rw [← List.mem_append, List.take_append_drop]
    have ih := ordN_mem l x y
    simp only [List.mem_append, List.mem_singleton]
    constructor
    · rintro ((h1 | rfl) | h1)
      · have := ih.1 (h.1 (.inl h1)); omega
      · omega
      · have := ih.1 (h.1 (.inr h1)); omega
    · intro hy
      by_cases hx : y = x
      · exact .inl (.inr hx)
      · rcases h.2 (ih.2 (by omega)) with h1 | h1
        · exact .inl (.inl h1)
        · exact .inr h1
theorem mask_bit (l : List Int) (b : Nat) : ∀ k, (mask l k).testBit b = true ↔ ∃ j, j < k ∧ (l.getD j 0).toNat = b
  | 0 => by
    constructor
    · intro h; change (0 : Nat).testBit b = true at h; simp at h
    · rintro ⟨j, h, _⟩; omega
  | k + 1 => by
    show (mask l k ||| 2 ^ (l.getD k 0).toNat).testBit b = true ↔ _
    rw [Nat.testBit_or, Bool.or_eq_true, mask_bit l b k, bit_pow, decide_eq_true_eq]
    constructor
    · rintro (⟨j, h1, h2⟩ | h)
      · exact ⟨j, by omega, h2⟩
      · exact ⟨k, by omega, h⟩
    · rintro ⟨j, h1, h2⟩
      by_cases hj : j = k
      · subst hj; exact .inr h2
      · exact .inl ⟨j, by omega, h2⟩
theorem ordN_pos {n : Nat} (hn2 : 2 ≤ n) (hn9 : n ≤ 9) (l : List Int) : posE n (ordN l n) = 0 := by
  have hlen := ordN_len l n
  have hmem : ∀ j, j < n → 0 ≤ (ordN l n).getD j 0 ∧ (ordN l n).getD j 0 < n := by
    intro j hj
    refine (ordN_mem l n _).1 ?_
    rw [List.getD_eq_getElem?_getD, List.getElem?_eq_getElem (by omega)]
    exact List.getElem_mem _
  have hb : posB n (ordN l n) = true := by
    unfold posB
    simp only [Bool.and_eq_true, decide_eq_true_eq]
    refine ⟨⟨hlen, List.all_eq_true.2 fun j hj => ?_⟩, ?_⟩
    · have := hmem j (List.mem_range.1 hj)
      unfold rngAt
      rw [Bool.and_eq_true, decide_eq_true_eq, decide_eq_true_eq]
      exact this
    · refine Nat.eq_of_testBit_eq fun b => ?_
      have h1 := mask_bit (ordN l n) b n
      have h2 := all_bit n b
      cases hm : (mask (ordN l n) n).testBit b with
      | true =>
        obtain ⟨j, hj, hjb⟩ := h1.1 hm
        have := hmem j hj
        exact (h2.2 (by omega)).symm
      | false =>
        cases hall : (2 ^ n - 1).testBit b with
        | false => rfl
        | true =>
          have hbn := h2.1 hall
          have hin := (ordN_mem l n (b : Int)).2 ⟨by omega, by omega⟩
          obtain ⟨j, hj⟩ := List.getElem?_of_mem hin
          have hjl := (List.getElem?_eq_some_iff.1 hj).1
          have : (mask (ordN l n) n).testBit b = true := h1.2 ⟨j, by omega, by rw [List.getD_eq_getElem?_getD, hj]; simp⟩
          rw [hm] at this; cases this
  have hs : sizeB (n : Int) = true := by
    simp only [sizeB, Bool.and_eq_true, decide_eq_true_eq]; omega
  unfold posE posR
  rw [if_pos (by rw [hs, Int.toNat_natCast, hb]; rfl)]
end Go.Proofs.YtllhejjcmfiebaaDoor
