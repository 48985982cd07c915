/- The program's IsWhole. -/
import Derived.Test.YtllhejjcmfiebaaDoorS25
import Derived.Test.YtllhejjcmfiebaaDoorS17
import Derived.Test.YtllhejjcmfiebaaDoorG5
set_option linter.unusedVariables false
set_option linter.unusedSimpArgs false
set_option linter.unnecessarySimpa false
namespace Go.Proofs.YtllhejjcmfiebaaDoor
open Go.RowKit Go.Shelf
def insN (out : List Int) (i : Nat) (x : Int) : List Int := out.take i ++ [x] ++ out.drop i
def atN (l : List Int) (x : Nat) : Nat := if x < l.length then ((IntKind.u64.wrap (l.getD x 0)).tmod ((x : Int) + 1)).toNat else 0
def ordN (l : List Int) : Nat → List Int
 | 0 => []
 | x + 1 => insN (ordN l x) (atN l x) x
theorem insN_len (out : List Int) (i : Nat) (x : Int) : (insN out i x).length = out.length + 1 := by
 unfold insN
 rw [List.length_append, List.length_append, List.length_take, List.length_drop]
 simp only [List.length_cons, List.length_nil]
 omega
theorem ordN_len (l : List Int) : ∀ x, (ordN l x).length = x
 | 0 => rfl
 | x + 1 => by show (insN _ _ _).length = _; rw [insN_len, ordN_len l x]
theorem ordN_mem (l : List Int) : ∀ x (y : Int), y ∈ ordN l x ↔ 0 ≤ y ∧ y < x
 | 0, y => by
  constructor
  ·intro h; cases h
  ·rintro ⟨h1, h2⟩; omega
 | x + 1, y => by
  show y ∈ (ordN l x).take (atN l x) ++ [(x : Int)] ++ (ordN l x).drop (atN l x) ↔ _
  have h : y ∈ (ordN l x).take (atN l x) ∨ y ∈ (ordN l x).drop (atN l x) ↔ y ∈ ordN l x := by
   rw [← List.mem_append, List.take_append_drop]
  have ih := ordN_mem l x y
  simp only [List.mem_append, List.mem_singleton]
  constructor
  ·rintro ((h1 | rfl) | h1)
   ·have := ih.1 (h.1 (.inl h1)); omega
   ·omega
   ·have := ih.1 (h.1 (.inr h1)); omega
  ·intro hy
   by_cases hx : y = x
   ·exact .inl (.inr hx)
   ·rcases h.2 (ih.2 (by omega)) with h1 | h1
    ·exact .inl (.inl h1)
    ·exact .inr h1
theorem mask_bit (l : List Int) (b : Nat) : ∀ k, (mask l k).testBit b = true ↔ ∃ j, j < k ∧ (l.getD j 0).toNat = b
 | 0 => by
  constructor
  ·intro h; change (0 : Nat).testBit b = true at h; simp at h
  ·rintro ⟨j, h, _⟩; omega
 | k + 1 => by
  show (mask l k ||| 2 ^ (l.getD k 0).toNat).testBit b = true ↔ _
  rw [Nat.testBit_or, Bool.or_eq_true, mask_bit l b k, bit_pow, decide_eq_true_eq]
  constructor
  ·rintro (⟨j, h1, h2⟩ | h)
   ·exact ⟨j, by omega, h2⟩
   ·exact ⟨k, by omega, h⟩
  ·rintro ⟨j, h1, h2⟩
   by_cases hj : j = k
   ·subst hj; exact .inr h2
   ·exact .inl ⟨j, by omega, h2⟩
end Go.Proofs.YtllhejjcmfiebaaDoor
namespace Go.Proofs.YtllhejjcmfiebaaDoor
open Go.RowKit Go.Shelf
theorem atN_le (l : List Int) (x : Nat) : atN l x ≤ x := by
 unfold atN
 split
 ·obtain ⟨m, h1, h2⟩ := tmodN (l.getD x 0) (x + 1) (by omega)
  have h3 : (IntKind.u64.wrap (l.getD x 0)).tmod ((x : Int) + 1) = (m : Int) := by simpa using h2
  rw [h3]; omega
 ·omega
theorem SlA.drop {w : World} {ad : Addr} {n cap : Nat} {xs : List Value} (h : SlA w (.slice (some ad) n cap) xs) (k : Nat) (hk : k ≤ n) : SlA w (.slice (some (ad.add k)) (n - k) (cap - k)) (xs.drop k) := by
 obtain ⟨p, c, hv, h1, h2, h3, h4⟩ := h
 cases hv
 have e : (xs.drop k).length = xs.length - k := by simp
 refine ⟨some (ad.add k), cap - k, by rw [e], by rw [e]; omega, by omega, (fun h => by cases h), fun h0 => ?_⟩
 rw [e] at h0
 obtain ⟨ad', hp, hb, hc⟩ := h4 (by omega)
 cases hp
 refine ⟨ad.add k, rfl, by rw [block_add]; exact hb, fun i hi => ?_⟩
 rw [e] at hi
 rw [Go.Deep.add_add, hc (k + i) (by omega), List.getElem?_drop]
set_option maxRecDepth 100000 in
set_option maxHeartbeats 4000000 in
theorem order_go (v : Value) (n : Nat) (l : List Int) (w : World) (hl : SlA w v (ints l)) (hn9 : n ≤ 9) :
  Calls Tryd.prog 29 #[.int .i64 n, v] w fun e w' => ∃ v', e = .returned v' ∧ Own 3 w.heap.size w' v' (ints (ordN l n)) ∧ Below w.heap.size w w' := by
 have HL := Lib.hid hl
 obtain ⟨p, cap, rfl, hl1, hl2⟩ := hl.form
 clear hl
 go_enter Tryd.func29, Tryd.ntmps29
 go_wp2
 go_loopw [5, 6] (fun ov i wr => ∃ k : Nat, k ≤ n ∧ i = .int .i64 k ∧ Own 3 w.heap.size wr ov (ints (ordN l k)) ∧ Below w.heap.size w wr) (fun _ i _ => n - (intOf i).toNat)
 case atStart => exact ⟨0, Nat.zero_le _, rfl, World.ownsRow_nil _ _ _ _, Below.refl _ _⟩
 case round =>
  obtain ⟨k, hk, rfl, hown, hbel⟩ := hrel
  by_cases hlt : k < n
  ·have hat := atN_le l k
   have HAT : Hid (atN l k = if k < l.length then ((IntKind.u64.wrap (l.getD k 0)).tmod ((k : Int) + 1)).toNat else 0) := rfl
   have HLO := Lib.hid (ordN_len l k)
   have HB := Lib.hid hbel
   have gkn : (k : Int) < (n : Int) := by omega
   by_cases hkl : k < l.length
   ·obtain ⟨ad, cap', hv, _, _, hg1, hc1⟩ := (HL.out.below hbel).int_at k hkl
    cases hv
    obtain ⟨m, hm1, hm2⟩ := tmodN (l.getD k 0) (k + 1) (by omega)
    have hm : (IntKind.u64.wrap (l.getD k 0)).tmod ((k : Int) + 1) = (m : Int) := by simpa using hm2
    have hA : atN l k = m := by rw [HAT.out, if_pos hkl, hm]; simp
    have HA := Lib.hid hA
    obtain ⟨y, hy⟩ : ∃ y, l.getD k 0 = y := ⟨_, rfl⟩
    rw [hy] at hc1 hm
    have hu1 : IntKind.u64.wrap ((k : Int) + 1) = (k : Int) + 1 := IntWalk.u64_in _ (by omega)
    clear hm2 hy HAT hA hat
    have gm : (m : Int) ≤ (k : Int) := by omega
    rcases hown.form_ with ⟨rfl, hx0⟩ | ⟨g, co, more, rfl, hg0, hco1, hco2, hce, hr⟩
    ·have hk0 : k = 0 := by have := congrArg List.length hx0; rw [ints_length, ordN_len] at this; simpa using this
     have hm0 : m = 0 := by omega
     subst hm0
     have HK0 := Lib.hid hk0
     have HS1 : Hid (SlA wr (.slice none 0 0) (ints ((ordN l k).take 0))) := SlA.nil wr
     have HDR : Hid (SlA wr (.slice none 0 0) (ints ((ordN l k).drop 0))) := by show SlA _ _ _; rw [hk0]; exact SlA.nil wr
     clear hown hbel hx0 hk0
     go_wp2_with (first
      | (at_builtin; refine wpList_append_sl _ rfl (.tmp 28) (.tmp 31) 23 rfl 3 (.int .i64 0) 8 Tryd.underlying23 Tryd.infoI rfl wr.heap.size (.slice none 0 0) [] rfl (World.ownsRow_nil _ _ _ _) _ (ints ((ordN l k).take 0)) rfl HS1.out (ints_one _) (by rw [ints_length, List.length_take]; simp [maxLen] <;> omega) (by rw [ints_length, List.length_take]; simp <;> omega) (Nat.le_refl _) ?_; intro v1 w1 hown1 hg1; have HO1 := Lib.hid hown1; have HB1 := Lib.hid ((Below.refl wr.heap.size wr).grown hg1 (Nat.le_refl _) (fun k hk => by cases hk)); clear hown1 hg1)
      | (at_builtin; refine wpList_append_box w1 rfl (.tmp 33) (.tmp 35) 23 rfl 3 (.int .i64 0) 8 Tryd.underlying23 Tryd.infoI rfl (by omega) wr.heap.size v1 _ rfl HO1.out (.int .i64 (k : Int)) rfl rfl (by rw [List.nil_append, ints_length, List.length_take]; omega) HB1.out.size ?_; intro v2 w2 hown2 hb2 _; have HO2 := Lib.hid hown2; have HB2 := Lib.hid (HB1.out.trans hb2); clear hown2 hb2)
      | (at_builtin; refine wpList_append_sl _ rfl (.tmp 37) (.tmp 40) 23 rfl 3 (.int .i64 0) 8 Tryd.underlying23 Tryd.infoI rfl wr.heap.size v2 _ rfl HO2.out _ (ints ((ordN l k).drop 0)) rfl (HDR.out.below HB2.out) (ints_one _) (by rw [List.length_append, List.length_append, ints_length, ints_length, List.length_take, List.length_drop, ordN_len]; simp [maxLen] <;> omega) (by rw [List.length_append, List.length_append, ints_length, ints_length, List.length_take, List.length_drop, ordN_len]; simp <;> omega) HB2.out.size ?_; intro v3 w3 hown3 hg3; have HO3 := Lib.hid hown3; have HB3 := Lib.hid (HB2.out.grown hg3 HB2.out.size (fun q hq => (World.ownsRow.lt HO2.out q hq).1)); clear hown3 hg3))
     go_roundw
     case rel =>
      refine ⟨k + 1, by omega, by go_num, ?_, HB.out.trans (HB3.out.mono HB.out.size)⟩
      have e : ints (ordN l (k + 1)) = ([] ++ ints ((ordN l k).take 0)) ++ [.int .i64 (k : Int)] ++ ints ((ordN l k).drop 0) := by
       show ints (insN (ordN l k) (atN l k) k) = _
       rw [HA.out]; simp [insN, ints]
      rw [e]
      exact HO3.out.base HB.out.size
     case measure => simp [intOf]; omega
    ·have hS : SlA wr (.slice (some ⟨g, 0, none⟩) k co) (ints (ordN l k)) := by have := hown.sl.toA; rw [ints_length, ordN_len] at this; exact this
     have HS1 : Hid (SlA wr (.slice (some ⟨g, 0, none⟩) m co) (ints ((ordN l k).take m))) := by show SlA _ _ _; rw [← ints_take]; exact hS.take m (by omega)
     rw [ints_length, ordN_len] at hco1 ⊢
     have hmc : m ≤ co := by omega
     unfold maxLen at hco2
     by_cases hcm : co = m
     ·obtain rfl : k = m := by omega
      subst hcm
      have HDR : Hid (SlA wr (.slice (some ⟨g, 0, none⟩) 0 0) (ints ((ordN l co).drop co))) := by
       show SlA _ _ _
       rw [List.drop_of_length_le (by rw [ordN_len]; omega)]
       exact ⟨_, 0, rfl, Nat.le_refl _, by omega, (fun h => by cases h), fun h => absurd h (by simp [ints])⟩
      clear hown hbel hS hr hce more
      go_wp2_with (first
       | (at_builtin; refine wpList_append_sl _ rfl (.tmp 28) (.tmp 31) 23 rfl 3 (.int .i64 0) 8 Tryd.underlying23 Tryd.infoI rfl wr.heap.size (.slice none 0 0) [] rfl (World.ownsRow_nil _ _ _ _) _ (ints ((ordN l co).take co)) rfl HS1.out (ints_one _) (by rw [ints_length, List.length_take]; simp [maxLen] <;> omega) (by rw [ints_length, List.length_take]; simp <;> omega) (Nat.le_refl _) ?_; intro v1 w1 hown1 hg1; have HO1 := Lib.hid hown1; have HB1 := Lib.hid ((Below.refl wr.heap.size wr).grown hg1 (Nat.le_refl _) (fun k hk => by cases hk)); clear hown1 hg1)
       | (at_builtin; refine wpList_append_box w1 rfl (.tmp 33) (.tmp 35) 23 rfl 3 (.int .i64 0) 8 Tryd.underlying23 Tryd.infoI rfl (by omega) wr.heap.size v1 _ rfl HO1.out (.int .i64 (co : Int)) rfl rfl (by rw [List.nil_append, ints_length, List.length_take]; omega) HB1.out.size ?_; intro v2 w2 hown2 hb2 _; have HO2 := Lib.hid hown2; have HB2 := Lib.hid (HB1.out.trans hb2); clear hown2 hb2)
       | (at_builtin; refine wpList_append_sl _ rfl (.tmp 37) (.tmp 40) 23 rfl 3 (.int .i64 0) 8 Tryd.underlying23 Tryd.infoI rfl wr.heap.size v2 _ rfl HO2.out _ (ints ((ordN l co).drop co)) rfl (HDR.out.below HB2.out) (ints_one _) (by rw [List.length_append, List.length_append, ints_length, ints_length, List.length_take, List.length_drop, ordN_len]; simp [maxLen] <;> omega) (by rw [List.length_append, List.length_append, ints_length, ints_length, List.length_take, List.length_drop, ordN_len]; simp <;> omega) HB2.out.size ?_; intro v3 w3 hown3 hg3; have HO3 := Lib.hid hown3; have HB3 := Lib.hid (HB2.out.grown hg3 HB2.out.size (fun q hq => (World.ownsRow.lt HO2.out q hq).1)); clear hown3 hg3))
      go_roundw
      case rel =>
       refine ⟨co + 1, by omega, by go_num, ?_, HB.out.trans (HB3.out.mono HB.out.size)⟩
       have e : ints (ordN l (co + 1)) = ([] ++ ints ((ordN l co).take co)) ++ [.int .i64 (co : Int)] ++ ints ((ordN l co).drop co) := by
        show ints (insN (ordN l co) (atN l co) co) = _
        rw [HA.out]; simp [insN, ints]
       rw [e]
       exact HO3.out.base HB.out.size
      case measure => simp [intOf]; omega
     ·have HDR : Hid (SlA wr (.slice (some ⟨g, m, none⟩) (k - m) (co - m)) (ints ((ordN l k).drop m))) := by
       show SlA _ _ _
       have := hS.drop m (by omega)
       rw [add_none, Nat.zero_add] at this
       rwa [show (ints (ordN l k)).drop m = ints ((ordN l k).drop m) by simp [ints]] at this
      clear hown hbel hS hr hce more
      go_wp2_with (first
       | (at_builtin; refine wpList_append_sl _ rfl (.tmp 28) (.tmp 31) 23 rfl 3 (.int .i64 0) 8 Tryd.underlying23 Tryd.infoI rfl wr.heap.size (.slice none 0 0) [] rfl (World.ownsRow_nil _ _ _ _) _ (ints ((ordN l k).take m)) rfl HS1.out (ints_one _) (by rw [ints_length, List.length_take]; simp [maxLen] <;> omega) (by rw [ints_length, List.length_take]; simp <;> omega) (Nat.le_refl _) ?_; intro v1 w1 hown1 hg1; have HO1 := Lib.hid hown1; have HB1 := Lib.hid ((Below.refl wr.heap.size wr).grown hg1 (Nat.le_refl _) (fun k hk => by cases hk)); clear hown1 hg1)
       | (at_builtin; refine wpList_append_box w1 rfl (.tmp 33) (.tmp 35) 23 rfl 3 (.int .i64 0) 8 Tryd.underlying23 Tryd.infoI rfl (by omega) wr.heap.size v1 _ rfl HO1.out (.int .i64 (k : Int)) rfl rfl (by rw [List.nil_append, ints_length, List.length_take]; omega) HB1.out.size ?_; intro v2 w2 hown2 hb2 _; have HO2 := Lib.hid hown2; have HB2 := Lib.hid (HB1.out.trans hb2); clear hown2 hb2)
       | (at_builtin; refine wpList_append_sl _ rfl (.tmp 37) (.tmp 40) 23 rfl 3 (.int .i64 0) 8 Tryd.underlying23 Tryd.infoI rfl wr.heap.size v2 _ rfl HO2.out _ (ints ((ordN l k).drop m)) rfl (HDR.out.below HB2.out) (ints_one _) (by rw [List.length_append, List.length_append, ints_length, ints_length, List.length_take, List.length_drop, ordN_len]; simp [maxLen] <;> omega) (by rw [List.length_append, List.length_append, ints_length, ints_length, List.length_take, List.length_drop, ordN_len]; simp <;> omega) HB2.out.size ?_; intro v3 w3 hown3 hg3; have HO3 := Lib.hid hown3; have HB3 := Lib.hid (HB2.out.grown hg3 HB2.out.size (fun q hq => (World.ownsRow.lt HO2.out q hq).1)); clear hown3 hg3))
      go_roundw
      case rel =>
       refine ⟨k + 1, by omega, by go_num, ?_, HB.out.trans (HB3.out.mono HB.out.size)⟩
       have e : ints (ordN l (k + 1)) = ([] ++ ints ((ordN l k).take m)) ++ [.int .i64 (k : Int)] ++ ints ((ordN l k).drop m) := by
        show ints (insN (ordN l k) (atN l k) k) = _
        rw [HA.out]; simp [insN, ints]
       rw [e]
       exact HO3.out.base HB.out.size
      case measure => simp [intOf]; omega
   ·obtain ⟨m, hm⟩ : ∃ m : Nat, m = 0 := ⟨_, rfl⟩
    have hA : atN l k = m := by rw [HAT.out, if_neg hkl, hm]
    have HA := Lib.hid hA
    have gkl : (l.length : Int) ≤ (k : Int) := by omega
    clear HAT hA hat
    have hmk : m ≤ k := by omega
    have gm : (m : Int) ≤ (k : Int) := by omega
    rcases hown.form_ with ⟨rfl, hx0⟩ | ⟨g, co, more, rfl, hg0, hco1, hco2, hce, hr⟩
    ·have hk0 : k = 0 := by have := congrArg List.length hx0; rw [ints_length, ordN_len] at this; simpa using this
     have hm0 : m = 0 := by omega
     subst hm
     have HK0 := Lib.hid hk0
     have HS1 : Hid (SlA wr (.slice none 0 0) (ints ((ordN l k).take 0))) := SlA.nil wr
     have HDR : Hid (SlA wr (.slice none 0 0) (ints ((ordN l k).drop 0))) := by show SlA _ _ _; rw [hk0]; exact SlA.nil wr
     clear hown hbel hx0 hk0
     go_wp2_with (first
      | (at_builtin; refine wpList_append_sl _ rfl (.tmp 28) (.tmp 31) 23 rfl 3 (.int .i64 0) 8 Tryd.underlying23 Tryd.infoI rfl wr.heap.size (.slice none 0 0) [] rfl (World.ownsRow_nil _ _ _ _) _ (ints ((ordN l k).take 0)) rfl HS1.out (ints_one _) (by rw [ints_length, List.length_take]; simp [maxLen] <;> omega) (by rw [ints_length, List.length_take]; simp <;> omega) (Nat.le_refl _) ?_; intro v1 w1 hown1 hg1; have HO1 := Lib.hid hown1; have HB1 := Lib.hid ((Below.refl wr.heap.size wr).grown hg1 (Nat.le_refl _) (fun k hk => by cases hk)); clear hown1 hg1)
      | (at_builtin; refine wpList_append_box w1 rfl (.tmp 33) (.tmp 35) 23 rfl 3 (.int .i64 0) 8 Tryd.underlying23 Tryd.infoI rfl (by omega) wr.heap.size v1 _ rfl HO1.out (.int .i64 (k : Int)) rfl rfl (by rw [List.nil_append, ints_length, List.length_take]; omega) HB1.out.size ?_; intro v2 w2 hown2 hb2 _; have HO2 := Lib.hid hown2; have HB2 := Lib.hid (HB1.out.trans hb2); clear hown2 hb2)
      | (at_builtin; refine wpList_append_sl _ rfl (.tmp 37) (.tmp 40) 23 rfl 3 (.int .i64 0) 8 Tryd.underlying23 Tryd.infoI rfl wr.heap.size v2 _ rfl HO2.out _ (ints ((ordN l k).drop 0)) rfl (HDR.out.below HB2.out) (ints_one _) (by rw [List.length_append, List.length_append, ints_length, ints_length, List.length_take, List.length_drop, ordN_len]; simp [maxLen] <;> omega) (by rw [List.length_append, List.length_append, ints_length, ints_length, List.length_take, List.length_drop, ordN_len]; simp <;> omega) HB2.out.size ?_; intro v3 w3 hown3 hg3; have HO3 := Lib.hid hown3; have HB3 := Lib.hid (HB2.out.grown hg3 HB2.out.size (fun q hq => (World.ownsRow.lt HO2.out q hq).1)); clear hown3 hg3))
     go_roundw
     case rel =>
      refine ⟨k + 1, by omega, by go_num, ?_, HB.out.trans (HB3.out.mono HB.out.size)⟩
      have e : ints (ordN l (k + 1)) = ([] ++ ints ((ordN l k).take 0)) ++ [.int .i64 (k : Int)] ++ ints ((ordN l k).drop 0) := by
       show ints (insN (ordN l k) (atN l k) k) = _
       rw [HA.out]; simp [insN, ints]
      rw [e]
      exact HO3.out.base HB.out.size
     case measure => simp [intOf]; omega
    ·have hS : SlA wr (.slice (some ⟨g, 0, none⟩) k co) (ints (ordN l k)) := by have := hown.sl.toA; rw [ints_length, ordN_len] at this; exact this
     have HS1 : Hid (SlA wr (.slice (some ⟨g, 0, none⟩) m co) (ints ((ordN l k).take m))) := by show SlA _ _ _; rw [← ints_take]; exact hS.take m (by omega)
     rw [ints_length, ordN_len] at hco1 ⊢
     have hmc : m ≤ co := by omega
     unfold maxLen at hco2
     subst hm
     have HDR : Hid (SlA wr (.slice (some ⟨g, 0, none⟩) k co) (ints ((ordN l k).drop 0))) := hS
     clear hown hbel hS hr hce more
     go_wp2_with (first
      | (at_builtin; refine wpList_append_sl _ rfl (.tmp 28) (.tmp 31) 23 rfl 3 (.int .i64 0) 8 Tryd.underlying23 Tryd.infoI rfl wr.heap.size (.slice none 0 0) [] rfl (World.ownsRow_nil _ _ _ _) _ (ints ((ordN l k).take 0)) rfl HS1.out (ints_one _) (by rw [ints_length, List.length_take]; simp [maxLen] <;> omega) (by rw [ints_length, List.length_take]; simp <;> omega) (Nat.le_refl _) ?_; intro v1 w1 hown1 hg1; have HO1 := Lib.hid hown1; have HB1 := Lib.hid ((Below.refl wr.heap.size wr).grown hg1 (Nat.le_refl _) (fun k hk => by cases hk)); clear hown1 hg1)
      | (at_builtin; refine wpList_append_box w1 rfl (.tmp 33) (.tmp 35) 23 rfl 3 (.int .i64 0) 8 Tryd.underlying23 Tryd.infoI rfl (by omega) wr.heap.size v1 _ rfl HO1.out (.int .i64 (k : Int)) rfl rfl (by rw [List.nil_append, ints_length, List.length_take]; omega) HB1.out.size ?_; intro v2 w2 hown2 hb2 _; have HO2 := Lib.hid hown2; have HB2 := Lib.hid (HB1.out.trans hb2); clear hown2 hb2)
      | (at_builtin; refine wpList_append_sl _ rfl (.tmp 37) (.tmp 40) 23 rfl 3 (.int .i64 0) 8 Tryd.underlying23 Tryd.infoI rfl wr.heap.size v2 _ rfl HO2.out _ (ints ((ordN l k).drop 0)) rfl (HDR.out.below HB2.out) (ints_one _) (by rw [List.length_append, List.length_append, ints_length, ints_length, List.length_take, List.length_drop, ordN_len]; simp [maxLen] <;> omega) (by rw [List.length_append, List.length_append, ints_length, ints_length, List.length_take, List.length_drop, ordN_len]; simp <;> omega) HB2.out.size ?_; intro v3 w3 hown3 hg3; have HO3 := Lib.hid hown3; have HB3 := Lib.hid (HB2.out.grown hg3 HB2.out.size (fun q hq => (World.ownsRow.lt HO2.out q hq).1)); clear hown3 hg3))
     go_roundw
     case rel =>
      refine ⟨k + 1, by omega, by go_num, ?_, HB.out.trans (HB3.out.mono HB.out.size)⟩
      have e : ints (ordN l (k + 1)) = ([] ++ ints ((ordN l k).take 0)) ++ [.int .i64 (k : Int)] ++ ints ((ordN l k).drop 0) := by
       show ints (insN (ordN l k) (atN l k) k) = _
       rw [HA.out]; simp [insN, ints]
      rw [e]
      exact HO3.out.base HB.out.size
     case measure => simp [intOf]; omega
  ·obtain rfl : k = n := by omega
   have HOWN := Lib.hid hown
   have HB := Lib.hid hbel
   clear hown hbel
   go_wp2
   go_ret
   exact ⟨_, rfl, HOWN.out, HB.out⟩
end Go.Proofs.YtllhejjcmfiebaaDoor
namespace Go.Proofs.YtllhejjcmfiebaaDoor
open Go.RowKit Go.Shelf
def left (U : Nat) : Nat := (List.range 81).countP fun i => !U.testBit i
end Go.Proofs.YtllhejjcmfiebaaDoor
