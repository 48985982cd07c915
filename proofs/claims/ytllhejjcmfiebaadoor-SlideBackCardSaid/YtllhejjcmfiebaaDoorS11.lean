/- The reference's joined. -/
import Derived.Test.YtllhejjcmfiebaaDoorS7
set_option linter.unusedVariables false
set_option linter.unusedSimpArgs false
set_option linter.unnecessarySimpa false
namespace Go.Proofs.YtllhejjcmfiebaaDoor
open Go.RowKit Go.Shelf
theorem Tryd.infoB : (Tryd.prog.info? 4).map (fun i => (i.zero, i.size, i.bytes)) = some (some (.bool false), 1, 1) := by kernel_rfl
def seenC (n S : Nat) : List Value := (List.range n).map fun i => .bool (S.testBit i)
theorem seenC_get {n S i : Nat} (h : i < n) : (seenC n S)[i]? = some (.bool (S.testBit i)) := by simp [seenC, h]
theorem seenC_set {n S a : Nat} : (seenC n S).set a (.bool true) = seenC n (S ||| 2 ^ a) := by
 refine List.ext_getElem? fun k => ?_
 rw [List.getElem?_set]
 by_cases hk : k < n
 ·rw [seenC_get hk, seenC_get hk, Nat.testBit_or, bit_pow]
  by_cases h : a = k
  ·subst h; simp [seenC, hk]
  ·simp [h]
 ·have hn : ∀ S, (seenC n S)[k]? = none := fun S => by simp [seenC]; omega
  rw [hn, hn]
  by_cases h : a = k
  ·subst h; simp [seenC]; omega
  ·simp [h]
theorem seenC_zero (n : Nat) : List.replicate n (Value.bool false) = seenC n 0 := by
 refine List.ext_getElem? fun k => ?_
 by_cases hk : k < n
 ·rw [seenC_get hk]; simp [hk]
 ·simp [seenC, hk]
def VE (l : Ps) (n : Nat) : Prop := ∀ k, k < l.length → ∃ i j : Nat, l[k]? = some ((i : Int), (j : Int)) ∧ i < n ∧ j < n
theorem seeS_no {but : Int} {S a b : Nat} (h : (a : Int) = but ∨ (b : Int) = but ∨ (S.testBit a = false ∧ S.testBit b = false)) : seeS but S (a, b) = S := by
 unfold seeS okb
 rcases h with h | h | ⟨h1, h2⟩
 ·simp [h]
 ·simp [h]
 ·simp [h1, h2]
theorem seeS_yes {but : Int} {S a b : Nat} (h1 : (a : Int) ≠ but) (h2 : (b : Int) ≠ but) (h : S.testBit a = true ∨ S.testBit b = true) : seeS but S (a, b) = (S ||| 2 ^ a) ||| 2 ^ b := by
 unfold seeS okb
 rcases h with h | h <;> simp [h1, h2, h]
theorem rnd_snoc (but : Int) (E : Es) (e : Nat × Nat) (S : Nat) : rnd but (E ++ [e]) S = seeS but (rnd but E S) e := by simp [rnd]
set_option maxRecDepth 100000 in
set_option maxHeartbeats 4000000 in
theorem joined_go (v : Value) (n : Nat) (but : Int) (l : Ps) (w : World) (hl : SlP w v l) (hv : VE l n) (hn2 : 2 ≤ n) (hn9 : n ≤ 9) (hbut : -9 ≤ but ∧ but ≤ 9) :
  Calls Tryd.prog 62 #[.int .i64 n, v, .int .i64 but] w fun e w' => e = .returned (.bool (joinedP n (toE l) but)) ∧ Below w.heap.size w w' := by
 obtain ⟨p, cap, rfl, hl1, hl2⟩ := hl.len
 have hff : firstOf but < n := by unfold firstOf; split <;> omega
 have HJ : Hid (joinedP n (toE l) but = allSeen n but (rnds but (toE l) n (2 ^ firstOf but))) := by show _ = _; unfold joinedP; rw [if_neg (by omega)]
 have HF : Hid (firstOf but = if but = 0 then 1 else 0) := rfl
 obtain ⟨f, hf⟩ : ∃ f, firstOf but = f := ⟨_, rfl⟩
 rw [hf] at hff HJ HF
 have HL := Lib.hid hl
 have HV := Lib.hid hv
 clear hl hv hf
 have hn40 : (n : Int) ≤ 9 := by omega
 by_cases hb0 : but = 0
 ·have hbd : (but == 0) = true := by rw [beq_iff_eq]; exact hb0
  have hf1 : f = 1 := by rw [HF.out, if_pos hb0]
  subst hf1
  clear hbd
  subst hb0
  have hbd : ((0 : Int) == 0) = true := rfl
  go_enter Tryd.func62, Tryd.ntmps62
  go_wp2_with (first | (at_make; refine wpList_make_row _ rfl _ _ 99 rfl 4 (.bool false) 1 Tryd.underlying99 Tryd.infoB rfl .i64 .i64 _ _ n rfl rfl ?d1 ?d2 ?d3 ?d4 ?_))
  case d1 => rfl
  case d2 => rfl
  case d3 => omega
  case d4 => simp [maxLen]; omega
  intro W1 hrow hb1
  rw [seenC_zero] at hrow
  have hcf := hrow.cell 1
  rw [seenC_get hff] at hcf
  have hfz := hrow.free 1
  have HROW0 : Hid (Row 4 (W1.setCell ⟨w.heap.size, 1, none⟩ (.bool true)) w.heap.size (seenC n (rnds 0 (toE l) 0 (2 ^ 1)))) := by
   show Row _ _ _ _
   have := hrow.store 1 (.bool true)
   rw [seenC_set, Nat.zero_or] at this
   exact this
  have HB0 := Lib.hid (hb1.setCell (p := ⟨w.heap.size, 1, none⟩) (Nat.le_refl _) (.bool true))
  clear hrow hb1
  go_wp2
  clear hcf hfz
  go_loopw [9] (fun rv wr => ∃ r : Nat, r ≤ n ∧ rv = .int .i64 r ∧ Row 4 wr w.heap.size (seenC n (rnds 0 (toE l) r (2 ^ 1))) ∧ Below w.heap.size w wr) (fun rv _ => n - (intOf rv).toNat)
  case atStart => exact ⟨0, Nat.zero_le _, rfl, HROW0.out, HB0.out⟩
  case round =>
   obtain ⟨r, hr, rfl, hrow, hbel⟩ := hrel
   clear HROW0 HB0
   by_cases hrn : r < n
   ·obtain ⟨S, hS⟩ : ∃ S, rnds 0 (toE l) r (2 ^ 1) = S := ⟨_, rfl⟩
    rw [hS] at hrow
    have HS1 : Hid (rnds 0 (toE l) (r + 1) (2 ^ 1) = rnd 0 (toE l) S) := by show _ = _; rw [← hS]; rfl
    have HROW1 : Hid (Row 4 wr w.heap.size (seenC n (rnd 0 (toE (l.take 0)) S))) := hrow
    have HB1 := Lib.hid hbel
    clear hrow hbel hS
    obtain ⟨wo, hwo⟩ : ∃ wo : World, wo = wr := ⟨_, rfl⟩
    subst hwo
    go_wp2
    go_loopw [10] (fun kv wr => ∃ k : Nat, k ≤ l.length ∧ kv = .int .i64 k ∧ Row 4 wr w.heap.size (seenC n (rnd 0 (toE (l.take k)) S)) ∧ Below w.heap.size w wr) (fun kv _ => l.length - (intOf kv).toNat)
    case atStart => exact ⟨0, Nat.zero_le _, rfl, HROW1.out, HB1.out⟩
    case round =>
     obtain ⟨k, hk, rfl, hrow, hbel⟩ := hrel
     clear HROW1 HB1
     by_cases hlt : k < l.length
     ·obtain ⟨ad, cap', e, hv, hg, hek, d1, d2⟩ := (HL.out.below hbel).at_ k hlt
      cases hv
      obtain ⟨i, j, hij, hi9, hj9⟩ := HV.out k hlt
      rw [hij] at hek
      cases hek
      dsimp only at d1 d2
      have HNEXT : Hid (rnd 0 (toE (l.take (k + 1))) S = seeS 0 (rnd 0 (toE (l.take k)) S) (i, j)) := by show _ = _; rw [toE_snoc hij, rnd_snoc]
      obtain ⟨U, hU⟩ : ∃ U, rnd 0 (toE (l.take k)) S = U := ⟨_, rfl⟩
      rw [hU] at hrow HNEXT
      have ci := hrow.cell i
      have cj := hrow.cell j
      rw [seenC_get hi9] at ci
      rw [seenC_get hj9] at cj
      have HROW := Lib.hid hrow
      have HB := Lib.hid hbel
      have gi9 : (i : Int) < (n : Int) := by omega
      have gj9 : (j : Int) < (n : Int) := by omega
      clear hrow hbel hij hU
      by_cases hbi : (i : Int) = 0
      ·have HWHY : Hid ((i : Int) = 0 ∨ (j : Int) = 0 ∨ (U.testBit i = false ∧ U.testBit j = false)) := .inl hbi
       have hne : ((i : Int) != 0) = false := by simp [hbi]
       clear hbi
       go_wp2
       go_quiet (fail)
       go_wp2
       go_roundw
       case rel => exact ⟨k + 1, by omega, by go_num, by rw [HNEXT.out, seeS_no HWHY.out]; exact HROW.out.below (below_drewN (Below.refl _ _) _) HROW.out.lt, below_drewN HB.out _⟩
       case measure => simp [intOf]; omega
      ·have hne : ((i : Int) != 0) = true := by rw [bne_iff_ne]; exact hbi
       by_cases hbj : (j : Int) = 0
       ·have HWHY : Hid ((i : Int) = 0 ∨ (j : Int) = 0 ∨ (U.testBit i = false ∧ U.testBit j = false)) := .inr (.inl hbj)
        have hne2 : ((j : Int) != 0) = false := by simp [hbj]
        clear hbj
        go_wp2
        go_quiet (fail)
        go_wp2
        go_roundw
        case rel => exact ⟨k + 1, by omega, by go_num, by rw [HNEXT.out, seeS_no HWHY.out]; exact HROW.out.below (below_drewN (Below.refl _ _) _) HROW.out.lt, below_drewN HB.out _⟩
        case measure => simp [intOf]; omega
       ·have hne2 : ((j : Int) != 0) = true := by rw [bne_iff_ne]; exact hbj
        by_cases hsee : U.testBit i = true ∨ U.testBit j = true
        ·have HSEE := Lib.hid hsee
         cases hti : U.testBit i with
         | true =>
          rw [hti] at ci
          clear hsee
          go_wp2
          go_quiet (fail)
          obtain ⟨W2, hW2⟩ : ∃ W2, wr.drewN nq = W2 := ⟨_, rfl⟩
          rw [hW2]
          have hb2 : Below wr.heap.size wr W2 := by rw [← hW2]; exact below_drewN (Below.refl _ _) nq
          have hr2 := HROW.out.below hb2 HROW.out.lt
          have HB2 := Lib.hid (HB.out.trans (hb2.mono HB.out.size))
          have k2 := hr2.cell i
          rw [seenC_get hi9] at k2
          have k3 := hr2.cell j
          rw [seenC_get hj9] at k3
          have f2 := hr2.free i
          have hr3 := hr2.store i (.bool true)
          rw [seenC_set] at hr3
          have m3 := hr3.cell j
          rw [seenC_get hj9] at m3
          have f3 := hr3.free j
          have hr4 := hr3.store j (.bool true)
          rw [seenC_set] at hr4
          have HR4 : Hid (Row 4 ((W2.setCell ⟨w.heap.size, i, none⟩ (.bool true)).setCell ⟨w.heap.size, j, none⟩ (.bool true)) w.heap.size (seenC n (rnd 0 (toE (l.take (k + 1))) S))) := by
           show Row _ _ _ _
           rw [HNEXT.out, seeS_yes hbi hbj HSEE.out]; exact hr4
          have HB4 := Lib.hid ((HB2.out.setCell (p := ⟨w.heap.size, i, none⟩) (Nat.le_refl _) (.bool true)).setCell (p := ⟨w.heap.size, j, none⟩) (Nat.le_refl _) (.bool true))
          clear hW2 hb2 hr2 hr3 hr4 ci cj
          rw [hti] at k2
          go_wp2
          go_roundw
          case rel => exact ⟨k + 1, by omega, by go_num, HR4.out, HB4.out⟩
          case measure => simp [intOf]; omega
         | false =>
          have htj : U.testBit j = true := by rcases hsee with h | h; (rw [hti] at h; cases h); exact h
          rw [hti] at ci
          rw [htj] at cj
          clear hsee
          go_wp2
          go_quiet (fail)
          obtain ⟨W2, hW2⟩ : ∃ W2, wr.drewN nq = W2 := ⟨_, rfl⟩
          rw [hW2]
          have hb2 : Below wr.heap.size wr W2 := by rw [← hW2]; exact below_drewN (Below.refl _ _) nq
          have hr2 := HROW.out.below hb2 HROW.out.lt
          have HB2 := Lib.hid (HB.out.trans (hb2.mono HB.out.size))
          have k2 := hr2.cell i
          rw [seenC_get hi9] at k2
          have k3 := hr2.cell j
          rw [seenC_get hj9] at k3
          have f2 := hr2.free i
          have hr3 := hr2.store i (.bool true)
          rw [seenC_set] at hr3
          have m3 := hr3.cell j
          rw [seenC_get hj9] at m3
          have f3 := hr3.free j
          have hr4 := hr3.store j (.bool true)
          rw [seenC_set] at hr4
          have HR4 : Hid (Row 4 ((W2.setCell ⟨w.heap.size, i, none⟩ (.bool true)).setCell ⟨w.heap.size, j, none⟩ (.bool true)) w.heap.size (seenC n (rnd 0 (toE (l.take (k + 1))) S))) := by
           show Row _ _ _ _
           rw [HNEXT.out, seeS_yes hbi hbj HSEE.out]; exact hr4
          have HB4 := Lib.hid ((HB2.out.setCell (p := ⟨w.heap.size, i, none⟩) (Nat.le_refl _) (.bool true)).setCell (p := ⟨w.heap.size, j, none⟩) (Nat.le_refl _) (.bool true))
          clear hW2 hb2 hr2 hr3 hr4 ci cj
          rw [hti] at k2
          rw [htj] at k3
          go_wp2
          go_roundw
          case rel => exact ⟨k + 1, by omega, by go_num, HR4.out, HB4.out⟩
          case measure => simp [intOf]; omega
        ·have h1 : U.testBit i = false := by cases h : U.testBit i; rfl; exact absurd (.inl h) hsee
         have h2 : U.testBit j = false := by cases h : U.testBit j; rfl; exact absurd (.inr h) hsee
         have HWHY : Hid ((i : Int) = 0 ∨ (j : Int) = 0 ∨ (U.testBit i = false ∧ U.testBit j = false)) := .inr (.inr ⟨h1, h2⟩)
         rw [h1] at ci
         rw [h2] at cj
         clear hsee
         go_wp2
         go_quiet (fail)
         go_wp2
         go_roundw
         case rel => exact ⟨k + 1, by omega, by go_num, by rw [HNEXT.out, seeS_no HWHY.out]; exact HROW.out.below (below_drewN (Below.refl _ _) _) HROW.out.lt, below_drewN HB.out _⟩
         case measure => simp [intOf]; omega
     ·obtain rfl : k = l.length := by omega
      rw [List.take_length] at hrow
      have HROW := Lib.hid hrow
      have HB := Lib.hid hbel
      clear hrow hbel
      go_wp2
      go_roundw
      case rel => exact ⟨r + 1, by omega, by go_num, by rw [HS1.out]; exact HROW.out, HB.out⟩
      case measure => simp [intOf]; omega
   ·obtain rfl : r = n := by omega
    have HROW := Lib.hid hrow
    have HB := Lib.hid hbel
    obtain ⟨U, hU⟩ : ∃ U, rnds 0 (toE l) r (2 ^ 1) = U := ⟨_, rfl⟩
    rw [hU] at HROW HJ
    obtain ⟨wo, hwo⟩ : ∃ wo : World, wo = wr := ⟨_, rfl⟩
    subst hwo
    clear hrow hbel hU
    go_wp2
    go_loopw [13] (fun kv wr => ∃ k : Nat, k ≤ r ∧ kv = .int .i64 k ∧ (∀ t, t < k → (decide ((t : Int) = 0) || U.testBit t) = true) ∧ wr = wo) (fun kv _ => r - (intOf kv).toNat)
    case atStart => exact ⟨0, Nat.zero_le _, rfl, fun t ht => by omega, rfl⟩
    case round =>
     obtain ⟨k, hk, rfl, hall, hwr⟩ := hrel
     subst hwr
     by_cases hlt : k < r
     ·have ck := HROW.out.cell k
      rw [seenC_get hlt] at ck
      have HALL := Lib.hid hall
      have gk : (k : Int) < (r : Int) := by omega
      have HNX : Hid ((decide ((k : Int) = 0) || U.testBit k) = true → ∀ t, t < k + 1 → (decide ((t : Int) = 0) || U.testBit t) = true) := by
       intro h t ht
       rcases Nat.lt_or_ge t k with g | g
       ·exact HALL.out t g
       ·have : t = k := by omega
        subst this; exact h
      clear hall
      by_cases hkb : (k : Int) = 0
      ·have hne : ((k : Int) != 0) = false := by simp [hkb]
       have HN2 := Lib.hid (HNX.out (by simp [hkb]))
       go_wp2
       go_roundw
       case rel => exact ⟨k + 1, by omega, by go_num, HN2.out, trivial⟩
       case measure => simp [intOf]; omega
      ·have hne : ((k : Int) != 0) = true := by rw [bne_iff_ne]; exact hkb
       cases hbit : U.testBit k with
       | true =>
        rw [hbit] at ck
        have HN2 := Lib.hid (HNX.out (by simp [hbit]))
        go_wp2
        go_roundw
        case rel => exact ⟨k + 1, by omega, by go_num, HN2.out, trivial⟩
        case measure => simp [intOf]; omega
       | false =>
        rw [hbit] at ck
        have HNO : Hid (allSeen r 0 U = false) := by
         show _ = _
         cases ha : allSeen r 0 U with
         | false => rfl
         | true =>
          have := List.all_eq_true.1 ha k (List.mem_range.2 hlt)
          simp [hkb, hbit] at this <;> omega
        go_wp2
        go_ret
        exact ⟨by rw [HJ.out, HNO.out]; rfl, HB.out⟩
     ·obtain rfl : k = r := by omega
      have HYES : Hid (allSeen k 0 U = true) := by
       show _ = _
       exact List.all_eq_true.2 fun t ht => hall t (List.mem_range.1 ht)
      clear hall
      go_wp2
      go_ret
      exact ⟨by rw [HJ.out, HYES.out]; rfl, HB.out⟩
 ·have hbd : (but == 0) = false := by rw [beq_eq_false_iff_ne]; exact hb0
  have hf1 : f = 0 := by rw [HF.out, if_neg hb0]
  subst hf1
  go_enter Tryd.func62, Tryd.ntmps62
  go_wp2_with (first | (at_make; refine wpList_make_row _ rfl _ _ 99 rfl 4 (.bool false) 1 Tryd.underlying99 Tryd.infoB rfl .i64 .i64 _ _ n rfl rfl ?d1 ?d2 ?d3 ?d4 ?_))
  case d1 => rfl
  case d2 => rfl
  case d3 => omega
  case d4 => simp [maxLen]; omega
  intro W1 hrow hb1
  rw [seenC_zero] at hrow
  have hcf := hrow.cell 0
  rw [seenC_get hff] at hcf
  have hfz := hrow.free 0
  have HROW0 : Hid (Row 4 (W1.setCell ⟨w.heap.size, 0, none⟩ (.bool true)) w.heap.size (seenC n (rnds but (toE l) 0 (2 ^ 0)))) := by
   show Row _ _ _ _
   have := hrow.store 0 (.bool true)
   rw [seenC_set, Nat.zero_or] at this
   exact this
  have HB0 := Lib.hid (hb1.setCell (p := ⟨w.heap.size, 0, none⟩) (Nat.le_refl _) (.bool true))
  clear hrow hb1
  go_wp2
  clear hcf hfz
  go_loopw [9] (fun rv wr => ∃ r : Nat, r ≤ n ∧ rv = .int .i64 r ∧ Row 4 wr w.heap.size (seenC n (rnds but (toE l) r (2 ^ 0))) ∧ Below w.heap.size w wr) (fun rv _ => n - (intOf rv).toNat)
  case atStart => exact ⟨0, Nat.zero_le _, rfl, HROW0.out, HB0.out⟩
  case round =>
   obtain ⟨r, hr, rfl, hrow, hbel⟩ := hrel
   clear HROW0 HB0
   by_cases hrn : r < n
   ·obtain ⟨S, hS⟩ : ∃ S, rnds but (toE l) r (2 ^ 0) = S := ⟨_, rfl⟩
    rw [hS] at hrow
    have HS1 : Hid (rnds but (toE l) (r + 1) (2 ^ 0) = rnd but (toE l) S) := by show _ = _; rw [← hS]; rfl
    have HROW1 : Hid (Row 4 wr w.heap.size (seenC n (rnd but (toE (l.take 0)) S))) := hrow
    have HB1 := Lib.hid hbel
    clear hrow hbel hS
    obtain ⟨wo, hwo⟩ : ∃ wo : World, wo = wr := ⟨_, rfl⟩
    subst hwo
    go_wp2
    go_loopw [10] (fun kv wr => ∃ k : Nat, k ≤ l.length ∧ kv = .int .i64 k ∧ Row 4 wr w.heap.size (seenC n (rnd but (toE (l.take k)) S)) ∧ Below w.heap.size w wr) (fun kv _ => l.length - (intOf kv).toNat)
    case atStart => exact ⟨0, Nat.zero_le _, rfl, HROW1.out, HB1.out⟩
    case round =>
     obtain ⟨k, hk, rfl, hrow, hbel⟩ := hrel
     clear HROW1 HB1
     by_cases hlt : k < l.length
     ·obtain ⟨ad, cap', e, hv, hg, hek, d1, d2⟩ := (HL.out.below hbel).at_ k hlt
      cases hv
      obtain ⟨i, j, hij, hi9, hj9⟩ := HV.out k hlt
      rw [hij] at hek
      cases hek
      dsimp only at d1 d2
      have HNEXT : Hid (rnd but (toE (l.take (k + 1))) S = seeS but (rnd but (toE (l.take k)) S) (i, j)) := by show _ = _; rw [toE_snoc hij, rnd_snoc]
      obtain ⟨U, hU⟩ : ∃ U, rnd but (toE (l.take k)) S = U := ⟨_, rfl⟩
      rw [hU] at hrow HNEXT
      have ci := hrow.cell i
      have cj := hrow.cell j
      rw [seenC_get hi9] at ci
      rw [seenC_get hj9] at cj
      have HROW := Lib.hid hrow
      have HB := Lib.hid hbel
      have gi9 : (i : Int) < (n : Int) := by omega
      have gj9 : (j : Int) < (n : Int) := by omega
      clear hrow hbel hij hU
      by_cases hbi : (i : Int) = but
      ·have HWHY : Hid ((i : Int) = but ∨ (j : Int) = but ∨ (U.testBit i = false ∧ U.testBit j = false)) := .inl hbi
       have hne : ((i : Int) != but) = false := by simp [hbi]
       clear hbi
       go_wp2
       go_quiet (fail)
       go_wp2
       go_roundw
       case rel => exact ⟨k + 1, by omega, by go_num, by rw [HNEXT.out, seeS_no HWHY.out]; exact HROW.out.below (below_drewN (Below.refl _ _) _) HROW.out.lt, below_drewN HB.out _⟩
       case measure => simp [intOf]; omega
      ·have hne : ((i : Int) != but) = true := by rw [bne_iff_ne]; exact hbi
       by_cases hbj : (j : Int) = but
       ·have HWHY : Hid ((i : Int) = but ∨ (j : Int) = but ∨ (U.testBit i = false ∧ U.testBit j = false)) := .inr (.inl hbj)
        have hne2 : ((j : Int) != but) = false := by simp [hbj]
        clear hbj
        go_wp2
        go_quiet (fail)
        go_wp2
        go_roundw
        case rel => exact ⟨k + 1, by omega, by go_num, by rw [HNEXT.out, seeS_no HWHY.out]; exact HROW.out.below (below_drewN (Below.refl _ _) _) HROW.out.lt, below_drewN HB.out _⟩
        case measure => simp [intOf]; omega
       ·have hne2 : ((j : Int) != but) = true := by rw [bne_iff_ne]; exact hbj
        by_cases hsee : U.testBit i = true ∨ U.testBit j = true
        ·have HSEE := Lib.hid hsee
         cases hti : U.testBit i with
         | true =>
          rw [hti] at ci
          clear hsee
          go_wp2
          go_quiet (fail)
          obtain ⟨W2, hW2⟩ : ∃ W2, wr.drewN nq = W2 := ⟨_, rfl⟩
          rw [hW2]
          have hb2 : Below wr.heap.size wr W2 := by rw [← hW2]; exact below_drewN (Below.refl _ _) nq
          have hr2 := HROW.out.below hb2 HROW.out.lt
          have HB2 := Lib.hid (HB.out.trans (hb2.mono HB.out.size))
          have k2 := hr2.cell i
          rw [seenC_get hi9] at k2
          have k3 := hr2.cell j
          rw [seenC_get hj9] at k3
          have f2 := hr2.free i
          have hr3 := hr2.store i (.bool true)
          rw [seenC_set] at hr3
          have m3 := hr3.cell j
          rw [seenC_get hj9] at m3
          have f3 := hr3.free j
          have hr4 := hr3.store j (.bool true)
          rw [seenC_set] at hr4
          have HR4 : Hid (Row 4 ((W2.setCell ⟨w.heap.size, i, none⟩ (.bool true)).setCell ⟨w.heap.size, j, none⟩ (.bool true)) w.heap.size (seenC n (rnd but (toE (l.take (k + 1))) S))) := by
           show Row _ _ _ _
           rw [HNEXT.out, seeS_yes hbi hbj HSEE.out]; exact hr4
          have HB4 := Lib.hid ((HB2.out.setCell (p := ⟨w.heap.size, i, none⟩) (Nat.le_refl _) (.bool true)).setCell (p := ⟨w.heap.size, j, none⟩) (Nat.le_refl _) (.bool true))
          clear hW2 hb2 hr2 hr3 hr4 ci cj
          rw [hti] at k2
          go_wp2
          go_roundw
          case rel => exact ⟨k + 1, by omega, by go_num, HR4.out, HB4.out⟩
          case measure => simp [intOf]; omega
         | false =>
          have htj : U.testBit j = true := by rcases hsee with h | h; (rw [hti] at h; cases h); exact h
          rw [hti] at ci
          rw [htj] at cj
          clear hsee
          go_wp2
          go_quiet (fail)
          obtain ⟨W2, hW2⟩ : ∃ W2, wr.drewN nq = W2 := ⟨_, rfl⟩
          rw [hW2]
          have hb2 : Below wr.heap.size wr W2 := by rw [← hW2]; exact below_drewN (Below.refl _ _) nq
          have hr2 := HROW.out.below hb2 HROW.out.lt
          have HB2 := Lib.hid (HB.out.trans (hb2.mono HB.out.size))
          have k2 := hr2.cell i
          rw [seenC_get hi9] at k2
          have k3 := hr2.cell j
          rw [seenC_get hj9] at k3
          have f2 := hr2.free i
          have hr3 := hr2.store i (.bool true)
          rw [seenC_set] at hr3
          have m3 := hr3.cell j
          rw [seenC_get hj9] at m3
          have f3 := hr3.free j
          have hr4 := hr3.store j (.bool true)
          rw [seenC_set] at hr4
          have HR4 : Hid (Row 4 ((W2.setCell ⟨w.heap.size, i, none⟩ (.bool true)).setCell ⟨w.heap.size, j, none⟩ (.bool true)) w.heap.size (seenC n (rnd but (toE (l.take (k + 1))) S))) := by
           show Row _ _ _ _
           rw [HNEXT.out, seeS_yes hbi hbj HSEE.out]; exact hr4
          have HB4 := Lib.hid ((HB2.out.setCell (p := ⟨w.heap.size, i, none⟩) (Nat.le_refl _) (.bool true)).setCell (p := ⟨w.heap.size, j, none⟩) (Nat.le_refl _) (.bool true))
          clear hW2 hb2 hr2 hr3 hr4 ci cj
          rw [hti] at k2
          rw [htj] at k3
          go_wp2
          go_roundw
          case rel => exact ⟨k + 1, by omega, by go_num, HR4.out, HB4.out⟩
          case measure => simp [intOf]; omega
        ·have h1 : U.testBit i = false := by cases h : U.testBit i; rfl; exact absurd (.inl h) hsee
         have h2 : U.testBit j = false := by cases h : U.testBit j; rfl; exact absurd (.inr h) hsee
         have HWHY : Hid ((i : Int) = but ∨ (j : Int) = but ∨ (U.testBit i = false ∧ U.testBit j = false)) := .inr (.inr ⟨h1, h2⟩)
         rw [h1] at ci
         rw [h2] at cj
         clear hsee
         go_wp2
         go_quiet (fail)
         go_wp2
         go_roundw
         case rel => exact ⟨k + 1, by omega, by go_num, by rw [HNEXT.out, seeS_no HWHY.out]; exact HROW.out.below (below_drewN (Below.refl _ _) _) HROW.out.lt, below_drewN HB.out _⟩
         case measure => simp [intOf]; omega
     ·obtain rfl : k = l.length := by omega
      rw [List.take_length] at hrow
      have HROW := Lib.hid hrow
      have HB := Lib.hid hbel
      clear hrow hbel
      go_wp2
      go_roundw
      case rel => exact ⟨r + 1, by omega, by go_num, by rw [HS1.out]; exact HROW.out, HB.out⟩
      case measure => simp [intOf]; omega
   ·obtain rfl : r = n := by omega
    have HROW := Lib.hid hrow
    have HB := Lib.hid hbel
    obtain ⟨U, hU⟩ : ∃ U, rnds but (toE l) r (2 ^ 0) = U := ⟨_, rfl⟩
    rw [hU] at HROW HJ
    obtain ⟨wo, hwo⟩ : ∃ wo : World, wo = wr := ⟨_, rfl⟩
    subst hwo
    clear hrow hbel hU
    go_wp2
    go_loopw [13] (fun kv wr => ∃ k : Nat, k ≤ r ∧ kv = .int .i64 k ∧ (∀ t, t < k → (decide ((t : Int) = but) || U.testBit t) = true) ∧ wr = wo) (fun kv _ => r - (intOf kv).toNat)
    case atStart => exact ⟨0, Nat.zero_le _, rfl, fun t ht => by omega, rfl⟩
    case round =>
     obtain ⟨k, hk, rfl, hall, hwr⟩ := hrel
     subst hwr
     by_cases hlt : k < r
     ·have ck := HROW.out.cell k
      rw [seenC_get hlt] at ck
      have HALL := Lib.hid hall
      have gk : (k : Int) < (r : Int) := by omega
      have HNX : Hid ((decide ((k : Int) = but) || U.testBit k) = true → ∀ t, t < k + 1 → (decide ((t : Int) = but) || U.testBit t) = true) := by
       intro h t ht
       rcases Nat.lt_or_ge t k with g | g
       ·exact HALL.out t g
       ·have : t = k := by omega
        subst this; exact h
      clear hall
      by_cases hkb : (k : Int) = but
      ·have hne : ((k : Int) != but) = false := by simp [hkb]
       have HN2 := Lib.hid (HNX.out (by simp [hkb]))
       go_wp2
       go_roundw
       case rel => exact ⟨k + 1, by omega, by go_num, HN2.out, trivial⟩
       case measure => simp [intOf]; omega
      ·have hne : ((k : Int) != but) = true := by rw [bne_iff_ne]; exact hkb
       cases hbit : U.testBit k with
       | true =>
        rw [hbit] at ck
        have HN2 := Lib.hid (HNX.out (by simp [hbit]))
        go_wp2
        go_roundw
        case rel => exact ⟨k + 1, by omega, by go_num, HN2.out, trivial⟩
        case measure => simp [intOf]; omega
       | false =>
        rw [hbit] at ck
        have HNO : Hid (allSeen r but U = false) := by
         show _ = _
         cases ha : allSeen r but U with
         | false => rfl
         | true =>
          have := List.all_eq_true.1 ha k (List.mem_range.2 hlt)
          simp [hkb, hbit] at this <;> omega
        go_wp2
        go_ret
        exact ⟨by rw [HJ.out, HNO.out]; rfl, HB.out⟩
     ·obtain rfl : k = r := by omega
      have HYES : Hid (allSeen k but U = true) := by
       show _ = _
       exact List.all_eq_true.2 fun t ht => hall t (List.mem_range.1 ht)
      clear hall
      go_wp2
      go_ret
      exact ⟨by rw [HJ.out, HYES.out]; rfl, HB.out⟩
end Go.Proofs.YtllhejjcmfiebaaDoor
namespace Go.Proofs.YtllhejjcmfiebaaDoor
open Go.RowKit Go.Shelf
theorem ve_of {N : Nat} {l : Ps} (hn9 : N ≤ 9) (h : ∀ j, j < l.length → okAt N l j = true) : VE l N := by
 intro k hk
 have h1 := h k hk
 unfold okAt at h1
 rw [List.getD_eq_getElem?_getD, List.getElem?_eq_getElem hk] at h1
 obtain ⟨i, j, hij, h2, h3⟩ := edgeOk_lt h1 hn9
 exact ⟨i, j, by rw [List.getElem?_eq_getElem hk]; exact congrArg some hij, by omega, h3⟩
set_option maxRecDepth 100000 in
set_option maxHeartbeats 4000000 in
theorem rboard_go (v : Value) (N : Nat) (l : Ps) (w : World) (hl : SlP w v l) (hn2 : 2 ≤ N) (hn9 : N ≤ 9) :
  Calls Tryd.prog 48 #[.int .i64 N, v] w fun e w' => e = .returned (.bool (boardOk N l && joinedP N (toE l) (-1))) ∧ Below w.heap.size w w' := by
 obtain ⟨p, cap, rfl, hl1, hl2⟩ := hl.len
 have HL := Lib.hid hl
 clear hl
 go_enter Tryd.func48, Tryd.ntmps48
 go_wp2
 go_loopw [5] (fun i wr => ∃ k : Nat, k ≤ l.length ∧ i = .int .i64 k ∧ (∀ j, j < k → okAt N l j = true) ∧ Below w.heap.size w wr) (fun i _ => l.length - (intOf i).toNat)
 case atStart => exact ⟨0, Nat.zero_le _, rfl, fun j hj => by omega, Below.refl _ _⟩
 case round =>
  obtain ⟨k, hk, rfl, hall, hbel⟩ := hrel
  by_cases hlt : k < l.length
  ·obtain ⟨ad, cap', e, hv, hg, hek, d1, d2⟩ := (HL.out.below hbel).at_ k hlt
   cases hv
   have hge : l.getD k (0, 0) = e := by rw [List.getD_eq_getElem?_getD, hek]; rfl
   have HOK : Hid (okAt N l k = edgeOk N (prevOf l k) e) := by show _ = _; unfold okAt; rw [hge]
   obtain ⟨x, y⟩ := e
   dsimp only at d1 d2
   have HALL := Lib.hid hall
   have HB := Lib.hid hbel
   by_cases h1 : x < 0
   ·clear hall hge hek
    have HBAD : Hid (boardOk N l = false) := boardOk_no hlt (by rw [HOK.out]; unfold edgeOk; simp; omega)
    go_wp2
    go_quiet (fail)
    go_wp2
    go_ret
    exact ⟨by rw [HBAD.out]; rfl, below_drewN HB.out _⟩
   ·by_cases h2 : y ≤ x
    ·clear hall hge hek
     have HBAD : Hid (boardOk N l = false) := boardOk_no hlt (by rw [HOK.out]; unfold edgeOk; simp; omega)
     go_wp2
     go_quiet (fail)
     go_wp2
     go_ret
     exact ⟨by rw [HBAD.out]; rfl, below_drewN HB.out _⟩
    ·by_cases h3 : (N : Int) ≤ y
     ·clear hall hge hek
      have HBAD : Hid (boardOk N l = false) := boardOk_no hlt (by rw [HOK.out]; unfold edgeOk; simp; omega)
      go_wp2
      go_quiet (fail)
      go_wp2
      go_ret
      exact ⟨by rw [HBAD.out]; rfl, below_drewN HB.out _⟩
     ·by_cases hk0 : k = 0
      ·have hz : ¬ ((0 : Int) < (k : Int)) := by omega
       have hz2 : decide (0 < k) = false := by rw [decide_eq_false_iff_not]; omega
       have hz3 : decide ((0 : Int) < (k : Int)) = false := by rw [decide_eq_false_iff_not]; omega
       have HNX : Hid (∀ j, j < k + 1 → okAt N l j = true) := by
        intro j hj
        rcases Nat.lt_or_ge j k with h | h
        ·exact HALL.out j h
        ·have : j = k := by omega
         subst this; rw [HOK.out]; unfold prevOf; rw [if_pos hk0]; unfold edgeOk lexB; simp; omega
       clear hall hge hek hk0
       go_wp2
       go_quiet (fail)
       go_wp2
       go_roundw
       case rel => exact ⟨k + 1, by omega, by go_num, HNX.out, below_drewN HB.out _⟩
       case measure => simp [intOf]; omega
      ·obtain ⟨ad', cap'', e', hv, hg', hek', m1, m2⟩ := (HL.out.below hbel).at_ (k - 1) (by omega)
       cases hv
       have HPV : Hid (prevOf l k = e') := by show _ = _; unfold prevOf; rw [if_neg hk0, List.getD_eq_getElem?_getD, hek']; rfl
       obtain ⟨a, b⟩ := e'
       dsimp only at m1 m2
       have hk1 : IntKind.i64.wrap ((k : Int) - 1) = ((k - 1 : Nat) : Int) := by rw [show ((k : Int) - 1) = ((k - 1 : Nat) : Int) by omega]; exact IntWalk.i64_in _ (by omega)
       have hpos : decide ((0 : Int) < (k : Int)) = true := by rw [decide_eq_true_eq]; omega
       have hkc : ((k : Int) - 1) = ((k - 1 : Nat) : Int) := by omega
       obtain ⟨q, hq⟩ : ∃ q, k - 1 = q := ⟨_, rfl⟩
       rw [hq] at m1 m2 hk1 hkc
       have hql : q < l.length := by omega
       have gq : (q : Int) < (l.length : Int) := by omega
       clear hall hge hek hek' hq
       by_cases h4 : x < a
       ·have hd : decide (x < a) = true := by rw [decide_eq_true_eq]; exact h4
        have HBAD : Hid (boardOk N l = false) := boardOk_no hlt (by rw [HOK.out]; rw [HPV.out]; unfold edgeOk lexB; simp; omega)
        go_wp2
        go_quiet (fail)
        go_wp2
        go_ret
        exact ⟨by rw [HBAD.out]; rfl, below_drewN HB.out _⟩
       ·have hd : decide (x < a) = false := by rw [decide_eq_false_iff_not]; exact h4
        by_cases h5 : a = x
        ·have hd2 : (a == x) = true := by rw [beq_iff_eq]; exact h5
         by_cases h6 : y ≤ b
         ·have hd3 : decide (y ≤ b) = true := by rw [decide_eq_true_eq]; exact h6
          have HBAD : Hid (boardOk N l = false) := boardOk_no hlt (by rw [HOK.out, HPV.out]; unfold edgeOk lexB; simp; omega)
          clear h5
          go_wp2
          go_quiet (fail)
          go_wp2
          go_ret
          exact ⟨by rw [HBAD.out]; rfl, below_drewN HB.out _⟩
         ·have hd3 : decide (y ≤ b) = false := by rw [decide_eq_false_iff_not]; exact h6
          have HNX : Hid (∀ j, j < k + 1 → okAt N l j = true) := by
           intro j hj
           rcases Nat.lt_or_ge j k with h | h
           ·exact HALL.out j h
           ·have : j = k := by omega
            subst this; rw [HOK.out]; rw [HPV.out]; unfold edgeOk lexB; simp; omega
          clear h5
          go_wp2
          go_quiet (fail)
          go_wp2
          go_roundw
          case rel => exact ⟨k + 1, by omega, by go_num, HNX.out, below_drewN HB.out _⟩
          case measure => simp [intOf]; omega
        ·have hd2 : (a == x) = false := by rw [beq_eq_false_iff_ne]; exact h5
         have HNX : Hid (∀ j, j < k + 1 → okAt N l j = true) := by
          intro j hj
          rcases Nat.lt_or_ge j k with h | h
          ·exact HALL.out j h
          ·have : j = k := by omega
           subst this; rw [HOK.out]; rw [HPV.out]; unfold edgeOk lexB; simp; omega
         go_wp2
         go_quiet (fail)
         go_wp2
         go_roundw
         case rel => exact ⟨k + 1, by omega, by go_num, HNX.out, below_drewN HB.out _⟩
         case measure => simp [intOf]; omega
  ·obtain rfl : k = l.length := by omega
   have HBO : Hid (boardOk N l = true) := boardOk_yes hall
   have HJ := Lib.hid (joined_go _ N (-1) l wr (HL.out.below hbel) (ve_of hn9 hall) hn2 hn9 (by omega))
   have HB := Lib.hid hbel
   obtain ⟨jb, hjb⟩ : ∃ jb, joinedP N (toE l) (-1) = jb := ⟨_, rfl⟩
   have HJB := Lib.hid hjb
   rw [hjb] at HJ
   clear hall hbel hjb
   go_wp2_with (first | (go_at_call 62; refine HJ.out.mono ?_; rintro e w1 ⟨rfl, hb1⟩; have HB1 := Lib.hid (HB.out.trans (hb1.mono HB.out.size)); clear hb1))
   go_ret
   exact ⟨by rw [HBO.out, HJB.out, Bool.true_and]; rfl, HB1.out⟩
end Go.Proofs.YtllhejjcmfiebaaDoor
namespace Go.Proofs.YtllhejjcmfiebaaDoor
open Go.RowKit Go.Shelf
def mask (l : List Int) : Nat → Nat
 | 0 => 0
 | k + 1 => mask l k ||| 2 ^ (l.getD k 0).toNat
def rngAt (n : Nat) (l : List Int) (k : Nat) : Bool := decide (0 ≤ l.getD k 0) && decide (l.getD k 0 < n)
def posB (n : Nat) (l : List Int) : Bool := decide (l.length = n) && (List.range n).all (rngAt n l) && decide (mask l n = 2 ^ n - 1)
theorem mask_lt {n : Nat} {l : List Int} (hn : n ≤ 9) : ∀ k, (∀ j, j < k → rngAt n l j = true) → mask l k < 2 ^ n
 | 0, _ => Nat.two_pow_pos n
 | k + 1, h => by
  have h1 := mask_lt hn k (fun j hj => h j (by omega))
  have h2 := h k (by omega)
  simp only [rngAt, Bool.and_eq_true, decide_eq_true_eq] at h2
  exact Nat.or_lt_two_pow h1 (Nat.pow_lt_pow_right (by omega) (by omega))
theorem mask_512 {n : Nat} {l : List Int} (hn : n ≤ 9) {k : Nat} (h : ∀ j, j < k → rngAt n l j = true) : mask l k < 512 :=
 Nat.lt_of_lt_of_le (mask_lt hn k h) (Nat.pow_le_pow_right (by omega) hn : 2 ^ n ≤ 2 ^ 9)
set_option maxRecDepth 100000 in
set_option maxHeartbeats 4000000 in
theorem isPos_go (v : Value) (n : Nat) (l : List Int) (w : World) (hl : SlA w v (ints l)) (hn2 : 2 ≤ n) (hn9 : n ≤ 9) :
  Calls Tryd.prog 51 #[.int .i64 n, v] w fun e w' => e = .returned (.bool (posB n l)) ∧ Below w.heap.size w w' := by
 obtain ⟨p, cap, rfl, hl1, hl2⟩ := hl.form
 have HP : Hid (posB n l = (decide (l.length = n) && (List.range n).all (rngAt n l) && decide (mask l n = 2 ^ n - 1))) := rfl
 have HL := Lib.hid hl
 clear hl
 by_cases hlen : l.length = n
 ·have hd : ((l.length : Int) != (n : Int)) = false := by simp [hlen]
  have hall2 : Hid (∀ W, Calls Tryd.prog 68 #[.int .i64 n] W fun e w' => e = .returned (.int .u16 ((2 ^ n - 1 : Nat) : Int)) ∧ w' = W) := fun W => all_go n hn9 W
  have HLEN := Lib.hid hlen
  clear hlen
  go_enter Tryd.func51, Tryd.ntmps51
  go_wp2
  go_loopw [5, 14] (fun mv i wr => ∃ k : Nat, k ≤ l.length ∧ mv = .int .u16 (mask l k) ∧ i = .int .i64 k ∧ (∀ j, j < k → rngAt n l j = true) ∧ Below w.heap.size w wr) (fun _ i _ => l.length - (intOf i).toNat)
  case atStart => exact ⟨0, Nat.zero_le _, rfl, rfl, fun j hj => by omega, Below.refl _ _⟩
  case round =>
   obtain ⟨k, hk, rfl, rfl, hall, hbel⟩ := hrel
   by_cases hlt : k < l.length
   ·obtain ⟨ad, cap', hv, _, _, hg, hc⟩ := (HL.out.below hbel).int_at k hlt
    cases hv
    have HM : Hid (mask l (k + 1) = mask l k ||| 2 ^ (l.getD k 0).toNat) := rfl
    have HRG : Hid (rngAt n l k = (decide (0 ≤ l.getD k 0) && decide (l.getD k 0 < n))) := rfl
    have hm5 := mask_512 hn9 hall
    obtain ⟨x, hx⟩ : ∃ x, l.getD k 0 = x := ⟨_, rfl⟩
    rw [hx] at hc HM HRG
    have HALL := Lib.hid hall
    have HB := Lib.hid hbel
    clear hall hbel hx
    have HNO : Hid (rngAt n l k = false → posB n l = false) := by
     intro h
     rw [HP.out]
     have : (List.range n).all (rngAt n l) = false := by
      cases ha : (List.range n).all (rngAt n l) with
      | false => rfl
      | true => have := List.all_eq_true.1 ha k (List.mem_range.2 (by have := HLEN.out; omega)); rw [h] at this; cases this
     rw [this]; simp
    by_cases h1 : x < 0
    ·have HBAD : Hid (posB n l = false) := HNO.out (by rw [HRG.out]; simp; omega)
     go_wp2
     go_ret
     exact ⟨by rw [HBAD.out]; rfl, HB.out⟩
    ·by_cases h2 : (n : Int) ≤ x
     ·have HBAD : Hid (posB n l = false) := HNO.out (by rw [HRG.out]; simp; omega)
      go_wp2
      go_ret
      exact ⟨by rw [HBAD.out]; rfl, HB.out⟩
     ·obtain ⟨X, rfl⟩ : ∃ X : Nat, x = (X : Int) := ⟨x.toNat, by omega⟩
      rw [Int.toNat_natCast] at HM
      have hX9 : X < 9 := by omega
      have hX : 2 ^ X < 512 := Nat.pow_lt_pow_right (by omega : 1 < 2) hX9
      have hor := or_u16 hm5 hX
      have hsx : IntKind.u16.wrap ((2 : Int) ^ X) = ((2 ^ X : Nat) : Int) := by rw [show ((2 : Int) ^ X) = ((2 ^ X : Nat) : Int) by simp]; exact u16_small hX
      have gX : (X : Int) ≤ 16 := by omega
      have HNX : Hid (∀ j, j < k + 1 → rngAt n l j = true) := by
       intro j hj
       rcases Nat.lt_or_ge j k with h | h
       ·exact HALL.out j h
       ·have : j = k := by omega
        subst this; rw [HRG.out]; simp; omega
      obtain ⟨q, hq⟩ : ∃ q, 2 ^ X = q := ⟨_, rfl⟩
      obtain ⟨M, hM⟩ : ∃ M, mask l k = M := ⟨_, rfl⟩
      obtain ⟨M2, hM2⟩ : ∃ M2, M ||| q = M2 := ⟨_, rfl⟩
      rw [hM, hq, hM2] at HM hor
      rw [hM] at hm5 ⊢
      rw [hq] at hsx
      clear hM hq hM2 hX
      go_wp2
      go_roundw
      case rel => exact ⟨k + 1, by omega, by rw [HM.out], by go_num, HNX.out, HB.out⟩
      case measure => simp [intOf]; omega
   ·obtain rfl : k = l.length := by omega
    have hln := HLEN.out
    have HRES : Hid (posB n l = decide (mask l l.length = 2 ^ n - 1)) := by
     show _ = _
     rw [HP.out, hln]
     have : (List.range n).all (rngAt n l) = true := List.all_eq_true.2 fun j hj => hall j (by rw [hln]; exact List.mem_range.1 hj)
     rw [this]; simp
    have HB := Lib.hid hbel
    obtain ⟨M, hM⟩ : ∃ M, mask l l.length = M := ⟨_, rfl⟩
    obtain ⟨A, hA⟩ : ∃ A, 2 ^ n - 1 = A := ⟨_, rfl⟩
    rw [hM, hA] at HRES
    rw [hM]
    rw [hA] at hall2
    have HDD : Hid (((M : Int) == (A : Int)) = decide (M = A)) := by
     show _ = _
     by_cases h : M = A
     ·subst h; simp
     ·have h' : ((M : Int) == (A : Int)) = false := by rw [beq_eq_false_iff_ne]; omega
      rw [h']; simp [h]
    clear hall hbel hM hA hln
    go_wp2_with (first | (go_at_call 68; refine (hall2.out _).mono ?_; rintro e w1 ⟨rfl, rfl⟩))
    go_ret
    refine ⟨?_, HB.out⟩
    have hdd := HDD.out
    rw [HRES.out]
    go_simp
 ·have hd : ((l.length : Int) != (n : Int)) = true := by rw [bne_iff_ne]; omega
  have HBAD : Hid (posB n l = false) := by show _ = _; rw [HP.out]; simp [hlen]
  clear hlen
  go_enter Tryd.func51, Tryd.ntmps51
  go_wp2
  go_ret
  exact ⟨by rw [HBAD.out]; rfl, Below.refl _ _⟩
end Go.Proofs.YtllhejjcmfiebaaDoor
namespace Go.Proofs.YtllhejjcmfiebaaDoor
open Go.RowKit Go.Shelf
def posR (n : Int) (l : List Int) : Bool := sizeB n && posB n.toNat l
def posE (n : Int) (l : List Int) : Int := if posR n l then 0 else 1
theorem checkPos_go (v : Value) (n : Int) (l : List Int) (w : World) (hl : SlA w v (ints l)) :
  Calls Tryd.prog 16 #[.int .i64 n, v] w fun e w' => e = .returned (.int .i64 (posE n l)) ∧ Below w.heap.size w w' := by
 have HR : Hid (posE n l = if (sizeB n && posB n.toNat l) then 0 else 1) := rfl
 have HN := Lib.hid (fun W => isSize_any n W)
 cases hs : sizeB n with
 | false =>
  rw [hs] at HR HN
  obtain ⟨p, cap, rfl, hl1, hl2⟩ := hl.form
  have HBAD : Hid (posE n l = 1) := by show _ = _; rw [HR.out]; rfl
  clear hl hs
  go_enter Tryd.func16, Tryd.ntmps16
  go_wp2_with (first | (go_at_call 50; refine (HN.out _).mono ?_; rintro e w1 ⟨rfl, rfl⟩))
  go_ret
  exact ⟨by rw [HBAD.out]; rfl, Below.refl _ _⟩
 | true =>
  rw [hs] at HR HN
  simp only [sizeB, Bool.and_eq_true, decide_eq_true_eq] at hs
  obtain ⟨n, rfl⟩ : ∃ N : Nat, n = (N : Int) := ⟨n.toNat, by omega⟩
  rw [Int.toNat_natCast, Bool.true_and] at HR
  have HI := Lib.hid (isPos_go v n l w hl (by omega) (by omega))
  obtain ⟨p, cap, rfl, hl1, hl2⟩ := hl.form
  clear hl hs
  obtain ⟨b, hb⟩ : ∃ b, posB n l = b := ⟨_, rfl⟩
  rw [hb] at HI HR
  clear hb
  cases b with
  | true =>
   have HBAD : Hid (posE n l = 0) := by show _ = _; rw [HR.out]; rfl
   go_enter Tryd.func16, Tryd.ntmps16
   go_wp2_with (first
    | (go_at_call 50; refine (HN.out _).mono ?_; rintro e w1 ⟨rfl, rfl⟩)
    | (go_at_call 51; refine HI.out.mono ?_; rintro e w1 ⟨rfl, hb1⟩; have HB1 := Lib.hid hb1; clear hb1))
   go_ret
   exact ⟨by rw [HBAD.out]; rfl, HB1.out⟩
  | false =>
   have HBAD : Hid (posE n l = 1) := by show _ = _; rw [HR.out]; rfl
   go_enter Tryd.func16, Tryd.ntmps16
   go_wp2_with (first
    | (go_at_call 50; refine (HN.out _).mono ?_; rintro e w1 ⟨rfl, rfl⟩)
    | (go_at_call 51; refine HI.out.mono ?_; rintro e w1 ⟨rfl, hb1⟩; have HB1 := Lib.hid hb1; clear hb1))
   go_ret
   exact ⟨by rw [HBAD.out]; rfl, HB1.out⟩
end Go.Proofs.YtllhejjcmfiebaaDoor
