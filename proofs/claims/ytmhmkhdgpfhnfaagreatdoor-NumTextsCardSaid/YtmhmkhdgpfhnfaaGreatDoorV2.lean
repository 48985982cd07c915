/- strings.CutPrefix, strings.Cut, and the program's isNumber. -/
import Derived.Test.YtmhmkhdgpfhnfaaGreatDoorV1
import Derived.Test.YtmhmkhdgpfhnfaaGreatDoorT6
import Derived.Laws.IdiomStrings
set_option linter.unusedVariables false
set_option linter.unusedSimpArgs false
set_option linter.unnecessarySimpa false
namespace Go.Proofs.YtmhmkhdgpfhnfaaGreatDoor.Ref
open Go.RowKit Go.Lib

set_option maxRecDepth 100000 in
/-- a string as a slice of bytes -/
theorem bytes_of (s : ByteArray) (w : World) : ∃ w1 cap, (convert 9 111 (.string s)).run Tryz.prog w = .ok (.slice (some ⟨w.heap.size, 0, none⟩) s.size cap) w1 ∧ s.size ≤ cap ∧ Below w.heap.size w w1 ∧ w1.heap.size = w.heap.size + 1 ∧
    ∀ j, j < s.size → w1.cell? ⟨w.heap.size, j, none⟩ = some (.int .u8 ((s.data.toList.getD j 0).toNat : Nat)) := by
  refine ⟨_, _, run_bytes_of_string w 9 111 5 s undStr undB undU8, grownCap_ge w s.size 0 5, ((Below.refl w.heap.size w).drew).alloc (Nat.le_refl _) _, by simp, fun j hj => ?_⟩
  have := World.cell?_alloc_mark w.drew (bytesRow s (grownCap w s.size 0 5)) 5 ((bytesRow s (grownCap w s.size 0 5)).size, (bytesRow s (grownCap w s.size 0 5)).size + 1) j
  refine this.trans ((bytesRow_at s _ j hj).trans ?_)
  rw [← ba_at s j hj]
  rfl
theorem pre_neg (l : List UInt8) : Lib.hasPrefix l [45] = negS l ∧ Lib.trimPrefix l [45] = unS l := by
  have h : Lib.hasPrefix l [45] = negS l := by
    unfold Lib.hasPrefix negS
    cases l with
    | nil => rfl
    | cons a b =>
      simp only [List.isPrefixOf, List.head?_cons, Bool.and_true]
      by_cases h : a = 45
      · subst h; rfl
      · have h1 : ((45 : UInt8) == a) = false := by simpa using fun e => h e.symm
        rw [h1]
        symm
        simpa using h
  refine ⟨h, ?_⟩
  unfold Lib.trimPrefix unS
  rw [h]
  rfl
theorem slash_cons (a : UInt8) (l : List UInt8) (h : a ≠ 47) : (slashAt (a :: l) < (a :: l).length ↔ slashAt l < l.length) := by
  rw [slashAt_cons a l h, List.length_cons]
  omega
theorem index_slash (l : List UInt8) : Lib.indexByte l 47 = if slashAt l < l.length then (slashAt l : Int) else -1 := by
  induction l with
  | nil => rfl
  | cons a l ih =>
    unfold Lib.indexByte
    by_cases h : a = 47
    · subst h
      rw [if_pos (by decide)]
      have : slashAt (47 :: l) = 0 := by unfold slashAt; rw [List.findIdx_cons]; rfl
      rw [this, if_pos (by simp)]
      rfl
    · rw [if_neg (by simpa using h), ih]
      by_cases hs : slashAt l < l.length
      · rw [if_pos hs, if_pos ((slash_cons a l h).2 hs), slashAt_cons a l h]
        have : ¬ (((slashAt l : Int) == -1) = true) := by
          intro e
          have := eq_of_beq e
          omega
        rw [if_neg this]
        omega
      · rw [if_neg hs, if_neg (fun e => hs ((slash_cons a l h).1 e))]
        rfl
theorem cutPrefix_go (s : ByteArray) (w : World) :
    Calls Tryz.prog 59 #[.string s, .string ⟨#[45]⟩] w fun e w' => e = .returned (.tuple #[.string ⟨(unS s.data.toList).toArray⟩, .bool (negS s.data.toList)]) ∧ w' = w := by
  have := Tryz.strings_CutPrefix s ⟨#[45]⟩ w
  rw [show (⟨#[45]⟩ : ByteArray).data.toList = [45] from rfl, (pre_neg s.data.toList).1, (pre_neg s.data.toList).2] at this
  exact this
set_option maxRecDepth 100000 in
set_option maxHeartbeats 1000000 in
theorem cutL_yes (s : ByteArray) (w : World) (h : slashAt s.data.toList < s.size) (hs : s.size ≤ 50000) :
    Calls Tryz.prog 120 #[.string s, .string ⟨#[47]⟩] w fun e w' => e = .returned (.tuple #[.string (s.extract 0 (slashAt s.data.toList)), .string (s.extract (slashAt s.data.toList + 1) s.size), .bool true]) ∧ Below w.heap.size w w' := by
  have HI := Lib.hid (fun W => Tryz.stringslite_Index_one s 47 W)
  rw [index_slash, if_pos (by rw [← sz_eq]; exact h)] at HI
  obtain ⟨k, hk⟩ : ∃ k, slashAt s.data.toList = k := ⟨_, rfl⟩
  rw [hk] at h HI ⊢
  have gk0 : (0 : Int) ≤ (k : Int) := by omega
  have gk1 : (k : Int) ≤ (s.size : Int) := by omega
  have gk2 : (k : Int) + 1 ≤ (s.size : Int) := by omega
  have gwk : IntKind.i64.wrap ((k : Int) + 1) = (k : Int) + 1 := by rw [show (k : Int) + 1 = ((k + 1 : Nat) : Int) by omega]; exact IntWalk.i64_in _ (by omega)
  clear hk
  go_enter Tryz.func120, Tryz.ntmps120
  go_wp2_with fail
  refine (HI.out w).mono ?_
  rintro e w2 ⟨rfl, rfl⟩
  clear HI
  go_upto_region 3 with (fail)
  obtain ⟨wX, hwX⟩ : ∃ wX : World, wX = w2 := ⟨_, rfl⟩
  subst hwX
  refine wp_region_rel (by kernel_rfl) 23 rfl (by kernel_rfl) [.fix (.string s), .fix (.int .i64 (k : Int)), .fix (.string (s.extract 0 k)), .fix (.string s), .fix (.int .i64 (k : Int)), .fix (.string ⟨#[47]⟩), .fix (.int .i64 1), .fix (.int .i64 ((k : Int) + 1)), .fix (.string (s.extract (k + 1) s.size)), .fix (.string (s.extract 0 k)), .fix (.string (s.extract (k + 1) s.size)), .fix (.bool true)] rfl (stays_fix rfl) ?hop ?hQ
  case hop =>
    intro W hW j o hj vs w1' hb hV
    have hj' : j < 12 := (List.getElem?_eq_some_iff.1 hj).1
    rcases (by omega : j = 0 ∨ j = 1 ∨ j = 2 ∨ j = 3 ∨ j = 4 ∨ j = 5 ∨ j = 6 ∨ j = 7 ∨ j = 8 ∨ j = 9 ∨ j = 10 ∨ j = 11) with rfl | rfl | rfl | rfl | rfl | rfl | rfl | rfl | rfl | rfl | rfl | rfl
    · cases hj
      clear hj'
      refine .inl ⟨rfl, ?_⟩
      generalize hG : relUpon _ _ _ = G
      clear hV hb hW
      subst hG
      simp only [putAll]
      generalize hR : Res _ _ vs w1' = R
      go_simp
      subst hR
      exact ⟨rfl, Below.refl _ _⟩
    · cases hj
      clear hj'
      refine .inl ⟨rfl, ?_⟩
      generalize hG : relUpon _ _ _ = G
      clear hV hb hW
      subst hG
      simp only [putAll]
      generalize hR : Res _ _ vs w1' = R
      go_simp
      subst hR
      exact ⟨rfl, Below.refl _ _⟩
    · cases hj
      clear hj'
      refine .inl ⟨rfl, ?_⟩
      generalize hG : relUpon _ _ _ = G
      have q0_ : vs 0 = _ := hV 0 (by decide)
      have q1_ : vs 1 = _ := hV 1 (by decide)
      clear hV hb hW
      subst hG
      simp only [putAll]
      generalize hR : Res _ _ vs w1' = R
      go_simp
      subst hR
      exact ⟨rfl, Below.refl _ _⟩
    · cases hj
      clear hj'
      refine .inl ⟨rfl, ?_⟩
      generalize hG : relUpon _ _ _ = G
      clear hV hb hW
      subst hG
      simp only [putAll]
      generalize hR : Res _ _ vs w1' = R
      go_simp
      subst hR
      exact ⟨rfl, Below.refl _ _⟩
    · cases hj
      clear hj'
      refine .inl ⟨rfl, ?_⟩
      generalize hG : relUpon _ _ _ = G
      clear hV hb hW
      subst hG
      simp only [putAll]
      generalize hR : Res _ _ vs w1' = R
      go_simp
      subst hR
      exact ⟨rfl, Below.refl _ _⟩
    · cases hj
      clear hj'
      refine .inl ⟨rfl, ?_⟩
      generalize hG : relUpon _ _ _ = G
      clear hV hb hW
      subst hG
      simp only [putAll]
      generalize hR : Res _ _ vs w1' = R
      go_simp
      subst hR
      exact ⟨rfl, Below.refl _ _⟩
    · cases hj
      clear hj'
      refine .inl ⟨rfl, ?_⟩
      generalize hG : relUpon _ _ _ = G
      have q5_ : vs 5 = _ := hV 5 (by decide)
      clear hV hb hW
      subst hG
      simp only [putAll]
      generalize hR : Res _ _ vs w1' = R
      go_simp
      subst hR
      exact ⟨rfl, Below.refl _ _⟩
    · cases hj
      clear hj'
      refine .inl ⟨rfl, ?_⟩
      generalize hG : relUpon _ _ _ = G
      have q4_ : vs 4 = _ := hV 4 (by decide)
      have q6_ : vs 6 = _ := hV 6 (by decide)
      clear hV hb hW
      subst hG
      simp only [putAll]
      generalize hR : Res _ _ vs w1' = R
      go_simp
      subst hR
      exact ⟨rfl, Below.refl _ _⟩
    · cases hj
      clear hj'
      refine .inl ⟨rfl, ?_⟩
      generalize hG : relUpon _ _ _ = G
      have q3_ : vs 3 = _ := hV 3 (by decide)
      have q7_ : vs 7 = _ := hV 7 (by decide)
      clear hV hb hW
      subst hG
      simp only [putAll]
      generalize hR : Res _ _ vs w1' = R
      go_simp
      subst hR
      exact ⟨rfl, Below.refl _ _⟩
    · cases hj
      clear hj'
      refine .inl ⟨rfl, ?_⟩
      generalize hG : relUpon _ _ _ = G
      have q2_ : vs 2 = _ := hV 2 (by decide)
      clear hV hb hW
      subst hG
      simp only [putAll]
      generalize hR : Res _ _ vs w1' = R
      go_simp
      subst hR
      exact ⟨rfl, Below.refl _ _⟩
    · cases hj
      clear hj'
      refine .inl ⟨rfl, ?_⟩
      generalize hG : relUpon _ _ _ = G
      have q8_ : vs 8 = _ := hV 8 (by decide)
      clear hV hb hW
      subst hG
      simp only [putAll]
      generalize hR : Res _ _ vs w1' = R
      go_simp
      subst hR
      exact ⟨rfl, Below.refl _ _⟩
    · cases hj
      clear hj'
      refine .inl ⟨rfl, ?_⟩
      generalize hG : relUpon _ _ _ = G
      clear hV hb hW
      subst hG
      simp only [putAll]
      generalize hR : Res _ _ vs w1' = R
      go_simp
      subst hR
      exact ⟨rfl, Below.refl _ _⟩
  case hQ =>
    intro W hW vs w2 hb hV hD
    have hbw : Below wX.heap.size wX w2 := by rw [hW] at hb; exact ((Below.refl wX.heap.size wX).drew).trans hb
    have e0_ : vs 0 = _ := hV 0 (by simp)
    have e1_ : vs 1 = _ := hV 1 (by simp)
    have e2_ : vs 2 = _ := hV 2 (by simp)
    have e3_ : vs 3 = _ := hV 3 (by simp)
    have e4_ : vs 4 = _ := hV 4 (by simp)
    have e5_ : vs 5 = _ := hV 5 (by simp)
    have e6_ : vs 6 = _ := hV 6 (by simp)
    have e7_ : vs 7 = _ := hV 7 (by simp)
    have e8_ : vs 8 = _ := hV 8 (by simp)
    have e9_ : vs 9 = _ := hV 9 (by simp)
    have e10_ : vs 10 = _ := hV 10 (by simp)
    have e11_ : vs 11 = _ := hV 11 (by simp)
    have HFIN := Lib.hid hbw
    clear hV hD hb hW hbw
    generalize hKK : Exit.then _ _ = KK
    simp only [putAll, e0_, e1_, e2_, e3_, e4_, e5_, e6_, e7_, e8_, e9_, e10_, e11_]
    go_simp
    subst hKK
    clear e0_ e1_ e2_ e3_ e4_ e5_ e6_ e7_ e8_ e9_ e10_ e11_
    go_wp2_with fail
    go_ret3
    exact ⟨rfl, HFIN.out⟩
set_option maxRecDepth 100000 in
set_option maxHeartbeats 1000000 in
theorem cut_yes (s : ByteArray) (w : World) (h : slashAt s.data.toList < s.size) (hs : s.size ≤ 50000) :
    Calls Tryz.prog 60 #[.string s, .string ⟨#[47]⟩] w fun e w' => e = .returned (.tuple #[.string (s.extract 0 (slashAt s.data.toList)), .string (s.extract (slashAt s.data.toList + 1) s.size), .bool true]) ∧ Below w.heap.size w w' := by
  have HC := Lib.hid (cutL_yes s w h hs)
  obtain ⟨k, hk⟩ : ∃ k, slashAt s.data.toList = k := ⟨_, rfl⟩
  rw [hk] at HC ⊢
  clear hk h
  go_enter Tryz.func60, Tryz.ntmps60
  go_wp2_with fail
  refine HC.out.mono ?_
  rintro e w2 ⟨rfl, hb⟩
  have HB := Lib.hid hb
  clear hb HC
  go_wp2_with fail
  go_ret3
  exact ⟨rfl, HB.out⟩
set_option maxRecDepth 100000 in
set_option maxHeartbeats 1000000 in
theorem cutL_no (s : ByteArray) (w : World) (h : ¬ slashAt s.data.toList < s.size) :
    Calls Tryz.prog 120 #[.string s, .string ⟨#[47]⟩] w fun e w' => e = .returned (.tuple #[.string s, .string ⟨#[]⟩, .bool false]) ∧ Below w.heap.size w w' := by
  have HI := Lib.hid (fun W => Tryz.stringslite_Index_one s 47 W)
  rw [index_slash, if_neg (by rw [← sz_eq]; exact h)] at HI
  clear h
  go_enter Tryz.func120, Tryz.ntmps120
  go_wp2_with fail
  refine (HI.out w).mono ?_
  rintro e w2 ⟨rfl, rfl⟩
  clear HI
  go_wp2_with fail
  go_ret3
  exact ⟨rfl, Below.refl _ _⟩
set_option maxRecDepth 100000 in
set_option maxHeartbeats 1000000 in
theorem cut_no (s : ByteArray) (w : World) (h : ¬ slashAt s.data.toList < s.size) :
    Calls Tryz.prog 60 #[.string s, .string ⟨#[47]⟩] w fun e w' => e = .returned (.tuple #[.string s, .string ⟨#[]⟩, .bool false]) ∧ Below w.heap.size w w' := by
  have HC := Lib.hid (cutL_no s w h)
  clear h
  go_enter Tryz.func60, Tryz.ntmps60
  go_wp2_with fail
  refine HC.out.mono ?_
  rintro e w2 ⟨rfl, hb⟩
  have HB := Lib.hid hb
  clear hb HC
  go_wp2_with fail
  go_ret3
  exact ⟨rfl, HB.out⟩
set_option maxRecDepth 100000 in
set_option maxHeartbeats 1000000 in
theorem isNumber_go (s : ByteArray) (w : World) (hs : s.size ≤ 50000) :
    Calls Tryz.prog 61 #[.string s] w fun e w' => e = .returned (.bool (isNumB s.data.toList)) ∧ Below w.heap.size w w' := by
  obtain ⟨w1, cap, hconv, hcap, hb1, hsz, hcell⟩ := bytes_of s w
  obtain ⟨l, hl⟩ : ∃ l, s.data.toList = l := ⟨_, rfl⟩
  rw [hl] at hcell ⊢
  have HL := Lib.hid hl
  have HN := Lib.hid (show s.size = l.length by rw [sz_eq, hl])
  have HC := Lib.hid hcell
  have HB := Lib.hid hb1
  obtain ⟨R, hR⟩ : ∃ R, isNumB l = R := ⟨_, rfl⟩
  rw [hR]
  have HR := Lib.hid hR
  clear hl hcell hb1 hR
  go_enter Tryz.func61, Tryz.ntmps61
  go_wp2_with fail
  go_loopg [8] s.size (fun k iv wr => ∃ j : Nat, iv = .int .i64 (j : Nat) ∧ k = s.size - j ∧ j ≤ s.size ∧ (l.take j).all digB = true ∧ wr = w1)
  case atStart => exact ⟨0, rfl, rfl, Nat.zero_le _, rfl, rfl⟩
  case round =>
    obtain ⟨j, rfl, hk, hj, hall, hwr⟩ := hrel
    subst hwr
    clear hconv
    have HK := Lib.hid hk
    have HA := Lib.hid hall
    clear hk hall
    by_cases hlt : j < s.size
    · have gjl : (j : Int) < (s.size : Int) := by omega
      have gwj : IntKind.i64.wrap ((j : Int) + 1) = (j : Int) + 1 := by rw [show (j : Int) + 1 = ((j + 1 : Nat) : Int) by omega]; exact IntWalk.i64_in _ (by omega)
      have hc := HC.out j hlt
      have hjl : j < l.length := by rw [← HN.out]; exact hlt
      obtain ⟨x, hx⟩ : ∃ x, (l.getD j 0).toNat = x := ⟨_, rfl⟩
      rw [hx] at hc
      by_cases hd : 48 ≤ x ∧ x ≤ 57
      · have gx1 : ¬ ((x : Int) < 48) := by omega
        have gx2 : ¬ ((57 : Int) < (x : Int)) := by omega
        have HA2 : Hid ((l.take (j + 1)).all digB = true) := by
          show _ = _
          rw [List.take_succ_eq_append_getElem hjl, List.all_append, HA.out, Bool.true_and]
          have e : l[j] = l.getD j 0 := by rw [List.getD_eq_getElem?_getD, List.getElem?_eq_getElem hjl]; rfl
          rw [e]
          have : digB (l.getD j 0) = true := by rw [digB_iff, hx]; exact hd
          simpa using this
        clear hx hd hjl
        go_wp2_with fail
        go_roundg (s.size - (j + 1))
        case measure => rw [HK.out]; omega
        case rel => exact ⟨j + 1, by go_num, rfl, by omega, HA2.out, rfl⟩
      · have HF : Hid (R = false) := by
          show _ = _
          rw [← HR.out]
          unfold isNumB
          rw [all_false hjl (digB_not (by rw [hx]; exact hd)), Bool.false_and]
        by_cases h1 : x < 48
        · have gx1 : (x : Int) < 48 := by omega
          clear hx hd h1 hjl
          go_wp2_with fail
          go_ret
          exact ⟨by rw [HF.out]; rfl, HB.out⟩
        · have gx1 : ¬ ((x : Int) < 48) := by omega
          have gx2 : (57 : Int) < (x : Int) := by omega
          clear hx hd h1 hjl
          go_wp2_with fail
          go_ret
          exact ⟨by rw [HF.out]; rfl, HB.out⟩
    · obtain rfl : j = s.size := by omega
      have hall : l.all digB = true := by have := HA.out; rw [HN.out, List.take_length] at this; exact this
      have htl : s.toList = l := by rw [ByteArray.toList_eq, HL.out]
      by_cases h48 : l = [48]
      · have g48 : s.toList = [48] := by rw [htl, h48]
        have HF : Hid (R = true) := by show _ = _; rw [← HR.out, h48]; rfl
        clear hall htl h48 hlt
        go_wp2_with fail
        go_ret
        exact ⟨by rw [HF.out]; rfl, HB.out⟩
      · have g48 : ¬ (s.toList = [48]) := by rw [htl]; exact h48
        by_cases h0 : l = []
        · have g0 : s.toList = [] := by rw [htl, h0]
          have HF : Hid (R = false) := by show _ = _; rw [← HR.out, h0]; rfl
          clear hall htl h48 hlt h0
          go_wp2_with fail
          go_ret
          exact ⟨by rw [HF.out]; rfl, HB.out⟩
        · have g0 : ¬ (s.toList = []) := by rw [htl]; exact h0
          have hs0 : 0 < s.size := by rw [HN.out]; exact List.length_pos_iff.2 h0
          obtain ⟨x, hx⟩ : ∃ x, (l.getD 0 0).toNat = x := ⟨_, rfl⟩
          have gx : (s[0]'hs0).toNat = x := by rw [ba_at s 0 hs0, HL.out, hx]
          have hhead : l.head? = some 48 ↔ x = 48 := by
            rw [← hx]
            cases l with
            | nil => exact absurd rfl h0
            | cons a b =>
              simp only [List.head?_cons, Option.some.injEq, List.getD_cons_zero]
              exact ⟨fun e => by rw [e]; rfl, fun e => UInt8.toNat_inj.1 e⟩
          have hval : R = !(l.head? == some 48) := by
            rw [← HR.out]
            unfold isNumB
            rw [hall, Bool.true_and, show (l == [48]) = false by simpa using h48, Bool.false_or, show l.isEmpty = false by simpa using h0]
            rfl
          have HG48 : Hid ((s.toList == [48]) = false) := by show _ = _; simpa using g48
          have HGE : Hid ((s.toList == [48] || !s.toList.isEmpty) = true) := by show _ = _; rw [show s.toList.isEmpty = false by simpa using g0]; simp
          by_cases hx48 : x = 48
          · subst hx48
            have HF : Hid (R = false) := by show _ = _; rw [hval, hhead.2 rfl]; rfl
            clear hall htl h48 hlt h0 hx hhead hval
            go_wp2_with fail
            go_ret
            exact ⟨by rw [HF.out]; exact congrArg (fun b => Ending.returned (.bool b)) HG48.out, HB.out⟩
          · have gx48 : ¬ ((x : Int) = 48) := by omega
            have gx49 : ((x : Int) != 48) = true := by simpa using gx48
            have HF : Hid (R = true) := by
              show _ = _
              rw [hval]
              have : ¬ l.head? = some 48 := fun e => hx48 (hhead.1 e)
              simpa using this
            clear hall htl h48 hlt h0 hx hhead hval hx48
            go_wp2_with fail
            go_ret
            exact ⟨by rw [HF.out]; exact congrArg (fun b => Ending.returned (.bool b)) HGE.out, HB.out⟩
end Go.Proofs.YtmhmkhdgpfhnfaaGreatDoor.Ref
