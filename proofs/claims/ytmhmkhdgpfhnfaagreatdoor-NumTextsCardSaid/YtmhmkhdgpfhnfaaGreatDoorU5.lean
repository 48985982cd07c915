/- The reference's ParseQ: a fraction of its canonical form. -/
import Derived.Test.YtmhmkhdgpfhnfaaGreatDoorU4
set_option linter.unusedVariables false
set_option linter.unusedSimpArgs false
set_option linter.unnecessarySimpa false
namespace Go.Proofs.YtmhmkhdgpfhnfaaGreatDoor.Ref
open Go.RowKit Go.Lib

/-- where the first '/' stands, or the length -/
def slashAt (l : List UInt8) : Nat := l.findIdx (fun b => b == 47)
theorem slashAt_le (l : List UInt8) : slashAt l ≤ l.length := List.findIdx_le_length
theorem slashAt_hit {l : List UInt8} {i : Nat} (hi : i < l.length) (hx : (l.getD i 0).toNat = 47) (h : i ≤ slashAt l) : slashAt l = i := by
  refine Nat.le_antisymm ?_ h
  apply Nat.le_of_not_lt
  intro hlt
  have := List.not_of_lt_findIdx (p := fun b : UInt8 => b == 47) (xs := l) (i := i) hlt
  rw [List.getD_eq_getElem?_getD, List.getElem?_eq_getElem hi] at hx
  have e : l[i] = 47 := UInt8.toNat_inj.1 hx
  rw [e] at this
  exact absurd this (by decide)
theorem slashAt_miss {l : List UInt8} {i : Nat} (hi : i < l.length) (hx : ¬ (l.getD i 0).toNat = 47) : slashAt l ≠ i := by
  intro e
  have hlt : List.findIdx (fun b : UInt8 => b == 47) l < l.length := by unfold slashAt at e; omega
  have := List.findIdx_getElem (p := fun b : UInt8 => b == 47) (xs := l) (w := hlt)
  apply hx
  rw [List.getD_eq_getElem?_getD, List.getElem?_eq_getElem hi]
  have e2 : l[i] = 47 := by
    have h1 : l[List.findIdx (fun b : UInt8 => b == 47) l] = 47 := by simpa using this
    have h2 : l[List.findIdx (fun b : UInt8 => b == 47) l] = l[i] := by congr 1
    rw [← h2]; exact h1
  show (l[i]).toNat = 47
  rw [e2]; rfl
/-- a fraction in lowest terms that is small, or the code of the refusal -/
def smallQ (a b : Int) : Nat × Int × Int := if nDigits a.natAbs ≤ 20000 ∧ nDigits b.natAbs ≤ 20000 then (0, a, b) else (11, 0, 0)
def pq (l : List UInt8) : Nat × Int × Int :=
  if 41000 < l.length then (2, 0, 0) else
  match parseZ (l.take (slashAt l)) with
  | none => (10, 0, 0)
  | some a => if slashAt l < l.length then
      (match parseZ (l.drop (slashAt l + 1)) with
      | none => (10, 0, 0)
      | some b => if b < 2 ∨ Nat.gcd a.natAbs b.natAbs ≠ 1 then (10, 0, 0) else smallQ a b)
    else smallQ a 1
def PqOut (w : World) (r : Nat × Int × Int) (e : Ending) (w' : World) : Prop := ∃ v, Below w.heap.size w w' ∧
  if r.1 = 0 then e = .returned (.tuple #[v, .int .i64 0]) ∧ Qv w' v r.2.1 r.2.2
  else e = .returned (.tuple #[.agg #[.bool false, .slice none 0 0, .bool false, .slice none 0 0], .int .i64 (r.1 : Nat)])
theorem num_len {m : List UInt8} (neg : Bool) (hm : okNum neg m = true) (K : Nat) (hml : m.length ≤ 9 * K) : (limbs (numOf m)).length ≤ K := by
  have ha : m.all digB = true := by unfold okNum at hm; rw [Bool.and_eq_true] at hm; exact hm.1
  refine limbs_length_le _ _ ?_
  have h1 := numOf_lt ha
  have h2 : 10 ^ m.length ≤ 10 ^ (9 * K) := Nat.pow_le_pow_right (by decide) hml
  have h3 : (1000000000 : Nat) ^ K = 10 ^ (9 * K) := by rw [Nat.pow_mul]
  rw [h3]
  exact Nat.lt_of_lt_of_le h1 h2
theorem parseZ_len {l : List UInt8} {z : Int} (h : parseZ l = some z) (hl : l.length ≤ 50000) : (limbs z.natAbs).length ≤ 10000 := by
  unfold parseZ at h
  split at h
  · split at h
    · rename_i h2
      injection h with h
      rw [← h, Int.natAbs_neg, Int.natAbs_natCast]
      exact num_len true h2 10000 (by rw [List.length_drop]; omega)
    · cases h
  · split at h
    · rename_i h2
      injection h with h
      rw [← h, Int.natAbs_natCast]
      exact num_len false h2 10000 (by omega)
    · cases h
theorem ba_take (s : ByteArray) (k : Nat) (h : k ≤ s.size) : (s.extract 0 k).data.toList = s.data.toList.take k := by
  rw [ByteArray.data_extract, Array.toList_extract, List.extract_eq_take_drop]
  simp
theorem ba_drop (s : ByteArray) (k : Nat) : (s.extract k s.size).data.toList = s.data.toList.drop k := by
  rw [ByteArray.data_extract, Array.toList_extract, List.extract_eq_take_drop, List.take_of_length_le]
  rw [List.length_drop, sz_eq s]
  omega
theorem qv_parts {w : World} {x1 s1 x2 s2 : Value} {n d : Int} (h : Qv w (.agg #[x1, s1, x2, s2]) n d) : Zv w (.agg #[x1, s1]) n ∧ Zv w (.agg #[x2, s2]) d := by
  obtain ⟨b1, s1', b2, s2', e, h1, h2⟩ := h
  simp only [Value.agg.injEq, Array.mk.injEq, List.cons.injEq, and_true] at e
  obtain ⟨e1, e2, e3, e4⟩ := e
  rw [e1, e2, e3, e4]
  exact ⟨h1, h2⟩
theorem small_big (n d : Int) (v1 : Value) (w : World) (h1 : Qv w v1 n d) (hl1 : (limbs n.natAbs).length ≤ 400000) (hl2 : (limbs d.natAbs).length ≤ 400000) :
    Calls Tryz.prog 53 #[v1, .int .i64 20000] w fun e w' => e = .returned (.bool (decide (nDigits n.natAbs ≤ 20000) && decide (nDigits d.natAbs ≤ 20000))) ∧ Below w.heap.size w w' := small_q n d 20000 v1 w h1 hl1 hl2
set_option maxRecDepth 100000 in
set_option maxHeartbeats 4000000 in
theorem parseQ_go (s : ByteArray) (w : World) (hs : s.size ≤ 9000000000000000000) :
    Calls Tryz.prog 12 #[.string s] w (PqOut w (pq s.data.toList)) := by
  obtain ⟨l, hl⟩ : ∃ l, s.data.toList = l := ⟨_, rfl⟩
  have hn : s.size = l.length := by rw [sz_eq, hl]
  have HL := Lib.hid hl
  have HN := Lib.hid hn
  obtain ⟨r, hr⟩ : ∃ r, pq s.data.toList = r := ⟨_, rfl⟩
  rw [hr]
  rw [hl] at hr
  have x1 := row_new 36 w #[.bool false, .slice none 0 0, .bool false, .slice none 0 0]
  have x2 := (Below.refl w.heap.size w).alloc (Nat.le_refl _) (.cells #[.bool false, .slice none 0 0, .bool false, .slice none 0 0] 36)
  have x3 : (w.alloc (.cells #[.bool false, .slice none 0 0, .bool false, .slice none 0 0] 36)).heap.size = w.heap.size + 1 := by simp
  by_cases hbig : 41000 < s.size
  · have gbig : (41000 : Int) < (s.size : Int) := by omega
    have HR : Hid (r = (2, 0, 0)) := by show _ = _; rw [← hr]; unfold pq; rw [if_pos (by omega)]
    have HX2 := Lib.hid x2
    clear hr hl hn x1 x2 x3 hbig
    go_enter Tryz.func12, Tryz.ntmps12
    go_wp2_with fail
    refine bodyPost_ret (v := .tuple #[.agg #[.bool false, .slice none 0 0, .bool false, .slice none 0 0], .int .i64 2]) (by simp [results, Tryz.results12, go_sem]) rfl ⟨.bool false, HX2.out, ?_⟩
    rw [HR.out]
    exact rfl
  · have gbig : ¬ ((41000 : Int) < (s.size : Int)) := by omega
    have hln : l.length ≤ 41000 := by omega
    unfold pq at hr
    rw [if_neg (by omega)] at hr
    have HR := Lib.hid hr
    have HLN := Lib.hid hln
    obtain ⟨A, hA⟩ : ∃ A, slashAt l = A := ⟨_, rfl⟩
    have HA := Lib.hid hA
    have hAn := slashAt_le l
    rw [hA] at HR hAn
    have HAN := Lib.hid hAn
    clear hr hl hA hAn hln hbig hn
    go_enter Tryz.func12, Tryz.ntmps12
    go_upto_region 3 with (fail)
    generalize w.alloc (.cells #[.bool false, .slice none 0 0, .bool false, .slice none 0 0] 36) = w1 at *
    obtain ⟨h, hh⟩ : ∃ h, w.heap.size = h := ⟨_, rfl⟩
    have HH := Lib.hid hh
    rw [hh] at x1 x2 x3 ⊢
    have X1 := Lib.hid x1
    have X2 := Lib.hid x2
    have X3 := Lib.hid x3
    clear x1 x2 x3 hh
    go_wp2_with fail
    go_loopg [4, 5] s.size (fun k av iv wr => ∃ i : Nat, iv = .int .i64 (i : Nat) ∧ av = .int .i64 ((if A < i then A else s.size : Nat) : Int) ∧ k = s.size - i ∧ i ≤ s.size ∧ wr = w1)
    case atStart => exact ⟨0, rfl, by rw [if_neg (by omega)], rfl, Nat.zero_le _, rfl⟩
    case round =>
      obtain ⟨i, rfl, rfl, hk, hi, hwr⟩ := hrel
      subst hwr
      have HK := Lib.hid hk
      clear hk
      by_cases hlt : i < s.size
      · have gil : (i : Int) < (s.size : Int) := by omega
        have gi0 : (0 : Int) ≤ (i : Int) := by omega
        have gwi : IntKind.i64.wrap ((i : Int) + 1) = (i : Int) + 1 := by rw [show (i : Int) + 1 = ((i + 1 : Nat) : Int) by omega]; exact IntWalk.i64_in _ (by omega)
        have hil : i < l.length := by rw [← HN.out]; exact hlt
        obtain ⟨x, hx⟩ : ∃ x, (l.getD i 0).toNat = x := ⟨_, rfl⟩
        have gx : (s[i]'hlt).toNat = x := by rw [ba_at s i hlt, HL.out, hx]
        by_cases h47 : x = 47
        · subst h47
          by_cases hAi : A < i
          · rw [if_pos hAi]
            have gA : ¬ ((A : Int) = (s.size : Int)) := by omega
            have HAI := Lib.hid hAi
            clear hx hil hAi
            go_wp2_with fail
            go_roundg (s.size - (i + 1))
            case measure => rw [HK.out]; omega
            case rel => exact ⟨i + 1, by go_num, by rw [if_pos (by have := HAI.out; omega)], rfl, by omega, rfl⟩
          · rw [if_neg hAi]
            have HAI : Hid (A = i) := by show _ = _; rw [← HA.out]; exact slashAt_hit hil hx (by rw [HA.out]; omega)
            clear hx hil hAi
            go_wp2_with fail
            go_roundg (s.size - (i + 1))
            case measure => rw [HK.out]; omega
            case rel => exact ⟨i + 1, by go_num, by rw [if_pos (by have := HAI.out; omega), HAI.out], rfl, by omega, rfl⟩
        · have g47 : ¬ ((x : Int) = 47) := by omega
          have HAI : Hid (A ≠ i) := by show _ ≠ _; rw [← HA.out]; exact slashAt_miss hil (by rw [hx]; exact h47)
          obtain ⟨v, hv⟩ : ∃ v, (if A < i then A else s.size) = v := ⟨_, rfl⟩
          have HV : Hid ((if A < i + 1 then A else s.size) = v) := by
            show _ = _
            rw [← hv]
            have := HAI.out
            by_cases h : A < i
            · rw [if_pos h, if_pos (by omega)]
            · rw [if_neg h, if_neg (by omega)]
          rw [hv]
          clear hx hil h47 hv
          go_wp2_with fail
          go_roundg (s.size - (i + 1))
          case measure => rw [HK.out]; omega
          case rel => exact ⟨i + 1, by go_num, by rw [HV.out], rfl, by omega, rfl⟩
      · obtain rfl : i = s.size := by omega
        have gil : ¬ ((s.size : Int) < (s.size : Int)) := by omega
        have hAv : (if A < s.size then A else s.size) = A := by
          have := HAN.out; have := HN.out
          by_cases h : A < s.size
          · rw [if_pos h]
          · rw [if_neg h]; omega
        rw [hAv]
        have hAs : A ≤ s.size := by have := HAN.out; have := HN.out; omega
        have gA0 : (0 : Int) ≤ (A : Int) := by omega
        have gAs : (A : Int) ≤ (s.size : Int) := by omega
        have HP1 : Hid (∀ W, Calls Tryz.prog 69 #[.string (s.extract 0 A)] W (ParseOut W (parseZ (l.take A)))) := fun W => by
          have := parse_go (s.extract 0 A) W (by rw [sz_eq, ba_take s A hAs, List.length_take]; omega)
          rw [ba_take s A hAs, HL.out] at this
          exact this
        have HAS := Lib.hid hAs
        clear hAv hi HK
        cases hpa : parseZ (l.take A) with
        | none =>
          have HR2 : Hid (r = (10, 0, 0)) := by show _ = _; rw [← HR.out, hpa]
          go_wp2_with fail
          refine (HP1.out wr).mono ?_
          rw [hpa]
          rintro e w2 ⟨v, hb2, he⟩
          obtain rfl : e = _ := he
          have ROW2 := Lib.hid (X1.out.below hb2 X1.out.lt)
          have BEL2 := Lib.hid (X2.out.trans (hb2.mono (Nat.le_of_lt X1.out.lt)))
          clear hb2 HP1 hpa HR
          go_upto_region 11 with (fail)
          have hrx := ROW2.out.alloc (.cells #[.bool false, .slice none 0 0] 34)
          have hbx := BEL2.out.alloc (Nat.le_of_lt ROW2.out.lt) (.cells #[.bool false, .slice none 0 0] 34)
          generalize w2.alloc (.cells #[.bool false, .slice none 0 0] 34) = w3 at *
          have ROWH := Lib.hid hrx
          have BELH := Lib.hid hbx
          clear hrx hbx
          obtain ⟨⟨f1, f2⟩, ⟨f3, f4⟩, ⟨f5, f6⟩, ⟨f7, f8⟩, f9⟩ := row4 (ROWH.out) (.bool false) (.slice none 0 0) (.bool false) (.slice none 0 0)
          have hbe_ := ((((BELH.out).setCell (p := ⟨h, 0, none⟩) (Nat.le_refl h) (.bool false)).setCell (p := ⟨h, 1, none⟩) (Nat.le_refl h) (.slice none 0 0)).setCell (p := ⟨h, 2, none⟩) (Nat.le_refl h) (.bool false)).setCell (p := ⟨h, 3, none⟩) (Nat.le_refl h) (.slice none 0 0)
          have HBE_ := Lib.hid hbe_
          have F9 := Lib.hid f9
          clear hbe_ f9
          have y0 := F9.out.cell 0
          have y1 := F9.out.cell 1
          have y2 := F9.out.cell 2
          have y3 := F9.out.cell 3
          simp only [List.getElem?_cons_zero, List.getElem?_cons_succ] at y0 y1 y2 y3
          go_wp2_with fail
          refine bodyPost_ret (v := .tuple #[.agg #[.bool false, .slice none 0 0, .bool false, .slice none 0 0], .int .i64 10]) (by simp [results, Tryz.results12, go_sem, y0, y1, y2, y3]) rfl ⟨.bool false, by rw [HH.out]; exact HBE_.out, ?_⟩
          rw [HR2.out]
          exact rfl
        | some a =>
          have HLA := parseZ_len hpa (by rw [List.length_take]; have := HLN.out; omega)
          have HR1 : Hid ((if A < l.length then (match parseZ (l.drop (A + 1)) with | none => (10, 0, 0) | some b => if b < 2 ∨ Nat.gcd a.natAbs b.natAbs ≠ 1 then (10, 0, 0) else smallQ a b) else smallQ a 1) = r) := by
            have := HR.out
            rw [hpa] at this
            exact this
          go_wp2_with fail
          refine (HP1.out wr).mono ?_
          rw [hpa]
          rintro e w2 ⟨v, hb2, he, hz⟩
          subst he
          obtain ⟨b1, p1, n1, c1, rfl, hz⟩ := hz.form
          have ROW2 := Lib.hid (X1.out.below hb2 X1.out.lt)
          have BEL2 := Lib.hid (X2.out.trans (hb2.mono (Nat.le_of_lt X1.out.lt)))
          have HZ2 := Lib.hid hz
          clear hb2 HP1 hpa HR hz
          go_upto_region 12 with (fail)
          have hrx := ROW2.out.alloc (.cells #[.bool b1, .slice p1 n1 c1] 34)
          have hbx := BEL2.out.alloc (Nat.le_of_lt ROW2.out.lt) (.cells #[.bool b1, .slice p1 n1 c1] 34)
          have h6x := row_new 34 w2 #[.bool b1, .slice p1 n1 c1]
          have hzx := HZ2.out.below ((Below.refl w2.heap.size w2).alloc (Nat.le_refl _) (.cells #[.bool b1, .slice p1 n1 c1] 34))
          generalize w2.alloc (.cells #[.bool b1, .slice p1 n1 c1] 34) = w3 at *
          obtain ⟨g6, hg6⟩ : ∃ g, w2.heap.size = g := ⟨_, rfl⟩
          have hg6h : h < g6 := by rw [← hg6]; exact ROW2.out.lt
          rw [hg6] at h6x ⊢
          have ROW3 := Lib.hid hrx
          have BEL3 := Lib.hid hbx
          have R63 := Lib.hid h6x
          have HZ3 := Lib.hid hzx
          have q0 := h6x.cell 0
          have q1 := h6x.cell 1
          simp only [List.getElem?_cons_zero, List.getElem?_cons_succ] at q0 q1
          clear hrx hbx h6x hzx hg6 ROW2 BEL2 HZ2
          go_wp2_with fail
          refine (whole_go a _ w3 HZ3.out).mono ?_
          rintro e w4 ⟨v4, rfl, hq4, hb4⟩
          obtain ⟨bn, pn, kn, cn, bd, pd, kd, cd, rfl, _, _⟩ := hq4.form
          have ROW4 := Lib.hid (ROW3.out.below hb4 ROW3.out.lt)
          have BEL4 := Lib.hid (BEL3.out.trans (hb4.mono (Nat.le_of_lt ROW3.out.lt)))
          have R64 := Lib.hid (R63.out.below hb4 R63.out.lt)
          have HZ4 := Lib.hid (HZ3.out.below hb4)
          have HQ4 := Lib.hid hq4
          clear hq4 hb4 ROW3 BEL3 R63 HZ3 q0 q1
          go_upto_region 13 with (fail)
          have hall := (Below.refl w4.heap.size w4).alloc (Nat.le_refl _) (.cells #[.bool bn, .slice pn kn cn, .bool bd, .slice pd kd cd] 36)
          have hrx := ROW4.out.below hall ROW4.out.lt
          have hbx := BEL4.out.trans (hall.mono (Nat.le_of_lt ROW4.out.lt))
          have h6x := R64.out.below hall R64.out.lt
          have hzx := HZ4.out.below hall
          have hqx := HQ4.out.below hall
          have h8x := row_new 36 w4 #[.bool bn, .slice pn kn cn, .bool bd, .slice pd kd cd]
          have h68 : g6 < w4.heap.size := R64.out.lt
          generalize w4.alloc (.cells #[.bool bn, .slice pn kn cn, .bool bd, .slice pd kd cd] 36) = w5 at *
          obtain ⟨g8, hg8⟩ : ∃ g, w4.heap.size = g := ⟨_, rfl⟩
          rw [hg8] at h8x h68 ⊢
          have ROWH := Lib.hid hrx
          have BELH := Lib.hid hbx
          have R65 := Lib.hid h6x
          have HZ5 := Lib.hid hzx
          have HQ := Lib.hid hqx
          have ROW8 := Lib.hid h8x
          clear hall hrx hbx h6x hzx hqx h8x hg8 ROW4 BEL4 R64 HZ4 HQ4
          by_cases hAl : A < l.length
          · have gAl : (A : Int) < (s.size : Int) := by have := HN.out; omega
            have HR3 : Hid ((match parseZ (l.drop (A + 1)) with | none => (10, 0, 0) | some b => if b < 2 ∨ Nat.gcd a.natAbs b.natAbs ≠ 1 then (10, 0, 0) else smallQ a b) = r) := by
              have := HR1.out
              rw [if_pos hAl] at this
              exact this
            have hA1 : A + 1 ≤ s.size := by have := HN.out; omega
            have gA1 : (A : Int) + 1 ≤ (s.size : Int) := by omega
            have gwA : IntKind.i64.wrap ((A : Int) + 1) = (A : Int) + 1 := by rw [show (A : Int) + 1 = ((A + 1 : Nat) : Int) by omega]; exact IntWalk.i64_in _ (by omega)
            have HP2 : Hid (∀ W, Calls Tryz.prog 69 #[.string (s.extract (A + 1) s.size)] W (ParseOut W (parseZ (l.drop (A + 1))))) := fun W => by
              have := parse_go (s.extract (A + 1) s.size) W (by rw [sz_eq, ba_drop s (A + 1), List.length_drop, HL.out]; have := HLN.out; omega)
              rw [ba_drop s (A + 1), HL.out] at this
              exact this
            clear hAl HR1
            cases hpb : parseZ (l.drop (A + 1)) with
            | none =>
              have HR5 : Hid (r = (10, 0, 0)) := by show _ = _; rw [← HR3.out, hpb]
              go_wp2_with fail
              refine (HP2.out w5).mono ?_
              rw [hpb]
              rintro e w6 ⟨v, hb6, he⟩
              obtain rfl : e = _ := he
              have ROW6 := Lib.hid (ROWH.out.below hb6 ROWH.out.lt)
              have BEL6 := Lib.hid (BELH.out.trans (hb6.mono (Nat.le_of_lt ROWH.out.lt)))
              clear hb6 HP2 hpb HR3 ROWH BELH
              go_upto_region 15 with (fail)
              have hrx := ROW6.out.alloc (.cells #[.bool false, .slice none 0 0] 34)
              have hbx := BEL6.out.alloc (Nat.le_of_lt ROW6.out.lt) (.cells #[.bool false, .slice none 0 0] 34)
              generalize w6.alloc (.cells #[.bool false, .slice none 0 0] 34) = wX at *
              have ROWHX := Lib.hid hrx
              have BELHX := Lib.hid hbx
              clear hrx hbx ROW6 BEL6
              refine wp_region_rel (by kernel_rfl) 83 rfl (by kernel_rfl) [.fix (.bool false), .fix (.bool true), .fix (.bool true), .fix undef, .fix undef, .fix undef, .fix undef, .fix (.bool true), .fix (.bool true), .fix undef, .fix undef, .fix undef, .fix undef, .fix undef, .fix undef, .fix (.bool true)] rfl (stays_fix rfl) ?hop ?hQ
              case hop =>
                intro W hW j o hj vs w1' hb hV
                have hj' : j < 16 := (List.getElem?_eq_some_iff.1 hj).1
                rcases (by omega : j = 0 ∨ j = 1 ∨ j = 2 ∨ j = 3 ∨ j = 4 ∨ j = 5 ∨ j = 6 ∨ j = 7 ∨ j = 8 ∨ j = 9 ∨ j = 10 ∨ j = 11 ∨ j = 12 ∨ j = 13 ∨ j = 14 ∨ j = 15) with rfl | rfl | rfl | rfl | rfl | rfl | rfl | rfl | rfl | rfl | rfl | rfl | rfl | rfl | rfl | rfl
                · cases hj
                  clear hj'
                  refine .inl ⟨rfl, ?_⟩
                  generalize hG : relUpon _ _ _ = G
                  clear hV hb hW
                  subst hG
                  simp only [putAll]
                  generalize hR : Res _ _ vs w1' = R
                  go_simp
                  subst hR
                  exact ⟨rfl, Below.refl _ _⟩
                · cases hj
                  clear hj'
                  refine .inl ⟨rfl, ?_⟩
                  generalize hG : relUpon _ _ _ = G
                  have q0_ : vs 0 = _ := hV 0 (by decide)
                  clear hV hb hW
                  subst hG
                  simp only [putAll]
                  generalize hR : Res _ _ vs w1' = R
                  go_simp
                  subst hR
                  exact ⟨rfl, Below.refl _ _⟩
                · cases hj
                  clear hj'
                  refine .inl ⟨rfl, ?_⟩
                  generalize hG : relUpon _ _ _ = G
                  have q1_ : vs 1 = _ := hV 1 (by decide)
                  clear hV hb hW
                  subst hG
                  simp only [putAll]
                  generalize hR : Res _ _ vs w1' = R
                  go_simp
                  subst hR
                  exact ⟨rfl, Below.refl _ _⟩
                · cases hj
                  clear hj'
                  exact .inr ⟨rfl, rfl⟩
                · cases hj
                  clear hj'
                  exact .inr ⟨rfl, rfl⟩
                · cases hj
                  clear hj'
                  exact .inr ⟨rfl, rfl⟩
                · cases hj
                  clear hj'
                  exact .inr ⟨rfl, rfl⟩
                · cases hj
                  clear hj'
                  refine .inl ⟨rfl, ?_⟩
                  generalize hG : relUpon _ _ _ = G
                  have q2_ : vs 2 = _ := hV 2 (by decide)
                  clear hV hb hW
                  subst hG
                  simp only [putAll]
                  generalize hR : Res _ _ vs w1' = R
                  go_simp
                  subst hR
                  exact ⟨rfl, Below.refl _ _⟩
                · cases hj
                  clear hj'
                  refine .inl ⟨rfl, ?_⟩
                  generalize hG : relUpon _ _ _ = G
                  have q7_ : vs 7 = _ := hV 7 (by decide)
                  clear hV hb hW
                  subst hG
                  simp only [putAll]
                  generalize hR : Res _ _ vs w1' = R
                  go_simp
                  subst hR
                  exact ⟨rfl, Below.refl _ _⟩
                · cases hj
                  clear hj'
                  exact .inr ⟨rfl, rfl⟩
                · cases hj
                  clear hj'
                  exact .inr ⟨rfl, rfl⟩
                · cases hj
                  clear hj'
                  exact .inr ⟨rfl, rfl⟩
                · cases hj
                  clear hj'
                  exact .inr ⟨rfl, rfl⟩
                · cases hj
                  clear hj'
                  exact .inr ⟨rfl, rfl⟩
                · cases hj
                  clear hj'
                  exact .inr ⟨rfl, rfl⟩
                · cases hj
                  clear hj'
                  refine .inl ⟨rfl, ?_⟩
                  generalize hG : relUpon _ _ _ = G
                  have q8_ : vs 8 = _ := hV 8 (by decide)
                  clear hV hb hW
                  subst hG
                  simp only [putAll]
                  generalize hR : Res _ _ vs w1' = R
                  go_simp
                  subst hR
                  exact ⟨rfl, Below.refl _ _⟩
              case hQ =>
                intro W hW vs w2 hb hV hD
                have hbw : Below wX.heap.size wX w2 := by rw [hW] at hb; exact ((Below.refl wX.heap.size wX).drew).trans hb
                have e0_ : vs 0 = _ := hV 0 (by simp)
                have e1_ : vs 1 = _ := hV 1 (by simp)
                have e2_ : vs 2 = _ := hV 2 (by simp)
                have e3_ : vs 3 = _ := hV 3 (by simp)
                have e4_ : vs 4 = _ := hV 4 (by simp)
                have e5_ : vs 5 = _ := hV 5 (by simp)
                have e6_ : vs 6 = _ := hV 6 (by simp)
                have e7_ : vs 7 = _ := hV 7 (by simp)
                have e8_ : vs 8 = _ := hV 8 (by simp)
                have e9_ : vs 9 = _ := hV 9 (by simp)
                have e10_ : vs 10 = _ := hV 10 (by simp)
                have e11_ : vs 11 = _ := hV 11 (by simp)
                have e12_ : vs 12 = _ := hV 12 (by simp)
                have e13_ : vs 13 = _ := hV 13 (by simp)
                have e14_ : vs 14 = _ := hV 14 (by simp)
                have e15_ : vs 15 = _ := hV 15 (by simp)
                have ROWHn := Lib.hid (ROWHX.out.below hbw ROWHX.out.lt)
                have BELHn := Lib.hid (BELHX.out.trans (hbw.mono (Nat.le_of_lt ROWHX.out.lt)))
                clear hV hD hb hW hbw
                generalize hKK : Exit.then _ _ = KK
                simp only [putAll, e0_, e1_, e2_, e3_, e4_, e5_, e6_, e7_, e8_, e9_, e10_, e11_, e12_, e13_, e14_, e15_]
                go_simp
                subst hKK
                clear e0_ e1_ e2_ e3_ e4_ e5_ e6_ e7_ e8_ e9_ e10_ e11_ e12_ e13_ e14_ e15_
                obtain ⟨⟨f1, f2⟩, ⟨f3, f4⟩, ⟨f5, f6⟩, ⟨f7, f8⟩, f9⟩ := row4 (ROWHn.out) (.bool false) (.slice none 0 0) (.bool false) (.slice none 0 0)
                have hbe_ := ((((BELHn.out).setCell (p := ⟨h, 0, none⟩) (Nat.le_refl h) (.bool false)).setCell (p := ⟨h, 1, none⟩) (Nat.le_refl h) (.slice none 0 0)).setCell (p := ⟨h, 2, none⟩) (Nat.le_refl h) (.bool false)).setCell (p := ⟨h, 3, none⟩) (Nat.le_refl h) (.slice none 0 0)
                have HBE_ := Lib.hid hbe_
                have F9 := Lib.hid f9
                clear hbe_ f9
                have y0 := F9.out.cell 0
                have y1 := F9.out.cell 1
                have y2 := F9.out.cell 2
                have y3 := F9.out.cell 3
                simp only [List.getElem?_cons_zero, List.getElem?_cons_succ] at y0 y1 y2 y3
                go_wp2_with fail
                refine bodyPost_ret (v := .tuple #[.agg #[.bool false, .slice none 0 0, .bool false, .slice none 0 0], .int .i64 10]) (by simp [results, Tryz.results12, go_sem, y0, y1, y2, y3]) rfl ⟨.bool false, by rw [HH.out]; exact HBE_.out, ?_⟩
                rw [HR5.out]
                exact rfl
            | some b =>
              have HLB := parseZ_len hpb (by rw [List.length_drop]; have := HLN.out; omega)
              have HR4 : Hid ((if b < 2 ∨ Nat.gcd a.natAbs b.natAbs ≠ 1 then (10, 0, 0) else smallQ a b) = r) := by
                have := HR3.out
                rw [hpb] at this
                exact this
              go_wp2_with fail
              refine (HP2.out w5).mono ?_
              rw [hpb]
              rintro e w6 ⟨v, hb6, he, hz⟩
              subst he
              obtain ⟨b2, p2, n2, c2, rfl, hz⟩ := hz.form
              have ROW6 := Lib.hid (ROWH.out.below hb6 ROWH.out.lt)
              have BEL6 := Lib.hid (BELH.out.trans (hb6.mono (Nat.le_of_lt ROWH.out.lt)))
              have R66 := Lib.hid (R65.out.below hb6 R65.out.lt)
              have R86 := Lib.hid (ROW8.out.below hb6 ROW8.out.lt)
              have HZA6 := Lib.hid (HZ5.out.below hb6)
              have HZB6 := Lib.hid hz
              clear hb6 HP2 hpb HR3 hz ROWH BELH R65 ROW8 HZ5 HQ
              go_upto_region 15 with (fail)
              have hall := (Below.refl w6.heap.size w6).alloc (Nat.le_refl _) (.cells #[.bool b2, .slice p2 n2 c2] 34)
              have hrx := ROW6.out.below hall ROW6.out.lt
              have hbx := BEL6.out.trans (hall.mono (Nat.le_of_lt ROW6.out.lt))
              have h6x := R66.out.below hall R66.out.lt
              have h8x := R86.out.below hall R86.out.lt
              have hzax := HZA6.out.below hall
              have hzbx := HZB6.out.below hall
              have h9x := row_new 34 w6 #[.bool b2, .slice p2 n2 c2]
              generalize w6.alloc (.cells #[.bool b2, .slice p2 n2 c2] 34) = wX at *
              obtain ⟨g9, hg9⟩ : ∃ g, w6.heap.size = g := ⟨_, rfl⟩
              rw [hg9] at h9x ⊢
              have ROWHX := Lib.hid hrx
              have BELHX := Lib.hid hbx
              have R6X := Lib.hid h6x
              have R8X := Lib.hid h8x
              have R9X := Lib.hid h9x
              have HZAX := Lib.hid hzax
              have HZBX := Lib.hid hzbx
              have hgh8 : h ≤ g8 := by omega
              have hn8 : g8 ≠ h := by omega
              clear hall hrx hbx h6x h8x h9x hzax hzbx hg9 ROW6 BEL6 R66 R86 HZA6 HZB6
              obtain ⟨sg, hsg⟩ : ∃ s, Int.sign (b - 2) = s := ⟨_, rfl⟩
              have HC2 := Lib.hid (fun W v1 v2 h1 h2 => cmpZ_any b 2 v1 v2 W h1 h2 (Nat.le_trans HLB (by omega)) (Nat.le_trans (limbs_len3 (by decide)) (by omega)))
              rw [hsg] at HC2
              by_cases hb2 : b < 2
              · have HR5 : Hid (r = (10, 0, 0)) := by show _ = _; rw [← HR4.out, if_pos (.inl hb2)]
                have gsg : sg < 0 := by rw [← hsg, Int.sign_eq_neg_one_of_neg (by omega)]; decide
                clear hsg hb2 HR4
                refine wp_region_rel (by kernel_rfl) 83 rfl (by kernel_rfl) [.fix (.bool true), .fix (.bool false), .fix (.bool false), .fix (.agg #[.bool b2, .slice p2 n2 c2]), .mem (fun u W => Zv W u 2), .fix (.int .i64 sg), .fix (.bool true), .fix (.bool true), .fix (.bool true), .fix undef, .fix undef, .fix undef, .fix undef, .fix undef, .fix undef, .fix (.bool true)] rfl (stays_stb (fun i M hk => by rcases i with _ | _ | _ | _ | _ | _ | _ | _ | _ | _ | _ | _ | _ | _ | _ | _ | i <;> simp at hk <;> subst hk <;> first | exact stb_zv _ | exact stb_qv _ _ | exact stb_lb _)) ?hop ?hQ
                case hop =>
                  intro W hW j o hj vs w1' hb hV
                  have hj' : j < 16 := (List.getElem?_eq_some_iff.1 hj).1
                  rcases (by omega : j = 0 ∨ j = 1 ∨ j = 2 ∨ j = 3 ∨ j = 4 ∨ j = 5 ∨ j = 6 ∨ j = 7 ∨ j = 8 ∨ j = 9 ∨ j = 10 ∨ j = 11 ∨ j = 12 ∨ j = 13 ∨ j = 14 ∨ j = 15) with rfl | rfl | rfl | rfl | rfl | rfl | rfl | rfl | rfl | rfl | rfl | rfl | rfl | rfl | rfl | rfl
                  · cases hj
                    clear hj'
                    refine .inl ⟨rfl, ?_⟩
                    generalize hG : relUpon _ _ _ = G
                    clear hV hb hW
                    subst hG
                    simp only [putAll]
                    generalize hR : Res _ _ vs w1' = R
                    go_simp
                    subst hR
                    exact ⟨rfl, Below.refl _ _⟩
                  · cases hj
                    clear hj'
                    refine .inl ⟨rfl, ?_⟩
                    generalize hG : relUpon _ _ _ = G
                    have q0_ : vs 0 = _ := hV 0 (by decide)
                    clear hV hb hW
                    subst hG
                    simp only [putAll]
                    generalize hR : Res _ _ vs w1' = R
                    go_simp
                    subst hR
                    exact ⟨rfl, Below.refl _ _⟩
                  · cases hj
                    clear hj'
                    refine .inl ⟨rfl, ?_⟩
                    generalize hG : relUpon _ _ _ = G
                    have q1_ : vs 1 = _ := hV 1 (by decide)
                    clear hV hb hW
                    subst hG
                    simp only [putAll]
                    generalize hR : Res _ _ vs w1' = R
                    go_simp
                    subst hR
                    exact ⟨rfl, Below.refl _ _⟩
                  · cases hj
                    clear hj'
                    refine .inl ⟨rfl, ?_⟩
                    generalize hG : relUpon _ _ _ = G
                    have hbw : Below wX.heap.size wX w1' := by rw [hW] at hb; exact ((Below.refl wX.heap.size wX).drew).trans hb
                    have d0 := (R9X.out.below hbw R9X.out.lt).cell 0
                    have d1 := (R9X.out.below hbw R9X.out.lt).cell 1
                    simp only [List.getElem?_cons_zero, List.getElem?_cons_succ] at d0 d1
                    clear hbw hW hb hV
                    subst hG
                    simp only [putAll]
                    generalize hR : Res _ _ vs w1' = R
                    go_simp
                    subst hR
                    exact ⟨rfl, Below.refl _ _⟩
                  · cases hj
                    clear hj'
                    refine .inl ⟨rfl, ?_⟩
                    generalize hG : relUpon _ _ _ = G
                    clear hV hb hW
                    subst hG
                    simp only [putAll]
                    generalize hR : Res _ _ vs w1' = R
                    go_simp
                    subst hR
                    refine (of_go 2 w1' (by omega) (by omega)).mono ?_
                    rintro e w2 ⟨v, rfl, hz, hb2⟩
                    exact ⟨_, rfl, hz, hb2⟩
                  · cases hj
                    clear hj'
                    refine .inl ⟨rfl, ?_⟩
                    generalize hG : relUpon _ _ _ = G
                    have hbw : Below wX.heap.size wX w1' := by rw [hW] at hb; exact ((Below.refl wX.heap.size wX).drew).trans hb
                    have q3_ : vs 3 = _ := hV 3 (by decide)
                    have hz : Zv w1' (vs 4) 2 := hV 4 (by decide)
                    have HZ := Lib.hid hz
                    have HKK := Lib.hid (HZBX.out.below hbw)
                    clear hbw hW hb hV hz
                    subst hG
                    simp only [putAll]
                    generalize hR : Res _ _ vs w1' = R
                    go_simp
                    subst hR
                    refine (HC2.out w1' _ _ HKK.out HZ.out).mono ?_
                    rintro e w2 ⟨rfl, hb2⟩
                    exact ⟨_, rfl, rfl, hb2⟩
                  · cases hj
                    clear hj'
                    refine .inl ⟨rfl, ?_⟩
                    generalize hG : relUpon _ _ _ = G
                    have q5_ : vs 5 = _ := hV 5 (by decide)
                    clear hV hb hW
                    subst hG
                    simp only [putAll]
                    generalize hR : Res _ _ vs w1' = R
                    go_simp
                    subst hR
                    exact ⟨rfl, Below.refl _ _⟩
                  · cases hj
                    clear hj'
                    refine .inl ⟨rfl, ?_⟩
                    generalize hG : relUpon _ _ _ = G
                    have q2_ : vs 2 = _ := hV 2 (by decide)
                    have q6_ : vs 6 = _ := hV 6 (by decide)
                    clear hV hb hW
                    subst hG
                    simp only [putAll]
                    generalize hR : Res _ _ vs w1' = R
                    go_simp
                    subst hR
                    exact ⟨rfl, Below.refl _ _⟩
                  · cases hj
                    clear hj'
                    refine .inl ⟨rfl, ?_⟩
                    generalize hG : relUpon _ _ _ = G
                    have q7_ : vs 7 = _ := hV 7 (by decide)
                    clear hV hb hW
                    subst hG
                    simp only [putAll]
                    generalize hR : Res _ _ vs w1' = R
                    go_simp
                    subst hR
                    exact ⟨rfl, Below.refl _ _⟩
                  · cases hj
                    clear hj'
                    exact .inr ⟨rfl, rfl⟩
                  · cases hj
                    clear hj'
                    exact .inr ⟨rfl, rfl⟩
                  · cases hj
                    clear hj'
                    exact .inr ⟨rfl, rfl⟩
                  · cases hj
                    clear hj'
                    exact .inr ⟨rfl, rfl⟩
                  · cases hj
                    clear hj'
                    exact .inr ⟨rfl, rfl⟩
                  · cases hj
                    clear hj'
                    exact .inr ⟨rfl, rfl⟩
                  · cases hj
                    clear hj'
                    refine .inl ⟨rfl, ?_⟩
                    generalize hG : relUpon _ _ _ = G
                    have q8_ : vs 8 = _ := hV 8 (by decide)
                    clear hV hb hW
                    subst hG
                    simp only [putAll]
                    generalize hR : Res _ _ vs w1' = R
                    go_simp
                    subst hR
                    exact ⟨rfl, Below.refl _ _⟩
                case hQ =>
                  intro W hW vs w2 hb hV hD
                  have hbw : Below wX.heap.size wX w2 := by rw [hW] at hb; exact ((Below.refl wX.heap.size wX).drew).trans hb
                  have e0_ : vs 0 = _ := hV 0 (by simp)
                  have e1_ : vs 1 = _ := hV 1 (by simp)
                  have e2_ : vs 2 = _ := hV 2 (by simp)
                  have e3_ : vs 3 = _ := hV 3 (by simp)
                  obtain ⟨_, _, _, _, e4_, _⟩ := Zv.form (show Zv w2 (vs 4) (2) from hV 4 (by simp))
                  have e5_ : vs 5 = _ := hV 5 (by simp)
                  have e6_ : vs 6 = _ := hV 6 (by simp)
                  have e7_ : vs 7 = _ := hV 7 (by simp)
                  have e8_ : vs 8 = _ := hV 8 (by simp)
                  have e9_ : vs 9 = _ := hV 9 (by simp)
                  have e10_ : vs 10 = _ := hV 10 (by simp)
                  have e11_ : vs 11 = _ := hV 11 (by simp)
                  have e12_ : vs 12 = _ := hV 12 (by simp)
                  have e13_ : vs 13 = _ := hV 13 (by simp)
                  have e14_ : vs 14 = _ := hV 14 (by simp)
                  have e15_ : vs 15 = _ := hV 15 (by simp)
                  have ROWHn := Lib.hid (ROWHX.out.below hbw ROWHX.out.lt)
                  have BELHn := Lib.hid (BELHX.out.trans (hbw.mono (Nat.le_of_lt ROWHX.out.lt)))
                  clear hV hD hb hW hbw
                  generalize hKK : Exit.then _ _ = KK
                  simp only [putAll, e0_, e1_, e2_, e3_, e4_, e5_, e6_, e7_, e8_, e9_, e10_, e11_, e12_, e13_, e14_, e15_]
                  go_simp
                  subst hKK
                  clear e0_ e1_ e2_ e3_ e4_ e5_ e6_ e7_ e8_ e9_ e10_ e11_ e12_ e13_ e14_ e15_
                  obtain ⟨⟨f1, f2⟩, ⟨f3, f4⟩, ⟨f5, f6⟩, ⟨f7, f8⟩, f9⟩ := row4 (ROWHn.out) (.bool false) (.slice none 0 0) (.bool false) (.slice none 0 0)
                  have hbe_ := ((((BELHn.out).setCell (p := ⟨h, 0, none⟩) (Nat.le_refl h) (.bool false)).setCell (p := ⟨h, 1, none⟩) (Nat.le_refl h) (.slice none 0 0)).setCell (p := ⟨h, 2, none⟩) (Nat.le_refl h) (.bool false)).setCell (p := ⟨h, 3, none⟩) (Nat.le_refl h) (.slice none 0 0)
                  have HBE_ := Lib.hid hbe_
                  have F9 := Lib.hid f9
                  clear hbe_ f9
                  have y0 := F9.out.cell 0
                  have y1 := F9.out.cell 1
                  have y2 := F9.out.cell 2
                  have y3 := F9.out.cell 3
                  simp only [List.getElem?_cons_zero, List.getElem?_cons_succ] at y0 y1 y2 y3
                  go_wp2_with fail
                  refine bodyPost_ret (v := .tuple #[.agg #[.bool false, .slice none 0 0, .bool false, .slice none 0 0], .int .i64 10]) (by simp [results, Tryz.results12, go_sem, y0, y1, y2, y3]) rfl ⟨.bool false, by rw [HH.out]; exact HBE_.out, ?_⟩
                  rw [HR5.out]
                  exact rfl
              · have gsg : ¬ (sg < 0) := by
                  rw [← hsg]
                  intro e
                  have := Int.sign_neg_iff.1 e
                  omega
                obtain ⟨gc_, hG⟩ : ∃ g, Nat.gcd a.natAbs b.natAbs = g := ⟨_, rfl⟩
                have HGC := Lib.hid (fun W v1 v2 h1 h2 => gcdZ_go a b v1 v2 W h1 h2 (Nat.le_trans HLA (by omega)) (Nat.le_trans HLB (by omega)))
                have hG0 : 0 < gc_ := by rw [← hG]; exact Nat.gcd_pos_of_pos_right _ (by omega)
                have hGL : (limbs ((gc_ : Nat) : Int).natAbs).length ≤ 400000 := by
                  rw [Int.natAbs_natCast, ← hG]
                  exact Nat.le_trans (limbs_mono (Nat.gcd_le_right _ (by omega))) (Nat.le_trans HLB (by omega))
                rw [hG] at HGC
                have HRa : Hid (b < 2 ∨ gc_ ≠ 1 → r = (10, 0, 0)) := fun h => by rw [← HR4.out]; exact if_pos (by rw [hG]; exact h)
                have HRb : Hid (¬ (b < 2 ∨ gc_ ≠ 1) → r = smallQ a b) := fun h => by rw [← HR4.out]; exact if_neg (by rw [hG]; exact h)
                clear HR4
                obtain ⟨sh, hsh⟩ : ∃ s, Int.sign ((gc_ : Int) - 1) = s := ⟨_, rfl⟩
                have HC1 := Lib.hid (fun W v1 v2 h1 h2 => cmpZ_any ((gc_ : Nat) : Int) 1 v1 v2 W h1 h2 hGL (Nat.le_trans (limbs_len3 (by decide)) (by omega)))
                rw [hsh] at HC1
                by_cases hG1 : gc_ = 1
                · have gsh : sh = 0 := by rw [← hsh, hG1]; rfl
                  have HRS : Hid (r = smallQ a b) := HRb.out (by rintro (h | h); exact hb2 h; exact h hG1)
                  clear hsg hb2 HRa HRb hG hG0 hGL hsh hG1
                  refine wp_region_rel (by kernel_rfl) 83 rfl (by kernel_rfl) [.fix (.bool true), .fix (.bool false), .fix (.bool false), .fix (.agg #[.bool b2, .slice p2 n2 c2]), .mem (fun u W => Zv W u 2), .fix (.int .i64 sg), .fix (.bool false), .fix (.bool false), .fix (.bool false), .fix (.agg #[.bool b1, .slice p1 n1 c1]), .fix (.agg #[.bool b2, .slice p2 n2 c2]), .mem (fun u W => Zv W u ((gc_ : Nat) : Int)), .mem (fun u W => Zv W u 1), .fix (.int .i64 sh), .fix (.bool false), .fix (.bool false)] rfl (stays_stb (fun i M hk => by rcases i with _ | _ | _ | _ | _ | _ | _ | _ | _ | _ | _ | _ | _ | _ | _ | _ | i <;> simp at hk <;> subst hk <;> first | exact stb_zv _ | exact stb_qv _ _ | exact stb_lb _)) ?hop ?hQ
                  case hop =>
                    intro W hW j o hj vs w1' hb hV
                    have hj' : j < 16 := (List.getElem?_eq_some_iff.1 hj).1
                    rcases (by omega : j = 0 ∨ j = 1 ∨ j = 2 ∨ j = 3 ∨ j = 4 ∨ j = 5 ∨ j = 6 ∨ j = 7 ∨ j = 8 ∨ j = 9 ∨ j = 10 ∨ j = 11 ∨ j = 12 ∨ j = 13 ∨ j = 14 ∨ j = 15) with rfl | rfl | rfl | rfl | rfl | rfl | rfl | rfl | rfl | rfl | rfl | rfl | rfl | rfl | rfl | rfl
                    · cases hj
                      clear hj'
                      refine .inl ⟨rfl, ?_⟩
                      generalize hG : relUpon _ _ _ = G
                      clear hV hb hW
                      subst hG
                      simp only [putAll]
                      generalize hR : Res _ _ vs w1' = R
                      go_simp
                      subst hR
                      exact ⟨rfl, Below.refl _ _⟩
                    · cases hj
                      clear hj'
                      refine .inl ⟨rfl, ?_⟩
                      generalize hG : relUpon _ _ _ = G
                      have q0_ : vs 0 = _ := hV 0 (by decide)
                      clear hV hb hW
                      subst hG
                      simp only [putAll]
                      generalize hR : Res _ _ vs w1' = R
                      go_simp
                      subst hR
                      exact ⟨rfl, Below.refl _ _⟩
                    · cases hj
                      clear hj'
                      refine .inl ⟨rfl, ?_⟩
                      generalize hG : relUpon _ _ _ = G
                      have q1_ : vs 1 = _ := hV 1 (by decide)
                      clear hV hb hW
                      subst hG
                      simp only [putAll]
                      generalize hR : Res _ _ vs w1' = R
                      go_simp
                      subst hR
                      exact ⟨rfl, Below.refl _ _⟩
                    · cases hj
                      clear hj'
                      refine .inl ⟨rfl, ?_⟩
                      generalize hG : relUpon _ _ _ = G
                      have hbw : Below wX.heap.size wX w1' := by rw [hW] at hb; exact ((Below.refl wX.heap.size wX).drew).trans hb
                      have d0 := (R9X.out.below hbw R9X.out.lt).cell 0
                      have d1 := (R9X.out.below hbw R9X.out.lt).cell 1
                      simp only [List.getElem?_cons_zero, List.getElem?_cons_succ] at d0 d1
                      clear hbw hW hb hV
                      subst hG
                      simp only [putAll]
                      generalize hR : Res _ _ vs w1' = R
                      go_simp
                      subst hR
                      exact ⟨rfl, Below.refl _ _⟩
                    · cases hj
                      clear hj'
                      refine .inl ⟨rfl, ?_⟩
                      generalize hG : relUpon _ _ _ = G
                      clear hV hb hW
                      subst hG
                      simp only [putAll]
                      generalize hR : Res _ _ vs w1' = R
                      go_simp
                      subst hR
                      refine (of_go 2 w1' (by omega) (by omega)).mono ?_
                      rintro e w2 ⟨v, rfl, hz, hb2⟩
                      exact ⟨_, rfl, hz, hb2⟩
                    · cases hj
                      clear hj'
                      refine .inl ⟨rfl, ?_⟩
                      generalize hG : relUpon _ _ _ = G
                      have hbw : Below wX.heap.size wX w1' := by rw [hW] at hb; exact ((Below.refl wX.heap.size wX).drew).trans hb
                      have q3_ : vs 3 = _ := hV 3 (by decide)
                      have hz : Zv w1' (vs 4) 2 := hV 4 (by decide)
                      have HZ := Lib.hid hz
                      have HKK := Lib.hid (HZBX.out.below hbw)
                      clear hbw hW hb hV hz
                      subst hG
                      simp only [putAll]
                      generalize hR : Res _ _ vs w1' = R
                      go_simp
                      subst hR
                      refine (HC2.out w1' _ _ HKK.out HZ.out).mono ?_
                      rintro e w2 ⟨rfl, hb2⟩
                      exact ⟨_, rfl, rfl, hb2⟩
                    · cases hj
                      clear hj'
                      refine .inl ⟨rfl, ?_⟩
                      generalize hG : relUpon _ _ _ = G
                      have q5_ : vs 5 = _ := hV 5 (by decide)
                      clear hV hb hW
                      subst hG
                      simp only [putAll]
                      generalize hR : Res _ _ vs w1' = R
                      go_simp
                      subst hR
                      exact ⟨rfl, Below.refl _ _⟩
                    · cases hj
                      clear hj'
                      refine .inl ⟨rfl, ?_⟩
                      generalize hG : relUpon _ _ _ = G
                      have q2_ : vs 2 = _ := hV 2 (by decide)
                      have q6_ : vs 6 = _ := hV 6 (by decide)
                      clear hV hb hW
                      subst hG
                      simp only [putAll]
                      generalize hR : Res _ _ vs w1' = R
                      go_simp
                      subst hR
                      exact ⟨rfl, Below.refl _ _⟩
                    · cases hj
                      clear hj'
                      refine .inl ⟨rfl, ?_⟩
                      generalize hG : relUpon _ _ _ = G
                      have q7_ : vs 7 = _ := hV 7 (by decide)
                      clear hV hb hW
                      subst hG
                      simp only [putAll]
                      generalize hR : Res _ _ vs w1' = R
                      go_simp
                      subst hR
                      exact ⟨rfl, Below.refl _ _⟩
                    · cases hj
                      clear hj'
                      refine .inl ⟨rfl, ?_⟩
                      generalize hG : relUpon _ _ _ = G
                      have hbw : Below wX.heap.size wX w1' := by rw [hW] at hb; exact ((Below.refl wX.heap.size wX).drew).trans hb
                      have d0 := (R6X.out.below hbw R6X.out.lt).cell 0
                      have d1 := (R6X.out.below hbw R6X.out.lt).cell 1
                      simp only [List.getElem?_cons_zero, List.getElem?_cons_succ] at d0 d1
                      clear hbw hW hb hV
                      subst hG
                      simp only [putAll]
                      generalize hR : Res _ _ vs w1' = R
                      go_simp
                      subst hR
                      exact ⟨rfl, Below.refl _ _⟩
                    · cases hj
                      clear hj'
                      refine .inl ⟨rfl, ?_⟩
                      generalize hG : relUpon _ _ _ = G
                      have hbw : Below wX.heap.size wX w1' := by rw [hW] at hb; exact ((Below.refl wX.heap.size wX).drew).trans hb
                      have d0 := (R9X.out.below hbw R9X.out.lt).cell 0
                      have d1 := (R9X.out.below hbw R9X.out.lt).cell 1
                      simp only [List.getElem?_cons_zero, List.getElem?_cons_succ] at d0 d1
                      clear hbw hW hb hV
                      subst hG
                      simp only [putAll]
                      generalize hR : Res _ _ vs w1' = R
                      go_simp
                      subst hR
                      exact ⟨rfl, Below.refl _ _⟩
                    · cases hj
                      clear hj'
                      refine .inl ⟨rfl, ?_⟩
                      generalize hG : relUpon _ _ _ = G
                      have hbw : Below wX.heap.size wX w1' := by rw [hW] at hb; exact ((Below.refl wX.heap.size wX).drew).trans hb
                      have q9_ : vs 9 = _ := hV 9 (by decide)
                      have q10_ : vs 10 = _ := hV 10 (by decide)
                      have HKA := Lib.hid (HZAX.out.below hbw)
                      have HKB := Lib.hid (HZBX.out.below hbw)
                      clear hbw hW hb hV
                      subst hG
                      simp only [putAll]
                      generalize hR : Res _ _ vs w1' = R
                      go_simp
                      subst hR
                      refine (HGC.out w1' _ _ HKA.out HKB.out).mono ?_
                      rintro e w2 ⟨v, rfl, hz, hb2⟩
                      exact ⟨_, rfl, hz, hb2⟩
                    · cases hj
                      clear hj'
                      refine .inl ⟨rfl, ?_⟩
                      generalize hG : relUpon _ _ _ = G
                      clear hV hb hW
                      subst hG
                      simp only [putAll]
                      generalize hR : Res _ _ vs w1' = R
                      go_simp
                      subst hR
                      refine (of_go 1 w1' (by omega) (by omega)).mono ?_
                      rintro e w2 ⟨v, rfl, hz, hb2⟩
                      exact ⟨_, rfl, hz, hb2⟩
                    · cases hj
                      clear hj'
                      refine .inl ⟨rfl, ?_⟩
                      generalize hG : relUpon _ _ _ = G
                      have hzg : Zv w1' (vs 11) ((gc_ : Nat) : Int) := hV 11 (by decide)
                      have hz : Zv w1' (vs 12) 1 := hV 12 (by decide)
                      have HZ := Lib.hid hz
                      have HZG := Lib.hid hzg
                      clear hW hb hV hz hzg
                      subst hG
                      simp only [putAll]
                      generalize hR : Res _ _ vs w1' = R
                      go_simp
                      subst hR
                      refine (HC1.out w1' _ _ HZG.out HZ.out).mono ?_
                      rintro e w2 ⟨rfl, hb2⟩
                      exact ⟨_, rfl, rfl, hb2⟩
                    · cases hj
                      clear hj'
                      refine .inl ⟨rfl, ?_⟩
                      generalize hG : relUpon _ _ _ = G
                      have q13_ : vs 13 = _ := hV 13 (by decide)
                      clear hV hb hW
                      subst hG
                      simp only [putAll]
                      generalize hR : Res _ _ vs w1' = R
                      go_simp
                      subst hR
                      exact ⟨rfl, Below.refl _ _⟩
                    · cases hj
                      clear hj'
                      refine .inl ⟨rfl, ?_⟩
                      generalize hG : relUpon _ _ _ = G
                      have q8_ : vs 8 = _ := hV 8 (by decide)
                      have q14_ : vs 14 = _ := hV 14 (by decide)
                      clear hV hb hW
                      subst hG
                      simp only [putAll]
                      generalize hR : Res _ _ vs w1' = R
                      go_simp
                      subst hR
                      exact ⟨rfl, Below.refl _ _⟩
                  case hQ =>
                    intro W hW vs w2 hb hV hD
                    have hbw : Below wX.heap.size wX w2 := by rw [hW] at hb; exact ((Below.refl wX.heap.size wX).drew).trans hb
                    have e0_ : vs 0 = _ := hV 0 (by simp)
                    have e1_ : vs 1 = _ := hV 1 (by simp)
                    have e2_ : vs 2 = _ := hV 2 (by simp)
                    have e3_ : vs 3 = _ := hV 3 (by simp)
                    obtain ⟨_, _, _, _, e4_, _⟩ := Zv.form (show Zv w2 (vs 4) (2) from hV 4 (by simp))
                    have e5_ : vs 5 = _ := hV 5 (by simp)
                    have e6_ : vs 6 = _ := hV 6 (by simp)
                    have e7_ : vs 7 = _ := hV 7 (by simp)
                    have e8_ : vs 8 = _ := hV 8 (by simp)
                    have e9_ : vs 9 = _ := hV 9 (by simp)
                    have e10_ : vs 10 = _ := hV 10 (by simp)
                    obtain ⟨_, _, _, _, e11_, _⟩ := Zv.form (show Zv w2 (vs 11) (((gc_ : Nat) : Int)) from hV 11 (by simp))
                    obtain ⟨_, _, _, _, e12_, _⟩ := Zv.form (show Zv w2 (vs 12) (1) from hV 12 (by simp))
                    have e13_ : vs 13 = _ := hV 13 (by simp)
                    have e14_ : vs 14 = _ := hV 14 (by simp)
                    have e15_ : vs 15 = _ := hV 15 (by simp)
                    have ROWHn := Lib.hid (ROWHX.out.below hbw ROWHX.out.lt)
                    have BELHn := Lib.hid (BELHX.out.trans (hbw.mono (Nat.le_of_lt ROWHX.out.lt)))
                    have R6n := Lib.hid (R6X.out.below hbw R6X.out.lt)
                    have R9n := Lib.hid (R9X.out.below hbw R9X.out.lt)
                    have R8n := Lib.hid (R8X.out.below hbw R8X.out.lt)
                    have ZAn := Lib.hid (HZAX.out.below hbw)
                    have ZBn := Lib.hid (HZBX.out.below hbw)
                    clear hV hD hb hW hbw
                    generalize hKK : Exit.then _ _ = KK
                    simp only [putAll, e0_, e1_, e2_, e3_, e4_, e5_, e6_, e7_, e8_, e9_, e10_, e11_, e12_, e13_, e14_, e15_]
                    go_simp
                    subst hKK
                    clear e0_ e1_ e2_ e3_ e4_ e5_ e6_ e7_ e8_ e9_ e10_ e11_ e12_ e13_ e14_ e15_
                    have u0 := R6n.out.cell 0
                    have u1 := R6n.out.cell 1
                    have u2 := R9n.out.cell 0
                    have u3 := R9n.out.cell 1
                    simp only [List.getElem?_cons_zero, List.getElem?_cons_succ] at u0 u1 u2 u3
                    obtain ⟨⟨f1, f2⟩, ⟨f3, f4⟩, ⟨f5, f6⟩, ⟨f7, f8⟩, f9⟩ := row4 (R8n.out) (.bool b1) (.slice p1 n1 c1) (.bool b2) (.slice p2 n2 c2)
                    have hbe_ := ((((BELHn.out).setCell (p := ⟨g8, 0, none⟩) hgh8 (.bool b1)).setCell (p := ⟨g8, 1, none⟩) hgh8 (.slice p1 n1 c1)).setCell (p := ⟨g8, 2, none⟩) hgh8 (.bool b2)).setCell (p := ⟨g8, 3, none⟩) hgh8 (.slice p2 n2 c2)
                    have HBE_ := Lib.hid hbe_
                    have F9 := Lib.hid f9
                    clear hbe_ f9
                    have hrh := ((((ROWHn.out.other ⟨g8, 0, none⟩ hn8 (.bool b1)).other ⟨g8, 1, none⟩ hn8 (.slice p1 n1 c1)).other ⟨g8, 2, none⟩ hn8 (.bool b2)).other ⟨g8, 3, none⟩ hn8 (.slice p2 n2 c2))
                    have hza := ZAn.out.put4 R8n.out (noInt_bool _) (noInt_slice _ _ _) (noInt_bool _) (noInt_slice _ _ _) (.bool b1) (.slice p1 n1 c1) (.bool b2) (.slice p2 n2 c2)
                    have hzb := ZBn.out.put4 R8n.out (noInt_bool _) (noInt_slice _ _ _) (noInt_bool _) (noInt_slice _ _ _) (.bool b1) (.slice p1 n1 c1) (.bool b2) (.slice p2 n2 c2)
                    have ROWH := Lib.hid hrh
                    have ROW8 := F9
                    have BELH := HBE_
                    have HQ : Hid (Qv _ _ a b) := ⟨_, _, _, _, rfl, hza, hzb⟩
                    clear hrh hza hzb ROWHn BELHn R6n R9n R8n ZAn ZBn HBE_ F9
                    go_upto_region 18 with (fail)
                    have z8a := ROW8.out.cell 0
                    have z8b := ROW8.out.cell 1
                    have z8c := ROW8.out.cell 2
                    have z8d := ROW8.out.cell 3
                    simp only [List.getElem?_cons_zero, List.getElem?_cons_succ] at z8a z8b z8c z8d
                    by_cases hsm : nDigits (a).natAbs ≤ 20000 ∧ nDigits (b).natAbs ≤ 20000
                    · have HRR : Hid (r = (0, a, b)) := by show _ = _; rw [HRS.out]; unfold smallQ; rw [if_pos hsm]
                      have HSQ := Lib.hid (small_big (a) (b) _ _ HQ.out (Nat.le_trans HLA (by omega)) (Nat.le_trans HLB (by omega)))
                      rw [show (decide (nDigits (a).natAbs ≤ 20000) && decide (nDigits (b).natAbs ≤ 20000)) = true by rw [decide_eq_true hsm.1, decide_eq_true hsm.2]; rfl] at HSQ
                      clear hsm
                      go_wp2_with fail
                      refine HSQ.out.mono ?_
                      rintro e wT ⟨rfl, hbT⟩
                      have RT8 := Lib.hid (ROW8.out.below hbT ROW8.out.lt)
                      have RTH := Lib.hid (ROWH.out.below hbT ROWH.out.lt)
                      have BTH := Lib.hid (BELH.out.trans (hbT.mono (Nat.le_of_lt ROWH.out.lt)))
                      have HQT := Lib.hid (HQ.out.below hbT)
                      have z9a := RT8.out.cell 0
                      have z9b := RT8.out.cell 1
                      have z9c := RT8.out.cell 2
                      have z9d := RT8.out.cell 3
                      simp only [List.getElem?_cons_zero, List.getElem?_cons_succ] at z9a z9b z9c z9d
                      clear hbT z8a z8b z8c z8d HSQ
                      obtain ⟨⟨f1, f2⟩, ⟨f3, f4⟩, ⟨f5, f6⟩, ⟨f7, f8⟩, f9⟩ := row4 (RTH.out) (.bool b1) (.slice p1 n1 c1) (.bool b2) (.slice p2 n2 c2)
                      have hbe_ := ((((BTH.out).setCell (p := ⟨h, 0, none⟩) (Nat.le_refl h) (.bool b1)).setCell (p := ⟨h, 1, none⟩) (Nat.le_refl h) (.slice p1 n1 c1)).setCell (p := ⟨h, 2, none⟩) (Nat.le_refl h) (.bool b2)).setCell (p := ⟨h, 3, none⟩) (Nat.le_refl h) (.slice p2 n2 c2)
                      have HBE_ := Lib.hid hbe_
                      have F9 := Lib.hid f9
                      clear hbe_ f9
                      obtain ⟨hq1, hq2⟩ := qv_parts HQT.out
                      have hz1 := hq1.put4 RTH.out (noInt_bool _) (noInt_slice _ _ _) (noInt_bool _) (noInt_slice _ _ _) (.bool b1) (.slice p1 n1 c1) (.bool b2) (.slice p2 n2 c2)
                      have hz2 := hq2.put4 RTH.out (noInt_bool _) (noInt_slice _ _ _) (noInt_bool _) (noInt_slice _ _ _) (.bool b1) (.slice p1 n1 c1) (.bool b2) (.slice p2 n2 c2)
                      have HZ1 := Lib.hid hz1
                      have HZ2 := Lib.hid hz2
                      clear hq1 hq2 hz1 hz2
                      have y0 := F9.out.cell 0
                      have y1 := F9.out.cell 1
                      have y2 := F9.out.cell 2
                      have y3 := F9.out.cell 3
                      simp only [List.getElem?_cons_zero, List.getElem?_cons_succ] at y0 y1 y2 y3
                      go_wp2_with fail
                      refine bodyPost_ret (v := .tuple #[.agg #[.bool b1, .slice p1 n1 c1, .bool b2, .slice p2 n2 c2], .int .i64 0]) (by simp [results, Tryz.results12, go_sem, y0, y1, y2, y3]) rfl ⟨.agg #[.bool b1, .slice p1 n1 c1, .bool b2, .slice p2 n2 c2], by rw [HH.out]; exact HBE_.out, ?_⟩
                      rw [HRR.out]
                      exact ⟨rfl, ⟨_, _, _, _, rfl, HZ1.out, HZ2.out⟩⟩
                    · have HRR : Hid (r = (11, 0, 0)) := by show _ = _; rw [HRS.out]; unfold smallQ; rw [if_neg hsm]
                      have HSQ := Lib.hid (small_big (a) (b) _ _ HQ.out (Nat.le_trans HLA (by omega)) (Nat.le_trans HLB (by omega)))
                      rw [show (decide (nDigits (a).natAbs ≤ 20000) && decide (nDigits (b).natAbs ≤ 20000)) = false by rw [Bool.eq_false_iff]; intro e; rw [Bool.and_eq_true] at e; exact hsm ⟨of_decide_eq_true e.1, of_decide_eq_true e.2⟩] at HSQ
                      clear hsm
                      go_wp2_with fail
                      refine HSQ.out.mono ?_
                      rintro e wT ⟨rfl, hbT⟩
                      have RTH := Lib.hid (ROWH.out.below hbT ROWH.out.lt)
                      have BTH := Lib.hid (BELH.out.trans (hbT.mono (Nat.le_of_lt ROWH.out.lt)))
                      clear hbT z8a z8b z8c z8d HSQ
                      obtain ⟨⟨f1, f2⟩, ⟨f3, f4⟩, ⟨f5, f6⟩, ⟨f7, f8⟩, f9⟩ := row4 (RTH.out) (.bool false) (.slice none 0 0) (.bool false) (.slice none 0 0)
                      have hbe_ := ((((BTH.out).setCell (p := ⟨h, 0, none⟩) (Nat.le_refl h) (.bool false)).setCell (p := ⟨h, 1, none⟩) (Nat.le_refl h) (.slice none 0 0)).setCell (p := ⟨h, 2, none⟩) (Nat.le_refl h) (.bool false)).setCell (p := ⟨h, 3, none⟩) (Nat.le_refl h) (.slice none 0 0)
                      have HBE_ := Lib.hid hbe_
                      have F9 := Lib.hid f9
                      clear hbe_ f9
                      have y0 := F9.out.cell 0
                      have y1 := F9.out.cell 1
                      have y2 := F9.out.cell 2
                      have y3 := F9.out.cell 3
                      simp only [List.getElem?_cons_zero, List.getElem?_cons_succ] at y0 y1 y2 y3
                      go_wp2_with fail
                      refine bodyPost_ret (v := .tuple #[.agg #[.bool false, .slice none 0 0, .bool false, .slice none 0 0], .int .i64 11]) (by simp [results, Tryz.results12, go_sem, y0, y1, y2, y3]) rfl ⟨.bool false, by rw [HH.out]; exact HBE_.out, ?_⟩
                      rw [HRR.out]
                      exact rfl
                · have gsh : ¬ (sh = 0) := by
                    rw [← hsh]
                    intro e
                    have := Int.sign_eq_zero_iff_zero.1 e
                    omega
                  have gshb : (sh != 0) = true := by simpa using gsh
                  have HR5 : Hid (r = (10, 0, 0)) := HRa.out (.inr hG1)
                  clear hsg hb2 HRa HRb hG hG0 hGL hsh hG1
                  refine wp_region_rel (by kernel_rfl) 83 rfl (by kernel_rfl) [.fix (.bool true), .fix (.bool false), .fix (.bool false), .fix (.agg #[.bool b2, .slice p2 n2 c2]), .mem (fun u W => Zv W u 2), .fix (.int .i64 sg), .fix (.bool false), .fix (.bool false), .fix (.bool false), .fix (.agg #[.bool b1, .slice p1 n1 c1]), .fix (.agg #[.bool b2, .slice p2 n2 c2]), .mem (fun u W => Zv W u ((gc_ : Nat) : Int)), .mem (fun u W => Zv W u 1), .fix (.int .i64 sh), .fix (.bool true), .fix (.bool true)] rfl (stays_stb (fun i M hk => by rcases i with _ | _ | _ | _ | _ | _ | _ | _ | _ | _ | _ | _ | _ | _ | _ | _ | i <;> simp at hk <;> subst hk <;> first | exact stb_zv _ | exact stb_qv _ _ | exact stb_lb _)) ?hop ?hQ
                  case hop =>
                    intro W hW j o hj vs w1' hb hV
                    have hj' : j < 16 := (List.getElem?_eq_some_iff.1 hj).1
                    rcases (by omega : j = 0 ∨ j = 1 ∨ j = 2 ∨ j = 3 ∨ j = 4 ∨ j = 5 ∨ j = 6 ∨ j = 7 ∨ j = 8 ∨ j = 9 ∨ j = 10 ∨ j = 11 ∨ j = 12 ∨ j = 13 ∨ j = 14 ∨ j = 15) with rfl | rfl | rfl | rfl | rfl | rfl | rfl | rfl | rfl | rfl | rfl | rfl | rfl | rfl | rfl | rfl
                    · cases hj
                      clear hj'
                      refine .inl ⟨rfl, ?_⟩
                      generalize hG : relUpon _ _ _ = G
                      clear hV hb hW
                      subst hG
                      simp only [putAll]
                      generalize hR : Res _ _ vs w1' = R
                      go_simp
                      subst hR
                      exact ⟨rfl, Below.refl _ _⟩
                    · cases hj
                      clear hj'
                      refine .inl ⟨rfl, ?_⟩
                      generalize hG : relUpon _ _ _ = G
                      have q0_ : vs 0 = _ := hV 0 (by decide)
                      clear hV hb hW
                      subst hG
                      simp only [putAll]
                      generalize hR : Res _ _ vs w1' = R
                      go_simp
                      subst hR
                      exact ⟨rfl, Below.refl _ _⟩
                    · cases hj
                      clear hj'
                      refine .inl ⟨rfl, ?_⟩
                      generalize hG : relUpon _ _ _ = G
                      have q1_ : vs 1 = _ := hV 1 (by decide)
                      clear hV hb hW
                      subst hG
                      simp only [putAll]
                      generalize hR : Res _ _ vs w1' = R
                      go_simp
                      subst hR
                      exact ⟨rfl, Below.refl _ _⟩
                    · cases hj
                      clear hj'
                      refine .inl ⟨rfl, ?_⟩
                      generalize hG : relUpon _ _ _ = G
                      have hbw : Below wX.heap.size wX w1' := by rw [hW] at hb; exact ((Below.refl wX.heap.size wX).drew).trans hb
                      have d0 := (R9X.out.below hbw R9X.out.lt).cell 0
                      have d1 := (R9X.out.below hbw R9X.out.lt).cell 1
                      simp only [List.getElem?_cons_zero, List.getElem?_cons_succ] at d0 d1
                      clear hbw hW hb hV
                      subst hG
                      simp only [putAll]
                      generalize hR : Res _ _ vs w1' = R
                      go_simp
                      subst hR
                      exact ⟨rfl, Below.refl _ _⟩
                    · cases hj
                      clear hj'
                      refine .inl ⟨rfl, ?_⟩
                      generalize hG : relUpon _ _ _ = G
                      clear hV hb hW
                      subst hG
                      simp only [putAll]
                      generalize hR : Res _ _ vs w1' = R
                      go_simp
                      subst hR
                      refine (of_go 2 w1' (by omega) (by omega)).mono ?_
                      rintro e w2 ⟨v, rfl, hz, hb2⟩
                      exact ⟨_, rfl, hz, hb2⟩
                    · cases hj
                      clear hj'
                      refine .inl ⟨rfl, ?_⟩
                      generalize hG : relUpon _ _ _ = G
                      have hbw : Below wX.heap.size wX w1' := by rw [hW] at hb; exact ((Below.refl wX.heap.size wX).drew).trans hb
                      have q3_ : vs 3 = _ := hV 3 (by decide)
                      have hz : Zv w1' (vs 4) 2 := hV 4 (by decide)
                      have HZ := Lib.hid hz
                      have HKK := Lib.hid (HZBX.out.below hbw)
                      clear hbw hW hb hV hz
                      subst hG
                      simp only [putAll]
                      generalize hR : Res _ _ vs w1' = R
                      go_simp
                      subst hR
                      refine (HC2.out w1' _ _ HKK.out HZ.out).mono ?_
                      rintro e w2 ⟨rfl, hb2⟩
                      exact ⟨_, rfl, rfl, hb2⟩
                    · cases hj
                      clear hj'
                      refine .inl ⟨rfl, ?_⟩
                      generalize hG : relUpon _ _ _ = G
                      have q5_ : vs 5 = _ := hV 5 (by decide)
                      clear hV hb hW
                      subst hG
                      simp only [putAll]
                      generalize hR : Res _ _ vs w1' = R
                      go_simp
                      subst hR
                      exact ⟨rfl, Below.refl _ _⟩
                    · cases hj
                      clear hj'
                      refine .inl ⟨rfl, ?_⟩
                      generalize hG : relUpon _ _ _ = G
                      have q2_ : vs 2 = _ := hV 2 (by decide)
                      have q6_ : vs 6 = _ := hV 6 (by decide)
                      clear hV hb hW
                      subst hG
                      simp only [putAll]
                      generalize hR : Res _ _ vs w1' = R
                      go_simp
                      subst hR
                      exact ⟨rfl, Below.refl _ _⟩
                    · cases hj
                      clear hj'
                      refine .inl ⟨rfl, ?_⟩
                      generalize hG : relUpon _ _ _ = G
                      have q7_ : vs 7 = _ := hV 7 (by decide)
                      clear hV hb hW
                      subst hG
                      simp only [putAll]
                      generalize hR : Res _ _ vs w1' = R
                      go_simp
                      subst hR
                      exact ⟨rfl, Below.refl _ _⟩
                    · cases hj
                      clear hj'
                      refine .inl ⟨rfl, ?_⟩
                      generalize hG : relUpon _ _ _ = G
                      have hbw : Below wX.heap.size wX w1' := by rw [hW] at hb; exact ((Below.refl wX.heap.size wX).drew).trans hb
                      have d0 := (R6X.out.below hbw R6X.out.lt).cell 0
                      have d1 := (R6X.out.below hbw R6X.out.lt).cell 1
                      simp only [List.getElem?_cons_zero, List.getElem?_cons_succ] at d0 d1
                      clear hbw hW hb hV
                      subst hG
                      simp only [putAll]
                      generalize hR : Res _ _ vs w1' = R
                      go_simp
                      subst hR
                      exact ⟨rfl, Below.refl _ _⟩
                    · cases hj
                      clear hj'
                      refine .inl ⟨rfl, ?_⟩
                      generalize hG : relUpon _ _ _ = G
                      have hbw : Below wX.heap.size wX w1' := by rw [hW] at hb; exact ((Below.refl wX.heap.size wX).drew).trans hb
                      have d0 := (R9X.out.below hbw R9X.out.lt).cell 0
                      have d1 := (R9X.out.below hbw R9X.out.lt).cell 1
                      simp only [List.getElem?_cons_zero, List.getElem?_cons_succ] at d0 d1
                      clear hbw hW hb hV
                      subst hG
                      simp only [putAll]
                      generalize hR : Res _ _ vs w1' = R
                      go_simp
                      subst hR
                      exact ⟨rfl, Below.refl _ _⟩
                    · cases hj
                      clear hj'
                      refine .inl ⟨rfl, ?_⟩
                      generalize hG : relUpon _ _ _ = G
                      have hbw : Below wX.heap.size wX w1' := by rw [hW] at hb; exact ((Below.refl wX.heap.size wX).drew).trans hb
                      have q9_ : vs 9 = _ := hV 9 (by decide)
                      have q10_ : vs 10 = _ := hV 10 (by decide)
                      have HKA := Lib.hid (HZAX.out.below hbw)
                      have HKB := Lib.hid (HZBX.out.below hbw)
                      clear hbw hW hb hV
                      subst hG
                      simp only [putAll]
                      generalize hR : Res _ _ vs w1' = R
                      go_simp
                      subst hR
                      refine (HGC.out w1' _ _ HKA.out HKB.out).mono ?_
                      rintro e w2 ⟨v, rfl, hz, hb2⟩
                      exact ⟨_, rfl, hz, hb2⟩
                    · cases hj
                      clear hj'
                      refine .inl ⟨rfl, ?_⟩
                      generalize hG : relUpon _ _ _ = G
                      clear hV hb hW
                      subst hG
                      simp only [putAll]
                      generalize hR : Res _ _ vs w1' = R
                      go_simp
                      subst hR
                      refine (of_go 1 w1' (by omega) (by omega)).mono ?_
                      rintro e w2 ⟨v, rfl, hz, hb2⟩
                      exact ⟨_, rfl, hz, hb2⟩
                    · cases hj
                      clear hj'
                      refine .inl ⟨rfl, ?_⟩
                      generalize hG : relUpon _ _ _ = G
                      have hzg : Zv w1' (vs 11) ((gc_ : Nat) : Int) := hV 11 (by decide)
                      have hz : Zv w1' (vs 12) 1 := hV 12 (by decide)
                      have HZ := Lib.hid hz
                      have HZG := Lib.hid hzg
                      clear hW hb hV hz hzg
                      subst hG
                      simp only [putAll]
                      generalize hR : Res _ _ vs w1' = R
                      go_simp
                      subst hR
                      refine (HC1.out w1' _ _ HZG.out HZ.out).mono ?_
                      rintro e w2 ⟨rfl, hb2⟩
                      exact ⟨_, rfl, rfl, hb2⟩
                    · cases hj
                      clear hj'
                      refine .inl ⟨rfl, ?_⟩
                      generalize hG : relUpon _ _ _ = G
                      have q13_ : vs 13 = _ := hV 13 (by decide)
                      clear hV hb hW
                      subst hG
                      simp only [putAll]
                      generalize hR : Res _ _ vs w1' = R
                      go_simp
                      subst hR
                      exact ⟨rfl, Below.refl _ _⟩
                    · cases hj
                      clear hj'
                      refine .inl ⟨rfl, ?_⟩
                      generalize hG : relUpon _ _ _ = G
                      have q8_ : vs 8 = _ := hV 8 (by decide)
                      have q14_ : vs 14 = _ := hV 14 (by decide)
                      clear hV hb hW
                      subst hG
                      simp only [putAll]
                      generalize hR : Res _ _ vs w1' = R
                      go_simp
                      subst hR
                      exact ⟨rfl, Below.refl _ _⟩
                  case hQ =>
                    intro W hW vs w2 hb hV hD
                    have hbw : Below wX.heap.size wX w2 := by rw [hW] at hb; exact ((Below.refl wX.heap.size wX).drew).trans hb
                    have e0_ : vs 0 = _ := hV 0 (by simp)
                    have e1_ : vs 1 = _ := hV 1 (by simp)
                    have e2_ : vs 2 = _ := hV 2 (by simp)
                    have e3_ : vs 3 = _ := hV 3 (by simp)
                    obtain ⟨_, _, _, _, e4_, _⟩ := Zv.form (show Zv w2 (vs 4) (2) from hV 4 (by simp))
                    have e5_ : vs 5 = _ := hV 5 (by simp)
                    have e6_ : vs 6 = _ := hV 6 (by simp)
                    have e7_ : vs 7 = _ := hV 7 (by simp)
                    have e8_ : vs 8 = _ := hV 8 (by simp)
                    have e9_ : vs 9 = _ := hV 9 (by simp)
                    have e10_ : vs 10 = _ := hV 10 (by simp)
                    obtain ⟨_, _, _, _, e11_, _⟩ := Zv.form (show Zv w2 (vs 11) (((gc_ : Nat) : Int)) from hV 11 (by simp))
                    obtain ⟨_, _, _, _, e12_, _⟩ := Zv.form (show Zv w2 (vs 12) (1) from hV 12 (by simp))
                    have e13_ : vs 13 = _ := hV 13 (by simp)
                    have e14_ : vs 14 = _ := hV 14 (by simp)
                    have e15_ : vs 15 = _ := hV 15 (by simp)
                    have ROWHn := Lib.hid (ROWHX.out.below hbw ROWHX.out.lt)
                    have BELHn := Lib.hid (BELHX.out.trans (hbw.mono (Nat.le_of_lt ROWHX.out.lt)))
                    clear hV hD hb hW hbw
                    generalize hKK : Exit.then _ _ = KK
                    simp only [putAll, e0_, e1_, e2_, e3_, e4_, e5_, e6_, e7_, e8_, e9_, e10_, e11_, e12_, e13_, e14_, e15_]
                    go_simp
                    subst hKK
                    clear e0_ e1_ e2_ e3_ e4_ e5_ e6_ e7_ e8_ e9_ e10_ e11_ e12_ e13_ e14_ e15_
                    obtain ⟨⟨f1, f2⟩, ⟨f3, f4⟩, ⟨f5, f6⟩, ⟨f7, f8⟩, f9⟩ := row4 (ROWHn.out) (.bool false) (.slice none 0 0) (.bool false) (.slice none 0 0)
                    have hbe_ := ((((BELHn.out).setCell (p := ⟨h, 0, none⟩) (Nat.le_refl h) (.bool false)).setCell (p := ⟨h, 1, none⟩) (Nat.le_refl h) (.slice none 0 0)).setCell (p := ⟨h, 2, none⟩) (Nat.le_refl h) (.bool false)).setCell (p := ⟨h, 3, none⟩) (Nat.le_refl h) (.slice none 0 0)
                    have HBE_ := Lib.hid hbe_
                    have F9 := Lib.hid f9
                    clear hbe_ f9
                    have y0 := F9.out.cell 0
                    have y1 := F9.out.cell 1
                    have y2 := F9.out.cell 2
                    have y3 := F9.out.cell 3
                    simp only [List.getElem?_cons_zero, List.getElem?_cons_succ] at y0 y1 y2 y3
                    go_wp2_with fail
                    refine bodyPost_ret (v := .tuple #[.agg #[.bool false, .slice none 0 0, .bool false, .slice none 0 0], .int .i64 10]) (by simp [results, Tryz.results12, go_sem, y0, y1, y2, y3]) rfl ⟨.bool false, by rw [HH.out]; exact HBE_.out, ?_⟩
                    rw [HR5.out]
                    exact rfl
          · have gAl : ¬ ((A : Int) < (s.size : Int)) := by have := HN.out; omega
            have HRS : Hid (smallQ a 1 = r) := by
              have := HR1.out
              rw [if_neg hAl] at this
              exact this
            have HRS : Hid (r = smallQ a 1) := HRS.out.symm
            clear hAl HR1
            have z8a := ROW8.out.cell 0
            have z8b := ROW8.out.cell 1
            have z8c := ROW8.out.cell 2
            have z8d := ROW8.out.cell 3
            simp only [List.getElem?_cons_zero, List.getElem?_cons_succ] at z8a z8b z8c z8d
            by_cases hsm : nDigits (a).natAbs ≤ 20000 ∧ nDigits ((1 : Int)).natAbs ≤ 20000
            · have HRR : Hid (r = (0, a, (1 : Int))) := by show _ = _; rw [HRS.out]; unfold smallQ; rw [if_pos hsm]
              have HSQ := Lib.hid (small_big (a) ((1 : Int)) _ _ HQ.out (Nat.le_trans HLA (by omega)) (Nat.le_trans (limbs_len3 (by decide)) (by omega)))
              rw [show (decide (nDigits (a).natAbs ≤ 20000) && decide (nDigits ((1 : Int)).natAbs ≤ 20000)) = true by rw [decide_eq_true hsm.1, decide_eq_true hsm.2]; rfl] at HSQ
              clear hsm
              go_wp2_with fail
              refine HSQ.out.mono ?_
              rintro e wT ⟨rfl, hbT⟩
              have RT8 := Lib.hid (ROW8.out.below hbT ROW8.out.lt)
              have RTH := Lib.hid (ROWH.out.below hbT ROWH.out.lt)
              have BTH := Lib.hid (BELH.out.trans (hbT.mono (Nat.le_of_lt ROWH.out.lt)))
              have HQT := Lib.hid (HQ.out.below hbT)
              have z9a := RT8.out.cell 0
              have z9b := RT8.out.cell 1
              have z9c := RT8.out.cell 2
              have z9d := RT8.out.cell 3
              simp only [List.getElem?_cons_zero, List.getElem?_cons_succ] at z9a z9b z9c z9d
              clear hbT z8a z8b z8c z8d HSQ
              obtain ⟨⟨f1, f2⟩, ⟨f3, f4⟩, ⟨f5, f6⟩, ⟨f7, f8⟩, f9⟩ := row4 (RTH.out) (.bool bn) (.slice pn kn cn) (.bool bd) (.slice pd kd cd)
              have hbe_ := ((((BTH.out).setCell (p := ⟨h, 0, none⟩) (Nat.le_refl h) (.bool bn)).setCell (p := ⟨h, 1, none⟩) (Nat.le_refl h) (.slice pn kn cn)).setCell (p := ⟨h, 2, none⟩) (Nat.le_refl h) (.bool bd)).setCell (p := ⟨h, 3, none⟩) (Nat.le_refl h) (.slice pd kd cd)
              have HBE_ := Lib.hid hbe_
              have F9 := Lib.hid f9
              clear hbe_ f9
              obtain ⟨hq1, hq2⟩ := qv_parts HQT.out
              have hz1 := hq1.put4 RTH.out (noInt_bool _) (noInt_slice _ _ _) (noInt_bool _) (noInt_slice _ _ _) (.bool bn) (.slice pn kn cn) (.bool bd) (.slice pd kd cd)
              have hz2 := hq2.put4 RTH.out (noInt_bool _) (noInt_slice _ _ _) (noInt_bool _) (noInt_slice _ _ _) (.bool bn) (.slice pn kn cn) (.bool bd) (.slice pd kd cd)
              have HZ1 := Lib.hid hz1
              have HZ2 := Lib.hid hz2
              clear hq1 hq2 hz1 hz2
              have y0 := F9.out.cell 0
              have y1 := F9.out.cell 1
              have y2 := F9.out.cell 2
              have y3 := F9.out.cell 3
              simp only [List.getElem?_cons_zero, List.getElem?_cons_succ] at y0 y1 y2 y3
              go_wp2_with fail
              refine bodyPost_ret (v := .tuple #[.agg #[.bool bn, .slice pn kn cn, .bool bd, .slice pd kd cd], .int .i64 0]) (by simp [results, Tryz.results12, go_sem, y0, y1, y2, y3]) rfl ⟨.agg #[.bool bn, .slice pn kn cn, .bool bd, .slice pd kd cd], by rw [HH.out]; exact HBE_.out, ?_⟩
              rw [HRR.out]
              exact ⟨rfl, ⟨_, _, _, _, rfl, HZ1.out, HZ2.out⟩⟩
            · have HRR : Hid (r = (11, 0, 0)) := by show _ = _; rw [HRS.out]; unfold smallQ; rw [if_neg hsm]
              have HSQ := Lib.hid (small_big (a) ((1 : Int)) _ _ HQ.out (Nat.le_trans HLA (by omega)) (Nat.le_trans (limbs_len3 (by decide)) (by omega)))
              rw [show (decide (nDigits (a).natAbs ≤ 20000) && decide (nDigits ((1 : Int)).natAbs ≤ 20000)) = false by rw [Bool.eq_false_iff]; intro e; rw [Bool.and_eq_true] at e; exact hsm ⟨of_decide_eq_true e.1, of_decide_eq_true e.2⟩] at HSQ
              clear hsm
              go_wp2_with fail
              refine HSQ.out.mono ?_
              rintro e wT ⟨rfl, hbT⟩
              have RTH := Lib.hid (ROWH.out.below hbT ROWH.out.lt)
              have BTH := Lib.hid (BELH.out.trans (hbT.mono (Nat.le_of_lt ROWH.out.lt)))
              clear hbT z8a z8b z8c z8d HSQ
              obtain ⟨⟨f1, f2⟩, ⟨f3, f4⟩, ⟨f5, f6⟩, ⟨f7, f8⟩, f9⟩ := row4 (RTH.out) (.bool false) (.slice none 0 0) (.bool false) (.slice none 0 0)
              have hbe_ := ((((BTH.out).setCell (p := ⟨h, 0, none⟩) (Nat.le_refl h) (.bool false)).setCell (p := ⟨h, 1, none⟩) (Nat.le_refl h) (.slice none 0 0)).setCell (p := ⟨h, 2, none⟩) (Nat.le_refl h) (.bool false)).setCell (p := ⟨h, 3, none⟩) (Nat.le_refl h) (.slice none 0 0)
              have HBE_ := Lib.hid hbe_
              have F9 := Lib.hid f9
              clear hbe_ f9
              have y0 := F9.out.cell 0
              have y1 := F9.out.cell 1
              have y2 := F9.out.cell 2
              have y3 := F9.out.cell 3
              simp only [List.getElem?_cons_zero, List.getElem?_cons_succ] at y0 y1 y2 y3
              go_wp2_with fail
              refine bodyPost_ret (v := .tuple #[.agg #[.bool false, .slice none 0 0, .bool false, .slice none 0 0], .int .i64 11]) (by simp [results, Tryz.results12, go_sem, y0, y1, y2, y3]) rfl ⟨.bool false, by rw [HH.out]; exact HBE_.out, ?_⟩
              rw [HRR.out]
              exact rfl
end Go.Proofs.YtmhmkhdgpfhnfaaGreatDoor.Ref
