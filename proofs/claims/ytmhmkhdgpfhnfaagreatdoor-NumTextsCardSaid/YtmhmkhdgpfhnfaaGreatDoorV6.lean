/- The program's Parse. -/
import Derived.Test.YtmhmkhdgpfhnfaaGreatDoorV5
import Derived.Shelf.Abstract
set_option linter.unusedVariables false
set_option linter.unusedSimpArgs false
set_option linter.unnecessarySimpa false
namespace Go.Proofs.YtmhmkhdgpfhnfaaGreatDoor.Ref
open Go.RowKit Go.Lib

theorem parse_enters : ∀ args w, (callFunc 67 args).run Tryz.prog w = .ok (.enter 67 args) w := enters_of Tryz.func67 rfl rfl
/-- what attempt answers, given small's work on a boxed fraction -/
theorem attempt_parse (g : Nat) (N : Int) (d : Nat) (w : World) (h : BoxR w g N d) (hg : g < w.heap.size) (hl1 : (limbs N.natAbs).length ≤ 1073741820) (hl2 : (limbs d).length ≤ 1073741820) :
    Calls Tryz.prog 66 #[.func (Fn.func 67) #[] #[.pointer (some ⟨g, 0, none⟩)]] w fun e w' =>
      ∃ b p k c q m x, e = .returned (.tuple #[.agg #[.bool b, .slice p k c, .slice q m x], .int .i64 ((smallQ N d).1 : Nat)]) ∧ Below w.heap.size w w' ∧
        (if (smallQ N d).1 = 0 then Rt w' (.agg #[.bool b, .slice p k c, .slice q m x]) (smallQ N d).2.1 (smallQ N d).2.2.toNat else Value.agg #[.bool b, .slice p k c, .slice q m x] = .agg #[.bool false, .slice none 0 0, .slice none 0 0]) := by
  have hbox : ∀ W, Below w.heap.size w W → BoxR W g N d := fun W hW => by
    obtain ⟨b, p, k, c, q, m, x, h1, h2⟩ := h
    exact ⟨b, p, k, c, q, m, x, h1.below hW hg, h2.below hW⟩
  by_cases hs : smallB N d
  · have e : smallQ N d = (0, N, (d : Int)) := by unfold smallQ; rw [if_pos (by rw [Int.natAbs_natCast]; exact hs)]
    rw [e]
    refine (attempt_ok _ _ N d w parse_enters (fun W hW => work_ok g N d W (hbox W hW) (Nat.lt_of_lt_of_le hg hW.size) hs hl1 hl2)).mono ?_
    rintro e w' ⟨v, rfl, hv, hb⟩
    obtain ⟨b, p, k, c, q, m, x, rfl, -, -, -⟩ := hv.form
    refine ⟨b, p, k, c, q, m, x, rfl, hb, ?_⟩
    rw [if_pos rfl, Int.toNat_natCast]
    exact hv
  · have e : smallQ N d = (11, 0, 0) := by unfold smallQ; rw [if_neg (by rw [Int.natAbs_natCast]; exact hs)]
    rw [e]
    refine (attempt_big _ _ w parse_enters (fun W hW => work_big g N d W (hbox W hW) (Nat.lt_of_lt_of_le hg hW.size) hs hl1 hl2)).mono ?_
    rintro e w' ⟨rfl, hb⟩
    refine ⟨false, none, 0, 0, none, 0, 0, rfl, hb, ?_⟩
    rw [if_neg (by decide)]
theorem unS_len (l : List UInt8) : (unS l).length ≤ l.length := by
  unfold unS
  split
  · rw [List.length_drop]; omega
  · exact Nat.le_refl _
/-- what strings.Cut leaves of a string without its sign -/
structure CutOk (l : List UInt8) (over under : ByteArray) : Prop where
  o : over.data.toList = overS l
  os : over.size ≤ 50000
  u : divS l = true → under.data.toList = underS l
  us : under.size ≤ 50000
theorem cut_any2 (l : List UInt8) (hl : l.length ≤ 41000) : ∃ over under, CutOk l over under ∧ ∀ W, Calls Tryz.prog 60 #[.string ⟨(unS l).toArray⟩, .string ⟨#[47]⟩] W fun e w' => e = .returned (.tuple #[.string over, .string under, .bool (divS l)]) ∧ Below W.heap.size W w' := by
  have hu := unS_len l
  have hsz : (⟨(unS l).toArray⟩ : ByteArray).size = (unS l).length := by rw [sz_eq]
  by_cases hd : slashAt (unS l) < (unS l).length
  · have hd' : divS l = true := by unfold divS; simpa using hd
    have e1 := ba_take ⟨(unS l).toArray⟩ (slashAt (unS l)) (by rw [hsz]; omega)
    have e2 := ba_drop ⟨(unS l).toArray⟩ (slashAt (unS l) + 1)
    refine ⟨_, _, ⟨e1, ?_, fun _ => e2, ?_⟩, fun W => ?_⟩
    · rw [sz_eq, e1, List.length_take]; show min _ (unS l).length ≤ _; omega
    · rw [sz_eq, e2, List.length_drop]; show (unS l).length - _ ≤ _; omega
    · rw [hd']
      exact cut_yes ⟨(unS l).toArray⟩ W (by rw [hsz]; exact hd) (by rw [hsz]; omega)
  · have hd' : divS l = false := by unfold divS; simpa using hd
    refine ⟨⟨(unS l).toArray⟩, ⟨#[]⟩, ⟨?_, by rw [hsz]; omega, fun h => absurd (hd'.symm.trans h) (by decide), by decide⟩, fun W => ?_⟩
    · show unS l = overS l
      unfold overS
      rw [List.take_of_length_le (by omega)]
    · rw [hd']
      exact cut_no ⟨(unS l).toArray⟩ W (by rw [hsz]; exact hd)
theorem num_small {m : List UInt8} (h : isNumB m = true) (hm : m.length ≤ 50000) : (limbs (numOf m)).length ≤ 5600 :=
  num_len false (by rw [okNum_false]; exact h) 5600 (by omega)
theorem num_all {m : List UInt8} (h : isNumB m = true) : m.all digB = true := by
  unfold isNumB at h
  rw [Bool.and_eq_true] at h
  exact h.1
theorem top_sg (l : List UInt8) : sgB (negS l) (numOf (overS l)) = decide (topS l < 0) ∧ (topS l).natAbs = numOf (overS l) := by
  unfold topS sgB
  cases negS l with
  | true =>
    rw [if_pos rfl]
    refine ⟨?_, by omega⟩
    rw [Bool.true_and]
    exact decide_eq_decide.2 (by omega)
  | false =>
    rw [if_neg (by decide)]
    refine ⟨?_, by omega⟩
    rw [Bool.false_and]
    exact (decide_eq_false (by omega)).symm
theorem gcd_len (a b K : Nat) (hb : 0 < b) (h : (limbs b).length ≤ K) : (limbs (Nat.gcd a b)).length ≤ K :=
  Nat.le_trans (limbs_mono (Nat.gcd_le_right a hb)) h
/-- what Parse gives back -/
def ParOut (w : World) (r : Nat × Int × Int) (e : Ending) (w' : World) : Prop := ∃ v, Below w.heap.size w w' ∧
  if r.1 = 0 then e = .returned (.tuple #[v, .int .i64 0]) ∧ Rt w' v r.2.1 r.2.2.toNat
  else e = .returned (.tuple #[.agg #[.bool false, .slice none 0 0, .slice none 0 0], .int .i64 (r.1 : Nat)])
/-- the box of the result, still zero -/
def ResB (h : Nat) (w W : World) : Prop := Row 27 W h [.bool false, .slice none 0 0, .slice none 0 0] ∧ Below h w W ∧ h < W.heap.size
theorem ResB.below {h : Nat} {w W W' : World} (r : ResB h w W) (hb : Below W.heap.size W W') : ResB h w W' :=
  ⟨r.1.below hb r.2.2, r.2.1.trans (hb.mono (Nat.le_of_lt r.2.2)), Nat.lt_of_lt_of_le r.2.2 hb.size⟩
theorem resB_new (w : World) : ResB w.heap.size w (w.alloc (.cells #[.bool false, .slice none 0 0, .slice none 0 0] 27)) :=
  ⟨row_new 27 w #[.bool false, .slice none 0 0, .slice none 0 0], (Below.refl w.heap.size w).alloc (Nat.le_refl _) _, by simp⟩
theorem ResB.put {h g : Nat} {w W : World} (r : ResB h w W) (hg : h < g) (i : Nat) (u : Value) : ResB h w (W.setCell ⟨g, i, none⟩ u) :=
  ⟨r.1.other ⟨g, i, none⟩ (by show g ≠ h; omega) u, r.2.1.setCell (p := ⟨g, i, none⟩) (by show h ≤ g; omega) u, by have := ((Below.refl 0 W).setCell (Nat.zero_le _) (p := ⟨g, i, none⟩) u).size; have := r.2.2; omega⟩
theorem ResB.fin {h : Nat} {w W : World} (r : ResB h w W) (y0 y1 y2 : Value) : Below h w (((W.setCell ⟨h, 0, none⟩ y0).setCell ⟨h, 1, none⟩ y1).setCell ⟨h, 2, none⟩ y2) :=
  ((r.2.1.setCell (p := ⟨h, 0, none⟩) (Nat.le_refl h) y0).setCell (p := ⟨h, 1, none⟩) (Nat.le_refl h) y1).setCell (p := ⟨h, 2, none⟩) (Nat.le_refl h) y2
/-- a fraction's box made behind a world -/
theorem boxed (w : World) (b : Bool) (p : Option Addr) (k c : Nat) :
    Row 27 (w.alloc (.cells #[.bool b, .slice p k c, .slice none 0 0] 27)) w.heap.size [.bool b, .slice p k c, .slice none 0 0] ∧
    Below w.heap.size w (w.alloc (.cells #[.bool b, .slice p k c, .slice none 0 0] 27)) ∧ w.heap.size < (w.alloc (.cells #[.bool b, .slice p k c, .slice none 0 0] 27)).heap.size :=
  ⟨row_new 27 w #[.bool b, .slice p k c, .slice none 0 0], (Below.refl w.heap.size w).alloc (Nat.le_refl _) _, by simp⟩
set_option maxRecDepth 100000 in
set_option maxHeartbeats 4000000 in
theorem par_long (s : ByteArray) (l : List UInt8) (w : World) (hl : s.data.toList = l) (hs : ¬ l.length ≤ 41000) :
    Calls Tryz.prog 11 #[.string s] w (ParOut w (pp l)) := by
  have gs : (41000 : Int) < (s.size : Int) := by rw [sz_eq, hl]; omega
  have HR : Hid (pp l = (2, 0, 0)) := by show _ = _; unfold pp; rw [if_pos (by omega)]
  clear hl hs
  go_enter Tryz.func11, Tryz.ntmps11
  go_upto_region 1 with (fail)
  have hst := resB_new w
  generalize w.alloc (.cells #[.bool false, .slice none 0 0, .slice none 0 0] 27) = w0 at *
  obtain ⟨h, hh⟩ : ∃ h, w.heap.size = h := ⟨_, rfl⟩
  have HH := Lib.hid hh
  rw [hh] at hst ⊢
  have ST := Lib.hid hst
  clear hst hh
  have hst_ := ST.out
  obtain ⟨⟨f1, f2⟩, ⟨f3, f4⟩, ⟨f5, f6⟩, f7⟩ := row3 hst_.1 (.bool false) (.slice none 0 0) (.slice none 0 0)
  have HBE := Lib.hid (hst_.fin (.bool false) (.slice none 0 0) (.slice none 0 0))
  have c0 := f7.cell 0
  have c1 := f7.cell 1
  have c2 := f7.cell 2
  simp only [List.getElem?_cons_zero, List.getElem?_cons_succ] at c0 c1 c2
  have HROW := Lib.hid hst_.1
  clear hst_ f7
  go_wp2
  refine bodyPost_ret (v := .tuple #[.agg #[.bool false, .slice none 0 0, .slice none 0 0], .int .i64 2]) (by simp [results, Tryz.results11, go_sem, c0, c1, c2]) rfl ?_
  refine ⟨.bool false, by rw [HH.out]; exact HBE.out, ?_⟩
  rw [HR.out]
  exact rfl
set_option maxRecDepth 100000 in
set_option maxHeartbeats 4000000 in
theorem par_over (s : ByteArray) (l : List UInt8) (w : World) (hl : s.data.toList = l) (hs : l.length ≤ 41000) (h1 : isNumB (overS l) = false) :
    Calls Tryz.prog 11 #[.string s] w (ParOut w (pp l)) := by
  obtain ⟨over, under, hc, hcut⟩ := cut_any2 l hs
  have HCUT := Lib.hid hcut
  have HPRE := Lib.hid (fun W => cutPrefix_go s W)
  rw [hl] at HPRE
  have HNO := Lib.hid (fun W => isNumber_go over W hc.os)
  rw [hc.o] at HNO
  have gs : ¬ ((41000 : Int) < (s.size : Int)) := by rw [sz_eq, hl]; omega
  have htl : over.toList = overS l := by rw [ByteArray.toList_eq, hc.o]
  have hol : (overS l).length ≤ 50000 := by rw [← hc.o, ← sz_eq]; exact hc.os
  have hnb : ¬ 41000 < l.length := by omega
  have HR : Hid (pp l = (10, 0, 0)) := by show _ = _; unfold pp badOver; rw [if_neg hnb, if_pos (by rw [h1]; rfl)]
  rw [h1] at HNO
  generalize negS l = ng at *
  generalize divS l = dv at *
  clear hnb htl hol hc hcut hs hl h1
  go_enter Tryz.func11, Tryz.ntmps11
  go_upto_region 1 with (fail)
  have hst := resB_new w
  generalize w.alloc (.cells #[.bool false, .slice none 0 0, .slice none 0 0] 27) = w0 at *
  obtain ⟨h, hh⟩ : ∃ h, w.heap.size = h := ⟨_, rfl⟩
  have HH := Lib.hid hh
  rw [hh] at hst ⊢
  have ST := Lib.hid hst
  clear hst hh
  go_wp2_with fail
  refine (HPRE.out w0).mono ?_
  rintro e w1 ⟨rfl, rfl⟩
  go_wp2_with fail
  refine (HCUT.out w1).mono ?_
  rintro e w2 ⟨rfl, hb⟩
  replace ST := Lib.hid (ST.out.below hb)
  clear hb
  go_wp2_with fail
  refine (HNO.out w2).mono ?_
  rintro e w3 ⟨rfl, hb⟩
  replace ST := Lib.hid (ST.out.below hb)
  clear hb HPRE HCUT HNO
  have hst_ := ST.out
  obtain ⟨⟨f1, f2⟩, ⟨f3, f4⟩, ⟨f5, f6⟩, f7⟩ := row3 hst_.1 (.bool false) (.slice none 0 0) (.slice none 0 0)
  have HBE := Lib.hid (hst_.fin (.bool false) (.slice none 0 0) (.slice none 0 0))
  have c0 := f7.cell 0
  have c1 := f7.cell 1
  have c2 := f7.cell 2
  simp only [List.getElem?_cons_zero, List.getElem?_cons_succ] at c0 c1 c2
  have HROW := Lib.hid hst_.1
  clear hst_ f7
  go_wp2
  refine bodyPost_ret (v := .tuple #[.agg #[.bool false, .slice none 0 0, .slice none 0 0], .int .i64 10]) (by simp [results, Tryz.results11, go_sem, c0, c1, c2]) rfl ?_
  refine ⟨.bool false, by rw [HH.out]; exact HBE.out, ?_⟩
  rw [HR.out]
  exact rfl
set_option maxRecDepth 100000 in
set_option maxHeartbeats 4000000 in
theorem par_minus (s : ByteArray) (l : List UInt8) (w : World) (hl : s.data.toList = l) (hs : l.length ≤ 41000) (h1 : isNumB (overS l) = true) (h2 : overS l = [48]) (h3 : negS l = true) :
    Calls Tryz.prog 11 #[.string s] w (ParOut w (pp l)) := by
  obtain ⟨over, under, hc, hcut⟩ := cut_any2 l hs
  have HCUT := Lib.hid hcut
  have HPRE := Lib.hid (fun W => cutPrefix_go s W)
  rw [hl] at HPRE
  have HNO := Lib.hid (fun W => isNumber_go over W hc.os)
  rw [hc.o] at HNO
  have gs : ¬ ((41000 : Int) < (s.size : Int)) := by rw [sz_eq, hl]; omega
  have htl : over.toList = overS l := by rw [ByteArray.toList_eq, hc.o]
  have hol : (overS l).length ≤ 50000 := by rw [← hc.o, ← sz_eq]; exact hc.os
  have hnb : ¬ 41000 < l.length := by omega
  have HR : Hid (pp l = (10, 0, 0)) := by show _ = _; unfold pp badOver; rw [if_neg hnb, if_pos (by rw [h1, h2, h3]; rfl)]
  rw [h1] at HNO
  rw [h3] at HPRE
  have g48 : over.toList = [48] := by rw [htl, h2]
  generalize divS l = dv at *
  clear hnb htl hol hc hcut hs hl h1 h2 h3
  go_enter Tryz.func11, Tryz.ntmps11
  go_upto_region 1 with (fail)
  have hst := resB_new w
  generalize w.alloc (.cells #[.bool false, .slice none 0 0, .slice none 0 0] 27) = w0 at *
  obtain ⟨h, hh⟩ : ∃ h, w.heap.size = h := ⟨_, rfl⟩
  have HH := Lib.hid hh
  rw [hh] at hst ⊢
  have ST := Lib.hid hst
  clear hst hh
  go_wp2_with fail
  refine (HPRE.out w0).mono ?_
  rintro e w1 ⟨rfl, rfl⟩
  go_wp2_with fail
  refine (HCUT.out w1).mono ?_
  rintro e w2 ⟨rfl, hb⟩
  replace ST := Lib.hid (ST.out.below hb)
  clear hb
  go_wp2_with fail
  refine (HNO.out w2).mono ?_
  rintro e w3 ⟨rfl, hb⟩
  replace ST := Lib.hid (ST.out.below hb)
  clear hb HPRE HCUT HNO
  have hst_ := ST.out
  obtain ⟨⟨f1, f2⟩, ⟨f3, f4⟩, ⟨f5, f6⟩, f7⟩ := row3 hst_.1 (.bool false) (.slice none 0 0) (.slice none 0 0)
  have HBE := Lib.hid (hst_.fin (.bool false) (.slice none 0 0) (.slice none 0 0))
  have c0 := f7.cell 0
  have c1 := f7.cell 1
  have c2 := f7.cell 2
  simp only [List.getElem?_cons_zero, List.getElem?_cons_succ] at c0 c1 c2
  have HROW := Lib.hid hst_.1
  clear hst_ f7
  go_wp2
  refine bodyPost_ret (v := .tuple #[.agg #[.bool false, .slice none 0 0, .slice none 0 0], .int .i64 10]) (by simp [results, Tryz.results11, go_sem, c0, c1, c2]) rfl ?_
  refine ⟨.bool false, by rw [HH.out]; exact HBE.out, ?_⟩
  rw [HR.out]
  exact rfl
set_option maxRecDepth 100000 in
set_option maxHeartbeats 4000000 in
theorem par_whole_z (s : ByteArray) (l : List UInt8) (w : World) (hl : s.data.toList = l) (hs : l.length ≤ 41000) (h1 : isNumB (overS l) = true) (h2 : overS l = [48]) (h3 : negS l = false) (h4 : divS l = false) :
    Calls Tryz.prog 11 #[.string s] w (ParOut w (pp l)) := by
  obtain ⟨over, under, hc, hcut⟩ := cut_any2 l hs
  have HCUT := Lib.hid hcut
  have HPRE := Lib.hid (fun W => cutPrefix_go s W)
  rw [hl] at HPRE
  have HNO := Lib.hid (fun W => isNumber_go over W hc.os)
  rw [hc.o] at HNO
  have gs : ¬ ((41000 : Int) < (s.size : Int)) := by rw [sz_eq, hl]; omega
  have htl : over.toList = overS l := by rw [ByteArray.toList_eq, hc.o]
  have hol : (overS l).length ≤ 50000 := by rw [← hc.o, ← sz_eq]; exact hc.os
  have hnb : ¬ 41000 < l.length := by omega
  have hbo : badOver l = false := by unfold badOver; rw [h1]; rw [h2, h3]; rfl
  have htp := top_sg l
  have HTP := Lib.hid htp
  have hlen := num_small h1 hol
  have HLEN := Lib.hid (fun m (e : m = numOf (overS l)) => show (limbs m).length ≤ 5600 by rw [e]; exact hlen)
  have HRN := Lib.hid (fun W => readNatural_go over W hc.os (by rw [hc.o]; exact isNumB_ne h1) (by rw [hc.o]; exact num_all h1))
  rw [hc.o] at HRN
  rw [h1] at HNO
  rw [h4] at HCUT
  have HR : Hid (pp l = smallQ (topS l) ((1 : Nat) : Int)) := by
    show _ = _
    unfold pp
    rw [if_neg hnb, hbo, if_neg (by decide), h4, if_neg (by decide)]
    rfl
  have g48 : over.toList = [48] := by rw [htl, h2]
  rw [h3] at HPRE HTP
  have gng := Lib.hid (rfl : false = false)
  generalize numOf (overS l) = n at *
  generalize topS l = N at *
  clear hnb htl hol hc hcut hs hl h1 h2 hbo htp hlen h3 h4
  go_enter Tryz.func11, Tryz.ntmps11
  go_upto_region 1 with (fail)
  have hst := resB_new w
  generalize w.alloc (.cells #[.bool false, .slice none 0 0, .slice none 0 0] 27) = w0 at *
  obtain ⟨h, hh⟩ : ∃ h, w.heap.size = h := ⟨_, rfl⟩
  have HH := Lib.hid hh
  rw [hh] at hst ⊢
  have ST := Lib.hid hst
  clear hst hh
  go_wp2_with fail
  refine (HPRE.out w0).mono ?_
  rintro e w1 ⟨rfl, rfl⟩
  go_wp2_with fail
  refine (HCUT.out w1).mono ?_
  rintro e w2 ⟨rfl, hb⟩
  replace ST := Lib.hid (ST.out.below hb)
  clear hb
  go_wp2_with fail
  refine (HNO.out w2).mono ?_
  rintro e w3 ⟨rfl, hb⟩
  replace ST := Lib.hid (ST.out.below hb)
  clear hb HPRE HCUT HNO
  go_wp2_with fail
  refine (HRN.out w3).mono ?_
  rintro e w4 ⟨v4, rfl, ho, hb⟩
  have hrd := ho.rd
  obtain ⟨p, c, rfl, -⟩ := id hrd
  generalize (limbs n).length = k at *
  replace ST := Lib.hid (ST.out.below hb)
  have HRD := Lib.hid hrd
  clear hb ho hrd HRN
  go_wp2_with fail
  refine (signed_any false (.slice p k c) n w4 HRD.out (by have := HLEN.out n rfl; omega)).mono ?_
  rintro e w5 ⟨rfl, hb⟩
  replace ST := Lib.hid (ST.out.below hb)
  replace HRD := Lib.hid (HRD.out.below hb)
  rw [HTP.out.1]
  obtain ⟨sb, hsb⟩ : ∃ b, decide (N < 0) = b := ⟨_, rfl⟩
  have HSB := Lib.hid hsb
  rw [hsb]
  clear hb hsb
  go_wp2_with fail
  have hbx := boxed w5 sb p k c
  have HGG := Lib.hid ST.out.2.2
  generalize w5.alloc (.cells #[.bool sb, .slice p k c, .slice none 0 0] 27) = w6 at *
  replace ST := Lib.hid (ST.out.below hbx.2.1)
  replace HRD := Lib.hid (HRD.out.below hbx.2.1)
  generalize w5.heap.size = g at *
  have HBX := Lib.hid (And.intro hbx.1 hbx.2.2)
  clear hbx
  have HATT := Lib.hid (attempt_parse g N 1 w6 ⟨sb, p, k, c, none, 0, 0, HBX.out.1, ⟨p, k, c, _, by rw [HSB.out], by rw [HTP.out.2]; exact HRD.out, .inl ⟨rfl, rfl⟩⟩⟩ HBX.out.2 (by rw [HTP.out.2]; have := HLEN.out n rfl; omega) (by rw [limbs_one]; decide))
  refine HATT.out.mono ?_
  rintro e w9 ⟨b, p1, k1, cp1, q1, m1, x1, rfl, hb, hv⟩
  replace ST := Lib.hid (ST.out.below hb)
  have HV := Lib.hid hv
  obtain ⟨S, hS⟩ : ∃ S, smallQ N ((1 : Nat) : Int) = S := ⟨_, rfl⟩
  rw [hS] at HV HR ⊢
  clear hb hv hS HATT
  have hst_ := ST.out
  obtain ⟨⟨f1, f2⟩, ⟨f3, f4⟩, ⟨f5, f6⟩, f7⟩ := row3 hst_.1 (.bool b) (.slice p1 k1 cp1) (.slice q1 m1 x1)
  have HBE := Lib.hid (hst_.fin (.bool b) (.slice p1 k1 cp1) (.slice q1 m1 x1))
  have c0 := f7.cell 0
  have c1 := f7.cell 1
  have c2 := f7.cell 2
  simp only [List.getElem?_cons_zero, List.getElem?_cons_succ] at c0 c1 c2
  have HROW := Lib.hid hst_.1
  clear hst_ f7
  go_wp2
  refine bodyPost_ret (v := .tuple #[.agg #[.bool b, .slice p1 k1 cp1, .slice q1 m1 x1], .int .i64 (S.1 : Nat)]) (by simp [results, Tryz.results11, go_sem, c0, c1, c2]) rfl ?_
  rw [HR.out]
  refine ⟨.agg #[.bool b, .slice p1 k1 cp1, .slice q1 m1 x1], by rw [HH.out]; exact HBE.out, ?_⟩
  have hv_ := HV.out
  by_cases h0 : S.1 = 0
  · rw [if_pos h0] at hv_ ⊢
    rw [h0]
    exact ⟨rfl, hv_.put3 HROW.out (noInt_bool _) (noInt_slice _ _ _) (noInt_slice _ _ _) _ _ _ (noInt_bool _) (noInt_slice _ _ _)⟩
  · rw [if_neg h0] at hv_ ⊢
    rw [hv_]
set_option maxRecDepth 100000 in
set_option maxHeartbeats 4000000 in
theorem par_whole_n (s : ByteArray) (l : List UInt8) (w : World) (hl : s.data.toList = l) (hs : l.length ≤ 41000) (h1 : isNumB (overS l) = true) (h2 : ¬ overS l = [48]) (h4 : divS l = false) :
    Calls Tryz.prog 11 #[.string s] w (ParOut w (pp l)) := by
  obtain ⟨over, under, hc, hcut⟩ := cut_any2 l hs
  have HCUT := Lib.hid hcut
  have HPRE := Lib.hid (fun W => cutPrefix_go s W)
  rw [hl] at HPRE
  have HNO := Lib.hid (fun W => isNumber_go over W hc.os)
  rw [hc.o] at HNO
  have gs : ¬ ((41000 : Int) < (s.size : Int)) := by rw [sz_eq, hl]; omega
  have htl : over.toList = overS l := by rw [ByteArray.toList_eq, hc.o]
  have hol : (overS l).length ≤ 50000 := by rw [← hc.o, ← sz_eq]; exact hc.os
  have hnb : ¬ 41000 < l.length := by omega
  have hbo : badOver l = false := by unfold badOver; rw [h1]; rw [beq_eq_false_iff_ne.2 h2]; rfl
  have htp := top_sg l
  have HTP := Lib.hid htp
  have hlen := num_small h1 hol
  have HLEN := Lib.hid (fun m (e : m = numOf (overS l)) => show (limbs m).length ≤ 5600 by rw [e]; exact hlen)
  have HRN := Lib.hid (fun W => readNatural_go over W hc.os (by rw [hc.o]; exact isNumB_ne h1) (by rw [hc.o]; exact num_all h1))
  rw [hc.o] at HRN
  rw [h1] at HNO
  rw [h4] at HCUT
  have HR : Hid (pp l = smallQ (topS l) ((1 : Nat) : Int)) := by
    show _ = _
    unfold pp
    rw [if_neg hnb, hbo, if_neg (by decide), h4, if_neg (by decide)]
    rfl
  have g48 : ¬ over.toList = [48] := by rw [htl]; exact h2
  generalize negS l = ng at *
  generalize numOf (overS l) = n at *
  generalize topS l = N at *
  clear hnb htl hol hc hcut hs hl h1 h2 hbo htp hlen  h4
  go_enter Tryz.func11, Tryz.ntmps11
  go_upto_region 1 with (fail)
  have hst := resB_new w
  generalize w.alloc (.cells #[.bool false, .slice none 0 0, .slice none 0 0] 27) = w0 at *
  obtain ⟨h, hh⟩ : ∃ h, w.heap.size = h := ⟨_, rfl⟩
  have HH := Lib.hid hh
  rw [hh] at hst ⊢
  have ST := Lib.hid hst
  clear hst hh
  go_wp2_with fail
  refine (HPRE.out w0).mono ?_
  rintro e w1 ⟨rfl, rfl⟩
  go_wp2_with fail
  refine (HCUT.out w1).mono ?_
  rintro e w2 ⟨rfl, hb⟩
  replace ST := Lib.hid (ST.out.below hb)
  clear hb
  go_wp2_with fail
  refine (HNO.out w2).mono ?_
  rintro e w3 ⟨rfl, hb⟩
  replace ST := Lib.hid (ST.out.below hb)
  clear hb HPRE HCUT HNO
  go_wp2_with fail
  refine (HRN.out w3).mono ?_
  rintro e w4 ⟨v4, rfl, ho, hb⟩
  have hrd := ho.rd
  obtain ⟨p, c, rfl, -⟩ := id hrd
  generalize (limbs n).length = k at *
  replace ST := Lib.hid (ST.out.below hb)
  have HRD := Lib.hid hrd
  clear hb ho hrd HRN
  go_wp2_with fail
  refine (signed_any ng (.slice p k c) n w4 HRD.out (by have := HLEN.out n rfl; omega)).mono ?_
  rintro e w5 ⟨rfl, hb⟩
  replace ST := Lib.hid (ST.out.below hb)
  replace HRD := Lib.hid (HRD.out.below hb)
  rw [HTP.out.1]
  obtain ⟨sb, hsb⟩ : ∃ b, decide (N < 0) = b := ⟨_, rfl⟩
  have HSB := Lib.hid hsb
  rw [hsb]
  clear hb hsb
  go_wp2_with fail
  have hbx := boxed w5 sb p k c
  have HGG := Lib.hid ST.out.2.2
  generalize w5.alloc (.cells #[.bool sb, .slice p k c, .slice none 0 0] 27) = w6 at *
  replace ST := Lib.hid (ST.out.below hbx.2.1)
  replace HRD := Lib.hid (HRD.out.below hbx.2.1)
  generalize w5.heap.size = g at *
  have HBX := Lib.hid (And.intro hbx.1 hbx.2.2)
  clear hbx
  have HATT := Lib.hid (attempt_parse g N 1 w6 ⟨sb, p, k, c, none, 0, 0, HBX.out.1, ⟨p, k, c, _, by rw [HSB.out], by rw [HTP.out.2]; exact HRD.out, .inl ⟨rfl, rfl⟩⟩⟩ HBX.out.2 (by rw [HTP.out.2]; have := HLEN.out n rfl; omega) (by rw [limbs_one]; decide))
  refine HATT.out.mono ?_
  rintro e w9 ⟨b, p1, k1, cp1, q1, m1, x1, rfl, hb, hv⟩
  replace ST := Lib.hid (ST.out.below hb)
  have HV := Lib.hid hv
  obtain ⟨S, hS⟩ : ∃ S, smallQ N ((1 : Nat) : Int) = S := ⟨_, rfl⟩
  rw [hS] at HV HR ⊢
  clear hb hv hS HATT
  have hst_ := ST.out
  obtain ⟨⟨f1, f2⟩, ⟨f3, f4⟩, ⟨f5, f6⟩, f7⟩ := row3 hst_.1 (.bool b) (.slice p1 k1 cp1) (.slice q1 m1 x1)
  have HBE := Lib.hid (hst_.fin (.bool b) (.slice p1 k1 cp1) (.slice q1 m1 x1))
  have c0 := f7.cell 0
  have c1 := f7.cell 1
  have c2 := f7.cell 2
  simp only [List.getElem?_cons_zero, List.getElem?_cons_succ] at c0 c1 c2
  have HROW := Lib.hid hst_.1
  clear hst_ f7
  go_wp2
  refine bodyPost_ret (v := .tuple #[.agg #[.bool b, .slice p1 k1 cp1, .slice q1 m1 x1], .int .i64 (S.1 : Nat)]) (by simp [results, Tryz.results11, go_sem, c0, c1, c2]) rfl ?_
  rw [HR.out]
  refine ⟨.agg #[.bool b, .slice p1 k1 cp1, .slice q1 m1 x1], by rw [HH.out]; exact HBE.out, ?_⟩
  have hv_ := HV.out
  by_cases h0 : S.1 = 0
  · rw [if_pos h0] at hv_ ⊢
    rw [h0]
    exact ⟨rfl, hv_.put3 HROW.out (noInt_bool _) (noInt_slice _ _ _) (noInt_slice _ _ _) _ _ _ (noInt_bool _) (noInt_slice _ _ _)⟩
  · rw [if_neg h0] at hv_ ⊢
    rw [hv_]
set_option maxRecDepth 100000 in
set_option maxHeartbeats 4000000 in
theorem par_under0_z (s : ByteArray) (l : List UInt8) (w : World) (hl : s.data.toList = l) (hs : l.length ≤ 41000) (h1 : isNumB (overS l) = true) (h2 : overS l = [48]) (h3 : negS l = false) (h4 : divS l = true) (h5 : isNumB (underS l) = false) :
    Calls Tryz.prog 11 #[.string s] w (ParOut w (pp l)) := by
  obtain ⟨over, under, hc, hcut⟩ := cut_any2 l hs
  have HCUT := Lib.hid hcut
  have HPRE := Lib.hid (fun W => cutPrefix_go s W)
  rw [hl] at HPRE
  have HNO := Lib.hid (fun W => isNumber_go over W hc.os)
  rw [hc.o] at HNO
  have gs : ¬ ((41000 : Int) < (s.size : Int)) := by rw [sz_eq, hl]; omega
  have htl : over.toList = overS l := by rw [ByteArray.toList_eq, hc.o]
  have hol : (overS l).length ≤ 50000 := by rw [← hc.o, ← sz_eq]; exact hc.os
  have hnb : ¬ 41000 < l.length := by omega
  have hbo : badOver l = false := by unfold badOver; rw [h1]; rw [h2, h3]; rfl
  have htp := top_sg l
  have HTP := Lib.hid htp
  have hlen := num_small h1 hol
  have HLEN := Lib.hid (fun m (e : m = numOf (overS l)) => show (limbs m).length ≤ 5600 by rw [e]; exact hlen)
  have HRN := Lib.hid (fun W => readNatural_go over W hc.os (by rw [hc.o]; exact isNumB_ne h1) (by rw [hc.o]; exact num_all h1))
  rw [hc.o] at HRN
  rw [h1] at HNO
  have utl : under.toList = underS l := by rw [ByteArray.toList_eq, hc.u h4]
  have hul : (underS l).length ≤ 50000 := by rw [← hc.u h4, ← sz_eq]; exact hc.us
  have HNU := Lib.hid (fun W => isNumber_go under W hc.us)
  rw [hc.u h4] at HNU
  rw [h4] at HCUT
  have HR : Hid (pp l = (10, 0, 0)) := by
    show _ = _
    unfold pp badUnder
    rw [if_neg hnb, hbo, if_neg (by decide), h4, if_pos rfl, if_pos (by rw [h5]; rfl)]
  rw [h5] at HNU
  have g48 : over.toList = [48] := by rw [htl, h2]
  rw [h3] at HPRE HTP
  have gng := Lib.hid (rfl : false = false)
  generalize numOf (overS l) = n at *
  generalize topS l = N at *
  clear hnb htl hol hc hcut hs hl h1 h2 hbo htp hlen h3 h4 h5 utl hul
  go_enter Tryz.func11, Tryz.ntmps11
  go_upto_region 1 with (fail)
  have hst := resB_new w
  generalize w.alloc (.cells #[.bool false, .slice none 0 0, .slice none 0 0] 27) = w0 at *
  obtain ⟨h, hh⟩ : ∃ h, w.heap.size = h := ⟨_, rfl⟩
  have HH := Lib.hid hh
  rw [hh] at hst ⊢
  have ST := Lib.hid hst
  clear hst hh
  go_wp2_with fail
  refine (HPRE.out w0).mono ?_
  rintro e w1 ⟨rfl, rfl⟩
  go_wp2_with fail
  refine (HCUT.out w1).mono ?_
  rintro e w2 ⟨rfl, hb⟩
  replace ST := Lib.hid (ST.out.below hb)
  clear hb
  go_wp2_with fail
  refine (HNO.out w2).mono ?_
  rintro e w3 ⟨rfl, hb⟩
  replace ST := Lib.hid (ST.out.below hb)
  clear hb HPRE HCUT HNO
  go_wp2_with fail
  refine (HRN.out w3).mono ?_
  rintro e w4 ⟨v4, rfl, ho, hb⟩
  have hrd := ho.rd
  obtain ⟨p, c, rfl, -⟩ := id hrd
  generalize (limbs n).length = k at *
  replace ST := Lib.hid (ST.out.below hb)
  have HRD := Lib.hid hrd
  clear hb ho hrd HRN
  go_wp2_with fail
  refine (signed_any false (.slice p k c) n w4 HRD.out (by have := HLEN.out n rfl; omega)).mono ?_
  rintro e w5 ⟨rfl, hb⟩
  replace ST := Lib.hid (ST.out.below hb)
  replace HRD := Lib.hid (HRD.out.below hb)
  rw [HTP.out.1]
  obtain ⟨sb, hsb⟩ : ∃ b, decide (N < 0) = b := ⟨_, rfl⟩
  have HSB := Lib.hid hsb
  rw [hsb]
  clear hb hsb
  go_wp2_with fail
  have hbx := boxed w5 sb p k c
  have HGG := Lib.hid ST.out.2.2
  generalize w5.alloc (.cells #[.bool sb, .slice p k c, .slice none 0 0] 27) = w6 at *
  replace ST := Lib.hid (ST.out.below hbx.2.1)
  replace HRD := Lib.hid (HRD.out.below hbx.2.1)
  generalize w5.heap.size = g at *
  have HBX := Lib.hid (And.intro hbx.1 hbx.2.2)
  clear hbx
  refine (HNU.out w6).mono ?_
  rintro e w7 ⟨rfl, hb⟩
  replace ST := Lib.hid (ST.out.below hb)
  replace HRD := Lib.hid (HRD.out.below hb)
  replace HBX := Lib.hid (And.intro (HBX.out.1.below hb HBX.out.2) (Nat.lt_of_lt_of_le HBX.out.2 hb.size))
  clear hb HNU
  have hst_ := ST.out
  obtain ⟨⟨f1, f2⟩, ⟨f3, f4⟩, ⟨f5, f6⟩, f7⟩ := row3 hst_.1 (.bool false) (.slice none 0 0) (.slice none 0 0)
  have HBE := Lib.hid (hst_.fin (.bool false) (.slice none 0 0) (.slice none 0 0))
  have c0 := f7.cell 0
  have c1 := f7.cell 1
  have c2 := f7.cell 2
  simp only [List.getElem?_cons_zero, List.getElem?_cons_succ] at c0 c1 c2
  have HROW := Lib.hid hst_.1
  clear hst_ f7
  go_wp2
  refine bodyPost_ret (v := .tuple #[.agg #[.bool false, .slice none 0 0, .slice none 0 0], .int .i64 10]) (by simp [results, Tryz.results11, go_sem, c0, c1, c2]) rfl ?_
  refine ⟨.bool false, by rw [HH.out]; exact HBE.out, ?_⟩
  rw [HR.out]
  exact rfl
set_option maxRecDepth 100000 in
set_option maxHeartbeats 4000000 in
theorem par_under0_n (s : ByteArray) (l : List UInt8) (w : World) (hl : s.data.toList = l) (hs : l.length ≤ 41000) (h1 : isNumB (overS l) = true) (h2 : ¬ overS l = [48]) (h4 : divS l = true) (h5 : isNumB (underS l) = false) :
    Calls Tryz.prog 11 #[.string s] w (ParOut w (pp l)) := by
  obtain ⟨over, under, hc, hcut⟩ := cut_any2 l hs
  have HCUT := Lib.hid hcut
  have HPRE := Lib.hid (fun W => cutPrefix_go s W)
  rw [hl] at HPRE
  have HNO := Lib.hid (fun W => isNumber_go over W hc.os)
  rw [hc.o] at HNO
  have gs : ¬ ((41000 : Int) < (s.size : Int)) := by rw [sz_eq, hl]; omega
  have htl : over.toList = overS l := by rw [ByteArray.toList_eq, hc.o]
  have hol : (overS l).length ≤ 50000 := by rw [← hc.o, ← sz_eq]; exact hc.os
  have hnb : ¬ 41000 < l.length := by omega
  have hbo : badOver l = false := by unfold badOver; rw [h1]; rw [beq_eq_false_iff_ne.2 h2]; rfl
  have htp := top_sg l
  have HTP := Lib.hid htp
  have hlen := num_small h1 hol
  have HLEN := Lib.hid (fun m (e : m = numOf (overS l)) => show (limbs m).length ≤ 5600 by rw [e]; exact hlen)
  have HRN := Lib.hid (fun W => readNatural_go over W hc.os (by rw [hc.o]; exact isNumB_ne h1) (by rw [hc.o]; exact num_all h1))
  rw [hc.o] at HRN
  rw [h1] at HNO
  have utl : under.toList = underS l := by rw [ByteArray.toList_eq, hc.u h4]
  have hul : (underS l).length ≤ 50000 := by rw [← hc.u h4, ← sz_eq]; exact hc.us
  have HNU := Lib.hid (fun W => isNumber_go under W hc.us)
  rw [hc.u h4] at HNU
  rw [h4] at HCUT
  have HR : Hid (pp l = (10, 0, 0)) := by
    show _ = _
    unfold pp badUnder
    rw [if_neg hnb, hbo, if_neg (by decide), h4, if_pos rfl, if_pos (by rw [h5]; rfl)]
  rw [h5] at HNU
  have g48 : ¬ over.toList = [48] := by rw [htl]; exact h2
  generalize negS l = ng at *
  generalize numOf (overS l) = n at *
  generalize topS l = N at *
  clear hnb htl hol hc hcut hs hl h1 h2 hbo htp hlen  h4 h5 utl hul
  go_enter Tryz.func11, Tryz.ntmps11
  go_upto_region 1 with (fail)
  have hst := resB_new w
  generalize w.alloc (.cells #[.bool false, .slice none 0 0, .slice none 0 0] 27) = w0 at *
  obtain ⟨h, hh⟩ : ∃ h, w.heap.size = h := ⟨_, rfl⟩
  have HH := Lib.hid hh
  rw [hh] at hst ⊢
  have ST := Lib.hid hst
  clear hst hh
  go_wp2_with fail
  refine (HPRE.out w0).mono ?_
  rintro e w1 ⟨rfl, rfl⟩
  go_wp2_with fail
  refine (HCUT.out w1).mono ?_
  rintro e w2 ⟨rfl, hb⟩
  replace ST := Lib.hid (ST.out.below hb)
  clear hb
  go_wp2_with fail
  refine (HNO.out w2).mono ?_
  rintro e w3 ⟨rfl, hb⟩
  replace ST := Lib.hid (ST.out.below hb)
  clear hb HPRE HCUT HNO
  go_wp2_with fail
  refine (HRN.out w3).mono ?_
  rintro e w4 ⟨v4, rfl, ho, hb⟩
  have hrd := ho.rd
  obtain ⟨p, c, rfl, -⟩ := id hrd
  generalize (limbs n).length = k at *
  replace ST := Lib.hid (ST.out.below hb)
  have HRD := Lib.hid hrd
  clear hb ho hrd HRN
  go_wp2_with fail
  refine (signed_any ng (.slice p k c) n w4 HRD.out (by have := HLEN.out n rfl; omega)).mono ?_
  rintro e w5 ⟨rfl, hb⟩
  replace ST := Lib.hid (ST.out.below hb)
  replace HRD := Lib.hid (HRD.out.below hb)
  rw [HTP.out.1]
  obtain ⟨sb, hsb⟩ : ∃ b, decide (N < 0) = b := ⟨_, rfl⟩
  have HSB := Lib.hid hsb
  rw [hsb]
  clear hb hsb
  go_wp2_with fail
  have hbx := boxed w5 sb p k c
  have HGG := Lib.hid ST.out.2.2
  generalize w5.alloc (.cells #[.bool sb, .slice p k c, .slice none 0 0] 27) = w6 at *
  replace ST := Lib.hid (ST.out.below hbx.2.1)
  replace HRD := Lib.hid (HRD.out.below hbx.2.1)
  generalize w5.heap.size = g at *
  have HBX := Lib.hid (And.intro hbx.1 hbx.2.2)
  clear hbx
  refine (HNU.out w6).mono ?_
  rintro e w7 ⟨rfl, hb⟩
  replace ST := Lib.hid (ST.out.below hb)
  replace HRD := Lib.hid (HRD.out.below hb)
  replace HBX := Lib.hid (And.intro (HBX.out.1.below hb HBX.out.2) (Nat.lt_of_lt_of_le HBX.out.2 hb.size))
  clear hb HNU
  have hst_ := ST.out
  obtain ⟨⟨f1, f2⟩, ⟨f3, f4⟩, ⟨f5, f6⟩, f7⟩ := row3 hst_.1 (.bool false) (.slice none 0 0) (.slice none 0 0)
  have HBE := Lib.hid (hst_.fin (.bool false) (.slice none 0 0) (.slice none 0 0))
  have c0 := f7.cell 0
  have c1 := f7.cell 1
  have c2 := f7.cell 2
  simp only [List.getElem?_cons_zero, List.getElem?_cons_succ] at c0 c1 c2
  have HROW := Lib.hid hst_.1
  clear hst_ f7
  go_wp2
  refine bodyPost_ret (v := .tuple #[.agg #[.bool false, .slice none 0 0, .slice none 0 0], .int .i64 10]) (by simp [results, Tryz.results11, go_sem, c0, c1, c2]) rfl ?_
  refine ⟨.bool false, by rw [HH.out]; exact HBE.out, ?_⟩
  rw [HR.out]
  exact rfl
set_option maxRecDepth 100000 in
set_option maxHeartbeats 4000000 in
theorem par_under1_z (s : ByteArray) (l : List UInt8) (w : World) (hl : s.data.toList = l) (hs : l.length ≤ 41000) (h1 : isNumB (overS l) = true) (h2 : overS l = [48]) (h3 : negS l = false) (h4 : divS l = true) (h5 : isNumB (underS l) = true) (h6 : underS l = [48]) :
    Calls Tryz.prog 11 #[.string s] w (ParOut w (pp l)) := by
  obtain ⟨over, under, hc, hcut⟩ := cut_any2 l hs
  have HCUT := Lib.hid hcut
  have HPRE := Lib.hid (fun W => cutPrefix_go s W)
  rw [hl] at HPRE
  have HNO := Lib.hid (fun W => isNumber_go over W hc.os)
  rw [hc.o] at HNO
  have gs : ¬ ((41000 : Int) < (s.size : Int)) := by rw [sz_eq, hl]; omega
  have htl : over.toList = overS l := by rw [ByteArray.toList_eq, hc.o]
  have hol : (overS l).length ≤ 50000 := by rw [← hc.o, ← sz_eq]; exact hc.os
  have hnb : ¬ 41000 < l.length := by omega
  have hbo : badOver l = false := by unfold badOver; rw [h1]; rw [h2, h3]; rfl
  have htp := top_sg l
  have HTP := Lib.hid htp
  have hlen := num_small h1 hol
  have HLEN := Lib.hid (fun m (e : m = numOf (overS l)) => show (limbs m).length ≤ 5600 by rw [e]; exact hlen)
  have HRN := Lib.hid (fun W => readNatural_go over W hc.os (by rw [hc.o]; exact isNumB_ne h1) (by rw [hc.o]; exact num_all h1))
  rw [hc.o] at HRN
  rw [h1] at HNO
  have utl : under.toList = underS l := by rw [ByteArray.toList_eq, hc.u h4]
  have hul : (underS l).length ≤ 50000 := by rw [← hc.u h4, ← sz_eq]; exact hc.us
  have HNU := Lib.hid (fun W => isNumber_go under W hc.us)
  rw [hc.u h4] at HNU
  rw [h4] at HCUT
  have HR : Hid (pp l = (10, 0, 0)) := by
    show _ = _
    unfold pp badUnder
    rw [if_neg hnb, hbo, if_neg (by decide), h4, if_pos rfl, if_pos (by rw [h5, h6]; rfl)]
  rw [h5] at HNU
  have gu48 : under.toList = [48] := by rw [utl, h6]
  have g48 : over.toList = [48] := by rw [htl, h2]
  rw [h3] at HPRE HTP
  have gng := Lib.hid (rfl : false = false)
  generalize numOf (overS l) = n at *
  generalize topS l = N at *
  clear hnb htl hol hc hcut hs hl h1 h2 hbo htp hlen h3 h4 h5 h6 utl hul
  go_enter Tryz.func11, Tryz.ntmps11
  go_upto_region 1 with (fail)
  have hst := resB_new w
  generalize w.alloc (.cells #[.bool false, .slice none 0 0, .slice none 0 0] 27) = w0 at *
  obtain ⟨h, hh⟩ : ∃ h, w.heap.size = h := ⟨_, rfl⟩
  have HH := Lib.hid hh
  rw [hh] at hst ⊢
  have ST := Lib.hid hst
  clear hst hh
  go_wp2_with fail
  refine (HPRE.out w0).mono ?_
  rintro e w1 ⟨rfl, rfl⟩
  go_wp2_with fail
  refine (HCUT.out w1).mono ?_
  rintro e w2 ⟨rfl, hb⟩
  replace ST := Lib.hid (ST.out.below hb)
  clear hb
  go_wp2_with fail
  refine (HNO.out w2).mono ?_
  rintro e w3 ⟨rfl, hb⟩
  replace ST := Lib.hid (ST.out.below hb)
  clear hb HPRE HCUT HNO
  go_wp2_with fail
  refine (HRN.out w3).mono ?_
  rintro e w4 ⟨v4, rfl, ho, hb⟩
  have hrd := ho.rd
  obtain ⟨p, c, rfl, -⟩ := id hrd
  generalize (limbs n).length = k at *
  replace ST := Lib.hid (ST.out.below hb)
  have HRD := Lib.hid hrd
  clear hb ho hrd HRN
  go_wp2_with fail
  refine (signed_any false (.slice p k c) n w4 HRD.out (by have := HLEN.out n rfl; omega)).mono ?_
  rintro e w5 ⟨rfl, hb⟩
  replace ST := Lib.hid (ST.out.below hb)
  replace HRD := Lib.hid (HRD.out.below hb)
  rw [HTP.out.1]
  obtain ⟨sb, hsb⟩ : ∃ b, decide (N < 0) = b := ⟨_, rfl⟩
  have HSB := Lib.hid hsb
  rw [hsb]
  clear hb hsb
  go_wp2_with fail
  have hbx := boxed w5 sb p k c
  have HGG := Lib.hid ST.out.2.2
  generalize w5.alloc (.cells #[.bool sb, .slice p k c, .slice none 0 0] 27) = w6 at *
  replace ST := Lib.hid (ST.out.below hbx.2.1)
  replace HRD := Lib.hid (HRD.out.below hbx.2.1)
  generalize w5.heap.size = g at *
  have HBX := Lib.hid (And.intro hbx.1 hbx.2.2)
  clear hbx
  refine (HNU.out w6).mono ?_
  rintro e w7 ⟨rfl, hb⟩
  replace ST := Lib.hid (ST.out.below hb)
  replace HRD := Lib.hid (HRD.out.below hb)
  replace HBX := Lib.hid (And.intro (HBX.out.1.below hb HBX.out.2) (Nat.lt_of_lt_of_le HBX.out.2 hb.size))
  clear hb HNU
  have hst_ := ST.out
  obtain ⟨⟨f1, f2⟩, ⟨f3, f4⟩, ⟨f5, f6⟩, f7⟩ := row3 hst_.1 (.bool false) (.slice none 0 0) (.slice none 0 0)
  have HBE := Lib.hid (hst_.fin (.bool false) (.slice none 0 0) (.slice none 0 0))
  have c0 := f7.cell 0
  have c1 := f7.cell 1
  have c2 := f7.cell 2
  simp only [List.getElem?_cons_zero, List.getElem?_cons_succ] at c0 c1 c2
  have HROW := Lib.hid hst_.1
  clear hst_ f7
  go_wp2
  refine bodyPost_ret (v := .tuple #[.agg #[.bool false, .slice none 0 0, .slice none 0 0], .int .i64 10]) (by simp [results, Tryz.results11, go_sem, c0, c1, c2]) rfl ?_
  refine ⟨.bool false, by rw [HH.out]; exact HBE.out, ?_⟩
  rw [HR.out]
  exact rfl
set_option maxRecDepth 100000 in
set_option maxHeartbeats 4000000 in
theorem par_under1_n (s : ByteArray) (l : List UInt8) (w : World) (hl : s.data.toList = l) (hs : l.length ≤ 41000) (h1 : isNumB (overS l) = true) (h2 : ¬ overS l = [48]) (h4 : divS l = true) (h5 : isNumB (underS l) = true) (h6 : underS l = [48]) :
    Calls Tryz.prog 11 #[.string s] w (ParOut w (pp l)) := by
  obtain ⟨over, under, hc, hcut⟩ := cut_any2 l hs
  have HCUT := Lib.hid hcut
  have HPRE := Lib.hid (fun W => cutPrefix_go s W)
  rw [hl] at HPRE
  have HNO := Lib.hid (fun W => isNumber_go over W hc.os)
  rw [hc.o] at HNO
  have gs : ¬ ((41000 : Int) < (s.size : Int)) := by rw [sz_eq, hl]; omega
  have htl : over.toList = overS l := by rw [ByteArray.toList_eq, hc.o]
  have hol : (overS l).length ≤ 50000 := by rw [← hc.o, ← sz_eq]; exact hc.os
  have hnb : ¬ 41000 < l.length := by omega
  have hbo : badOver l = false := by unfold badOver; rw [h1]; rw [beq_eq_false_iff_ne.2 h2]; rfl
  have htp := top_sg l
  have HTP := Lib.hid htp
  have hlen := num_small h1 hol
  have HLEN := Lib.hid (fun m (e : m = numOf (overS l)) => show (limbs m).length ≤ 5600 by rw [e]; exact hlen)
  have HRN := Lib.hid (fun W => readNatural_go over W hc.os (by rw [hc.o]; exact isNumB_ne h1) (by rw [hc.o]; exact num_all h1))
  rw [hc.o] at HRN
  rw [h1] at HNO
  have utl : under.toList = underS l := by rw [ByteArray.toList_eq, hc.u h4]
  have hul : (underS l).length ≤ 50000 := by rw [← hc.u h4, ← sz_eq]; exact hc.us
  have HNU := Lib.hid (fun W => isNumber_go under W hc.us)
  rw [hc.u h4] at HNU
  rw [h4] at HCUT
  have HR : Hid (pp l = (10, 0, 0)) := by
    show _ = _
    unfold pp badUnder
    rw [if_neg hnb, hbo, if_neg (by decide), h4, if_pos rfl, if_pos (by rw [h5, h6]; rfl)]
  rw [h5] at HNU
  have gu48 : under.toList = [48] := by rw [utl, h6]
  have g48 : ¬ over.toList = [48] := by rw [htl]; exact h2
  generalize negS l = ng at *
  generalize numOf (overS l) = n at *
  generalize topS l = N at *
  clear hnb htl hol hc hcut hs hl h1 h2 hbo htp hlen  h4 h5 h6 utl hul
  go_enter Tryz.func11, Tryz.ntmps11
  go_upto_region 1 with (fail)
  have hst := resB_new w
  generalize w.alloc (.cells #[.bool false, .slice none 0 0, .slice none 0 0] 27) = w0 at *
  obtain ⟨h, hh⟩ : ∃ h, w.heap.size = h := ⟨_, rfl⟩
  have HH := Lib.hid hh
  rw [hh] at hst ⊢
  have ST := Lib.hid hst
  clear hst hh
  go_wp2_with fail
  refine (HPRE.out w0).mono ?_
  rintro e w1 ⟨rfl, rfl⟩
  go_wp2_with fail
  refine (HCUT.out w1).mono ?_
  rintro e w2 ⟨rfl, hb⟩
  replace ST := Lib.hid (ST.out.below hb)
  clear hb
  go_wp2_with fail
  refine (HNO.out w2).mono ?_
  rintro e w3 ⟨rfl, hb⟩
  replace ST := Lib.hid (ST.out.below hb)
  clear hb HPRE HCUT HNO
  go_wp2_with fail
  refine (HRN.out w3).mono ?_
  rintro e w4 ⟨v4, rfl, ho, hb⟩
  have hrd := ho.rd
  obtain ⟨p, c, rfl, -⟩ := id hrd
  generalize (limbs n).length = k at *
  replace ST := Lib.hid (ST.out.below hb)
  have HRD := Lib.hid hrd
  clear hb ho hrd HRN
  go_wp2_with fail
  refine (signed_any ng (.slice p k c) n w4 HRD.out (by have := HLEN.out n rfl; omega)).mono ?_
  rintro e w5 ⟨rfl, hb⟩
  replace ST := Lib.hid (ST.out.below hb)
  replace HRD := Lib.hid (HRD.out.below hb)
  rw [HTP.out.1]
  obtain ⟨sb, hsb⟩ : ∃ b, decide (N < 0) = b := ⟨_, rfl⟩
  have HSB := Lib.hid hsb
  rw [hsb]
  clear hb hsb
  go_wp2_with fail
  have hbx := boxed w5 sb p k c
  have HGG := Lib.hid ST.out.2.2
  generalize w5.alloc (.cells #[.bool sb, .slice p k c, .slice none 0 0] 27) = w6 at *
  replace ST := Lib.hid (ST.out.below hbx.2.1)
  replace HRD := Lib.hid (HRD.out.below hbx.2.1)
  generalize w5.heap.size = g at *
  have HBX := Lib.hid (And.intro hbx.1 hbx.2.2)
  clear hbx
  refine (HNU.out w6).mono ?_
  rintro e w7 ⟨rfl, hb⟩
  replace ST := Lib.hid (ST.out.below hb)
  replace HRD := Lib.hid (HRD.out.below hb)
  replace HBX := Lib.hid (And.intro (HBX.out.1.below hb HBX.out.2) (Nat.lt_of_lt_of_le HBX.out.2 hb.size))
  clear hb HNU
  have hst_ := ST.out
  obtain ⟨⟨f1, f2⟩, ⟨f3, f4⟩, ⟨f5, f6⟩, f7⟩ := row3 hst_.1 (.bool false) (.slice none 0 0) (.slice none 0 0)
  have HBE := Lib.hid (hst_.fin (.bool false) (.slice none 0 0) (.slice none 0 0))
  have c0 := f7.cell 0
  have c1 := f7.cell 1
  have c2 := f7.cell 2
  simp only [List.getElem?_cons_zero, List.getElem?_cons_succ] at c0 c1 c2
  have HROW := Lib.hid hst_.1
  clear hst_ f7
  go_wp2
  refine bodyPost_ret (v := .tuple #[.agg #[.bool false, .slice none 0 0, .slice none 0 0], .int .i64 10]) (by simp [results, Tryz.results11, go_sem, c0, c1, c2]) rfl ?_
  refine ⟨.bool false, by rw [HH.out]; exact HBE.out, ?_⟩
  rw [HR.out]
  exact rfl
set_option maxRecDepth 100000 in
set_option maxHeartbeats 4000000 in
theorem par_under2_z (s : ByteArray) (l : List UInt8) (w : World) (hl : s.data.toList = l) (hs : l.length ≤ 41000) (h1 : isNumB (overS l) = true) (h2 : overS l = [48]) (h3 : negS l = false) (h4 : divS l = true) (h5 : isNumB (underS l) = true) (h6 : underS l = [49]) :
    Calls Tryz.prog 11 #[.string s] w (ParOut w (pp l)) := by
  obtain ⟨over, under, hc, hcut⟩ := cut_any2 l hs
  have HCUT := Lib.hid hcut
  have HPRE := Lib.hid (fun W => cutPrefix_go s W)
  rw [hl] at HPRE
  have HNO := Lib.hid (fun W => isNumber_go over W hc.os)
  rw [hc.o] at HNO
  have gs : ¬ ((41000 : Int) < (s.size : Int)) := by rw [sz_eq, hl]; omega
  have htl : over.toList = overS l := by rw [ByteArray.toList_eq, hc.o]
  have hol : (overS l).length ≤ 50000 := by rw [← hc.o, ← sz_eq]; exact hc.os
  have hnb : ¬ 41000 < l.length := by omega
  have hbo : badOver l = false := by unfold badOver; rw [h1]; rw [h2, h3]; rfl
  have htp := top_sg l
  have HTP := Lib.hid htp
  have hlen := num_small h1 hol
  have HLEN := Lib.hid (fun m (e : m = numOf (overS l)) => show (limbs m).length ≤ 5600 by rw [e]; exact hlen)
  have HRN := Lib.hid (fun W => readNatural_go over W hc.os (by rw [hc.o]; exact isNumB_ne h1) (by rw [hc.o]; exact num_all h1))
  rw [hc.o] at HRN
  rw [h1] at HNO
  have utl : under.toList = underS l := by rw [ByteArray.toList_eq, hc.u h4]
  have hul : (underS l).length ≤ 50000 := by rw [← hc.u h4, ← sz_eq]; exact hc.us
  have HNU := Lib.hid (fun W => isNumber_go under W hc.us)
  rw [hc.u h4] at HNU
  rw [h4] at HCUT
  have HR : Hid (pp l = (10, 0, 0)) := by
    show _ = _
    unfold pp badUnder
    rw [if_neg hnb, hbo, if_neg (by decide), h4, if_pos rfl, if_pos (by rw [h5, h6]; rfl)]
  rw [h5] at HNU
  have gu48 : ¬ under.toList = [48] := by rw [utl, h6]; decide
  have gu49 : under.toList = [49] := by rw [utl, h6]
  have g48 : over.toList = [48] := by rw [htl, h2]
  rw [h3] at HPRE HTP
  have gng := Lib.hid (rfl : false = false)
  generalize numOf (overS l) = n at *
  generalize topS l = N at *
  clear hnb htl hol hc hcut hs hl h1 h2 hbo htp hlen h3 h4 h5 h6 utl hul
  go_enter Tryz.func11, Tryz.ntmps11
  go_upto_region 1 with (fail)
  have hst := resB_new w
  generalize w.alloc (.cells #[.bool false, .slice none 0 0, .slice none 0 0] 27) = w0 at *
  obtain ⟨h, hh⟩ : ∃ h, w.heap.size = h := ⟨_, rfl⟩
  have HH := Lib.hid hh
  rw [hh] at hst ⊢
  have ST := Lib.hid hst
  clear hst hh
  go_wp2_with fail
  refine (HPRE.out w0).mono ?_
  rintro e w1 ⟨rfl, rfl⟩
  go_wp2_with fail
  refine (HCUT.out w1).mono ?_
  rintro e w2 ⟨rfl, hb⟩
  replace ST := Lib.hid (ST.out.below hb)
  clear hb
  go_wp2_with fail
  refine (HNO.out w2).mono ?_
  rintro e w3 ⟨rfl, hb⟩
  replace ST := Lib.hid (ST.out.below hb)
  clear hb HPRE HCUT HNO
  go_wp2_with fail
  refine (HRN.out w3).mono ?_
  rintro e w4 ⟨v4, rfl, ho, hb⟩
  have hrd := ho.rd
  obtain ⟨p, c, rfl, -⟩ := id hrd
  generalize (limbs n).length = k at *
  replace ST := Lib.hid (ST.out.below hb)
  have HRD := Lib.hid hrd
  clear hb ho hrd HRN
  go_wp2_with fail
  refine (signed_any false (.slice p k c) n w4 HRD.out (by have := HLEN.out n rfl; omega)).mono ?_
  rintro e w5 ⟨rfl, hb⟩
  replace ST := Lib.hid (ST.out.below hb)
  replace HRD := Lib.hid (HRD.out.below hb)
  rw [HTP.out.1]
  obtain ⟨sb, hsb⟩ : ∃ b, decide (N < 0) = b := ⟨_, rfl⟩
  have HSB := Lib.hid hsb
  rw [hsb]
  clear hb hsb
  go_wp2_with fail
  have hbx := boxed w5 sb p k c
  have HGG := Lib.hid ST.out.2.2
  generalize w5.alloc (.cells #[.bool sb, .slice p k c, .slice none 0 0] 27) = w6 at *
  replace ST := Lib.hid (ST.out.below hbx.2.1)
  replace HRD := Lib.hid (HRD.out.below hbx.2.1)
  generalize w5.heap.size = g at *
  have HBX := Lib.hid (And.intro hbx.1 hbx.2.2)
  clear hbx
  refine (HNU.out w6).mono ?_
  rintro e w7 ⟨rfl, hb⟩
  replace ST := Lib.hid (ST.out.below hb)
  replace HRD := Lib.hid (HRD.out.below hb)
  replace HBX := Lib.hid (And.intro (HBX.out.1.below hb HBX.out.2) (Nat.lt_of_lt_of_le HBX.out.2 hb.size))
  clear hb HNU
  have hst_ := ST.out
  obtain ⟨⟨f1, f2⟩, ⟨f3, f4⟩, ⟨f5, f6⟩, f7⟩ := row3 hst_.1 (.bool false) (.slice none 0 0) (.slice none 0 0)
  have HBE := Lib.hid (hst_.fin (.bool false) (.slice none 0 0) (.slice none 0 0))
  have c0 := f7.cell 0
  have c1 := f7.cell 1
  have c2 := f7.cell 2
  simp only [List.getElem?_cons_zero, List.getElem?_cons_succ] at c0 c1 c2
  have HROW := Lib.hid hst_.1
  clear hst_ f7
  go_wp2
  refine bodyPost_ret (v := .tuple #[.agg #[.bool false, .slice none 0 0, .slice none 0 0], .int .i64 10]) (by simp [results, Tryz.results11, go_sem, c0, c1, c2]) rfl ?_
  refine ⟨.bool false, by rw [HH.out]; exact HBE.out, ?_⟩
  rw [HR.out]
  exact rfl
set_option maxRecDepth 100000 in
set_option maxHeartbeats 4000000 in
theorem par_under2_n (s : ByteArray) (l : List UInt8) (w : World) (hl : s.data.toList = l) (hs : l.length ≤ 41000) (h1 : isNumB (overS l) = true) (h2 : ¬ overS l = [48]) (h4 : divS l = true) (h5 : isNumB (underS l) = true) (h6 : underS l = [49]) :
    Calls Tryz.prog 11 #[.string s] w (ParOut w (pp l)) := by
  obtain ⟨over, under, hc, hcut⟩ := cut_any2 l hs
  have HCUT := Lib.hid hcut
  have HPRE := Lib.hid (fun W => cutPrefix_go s W)
  rw [hl] at HPRE
  have HNO := Lib.hid (fun W => isNumber_go over W hc.os)
  rw [hc.o] at HNO
  have gs : ¬ ((41000 : Int) < (s.size : Int)) := by rw [sz_eq, hl]; omega
  have htl : over.toList = overS l := by rw [ByteArray.toList_eq, hc.o]
  have hol : (overS l).length ≤ 50000 := by rw [← hc.o, ← sz_eq]; exact hc.os
  have hnb : ¬ 41000 < l.length := by omega
  have hbo : badOver l = false := by unfold badOver; rw [h1]; rw [beq_eq_false_iff_ne.2 h2]; rfl
  have htp := top_sg l
  have HTP := Lib.hid htp
  have hlen := num_small h1 hol
  have HLEN := Lib.hid (fun m (e : m = numOf (overS l)) => show (limbs m).length ≤ 5600 by rw [e]; exact hlen)
  have HRN := Lib.hid (fun W => readNatural_go over W hc.os (by rw [hc.o]; exact isNumB_ne h1) (by rw [hc.o]; exact num_all h1))
  rw [hc.o] at HRN
  rw [h1] at HNO
  have utl : under.toList = underS l := by rw [ByteArray.toList_eq, hc.u h4]
  have hul : (underS l).length ≤ 50000 := by rw [← hc.u h4, ← sz_eq]; exact hc.us
  have HNU := Lib.hid (fun W => isNumber_go under W hc.us)
  rw [hc.u h4] at HNU
  rw [h4] at HCUT
  have HR : Hid (pp l = (10, 0, 0)) := by
    show _ = _
    unfold pp badUnder
    rw [if_neg hnb, hbo, if_neg (by decide), h4, if_pos rfl, if_pos (by rw [h5, h6]; rfl)]
  rw [h5] at HNU
  have gu48 : ¬ under.toList = [48] := by rw [utl, h6]; decide
  have gu49 : under.toList = [49] := by rw [utl, h6]
  have g48 : ¬ over.toList = [48] := by rw [htl]; exact h2
  generalize negS l = ng at *
  generalize numOf (overS l) = n at *
  generalize topS l = N at *
  clear hnb htl hol hc hcut hs hl h1 h2 hbo htp hlen  h4 h5 h6 utl hul
  go_enter Tryz.func11, Tryz.ntmps11
  go_upto_region 1 with (fail)
  have hst := resB_new w
  generalize w.alloc (.cells #[.bool false, .slice none 0 0, .slice none 0 0] 27) = w0 at *
  obtain ⟨h, hh⟩ : ∃ h, w.heap.size = h := ⟨_, rfl⟩
  have HH := Lib.hid hh
  rw [hh] at hst ⊢
  have ST := Lib.hid hst
  clear hst hh
  go_wp2_with fail
  refine (HPRE.out w0).mono ?_
  rintro e w1 ⟨rfl, rfl⟩
  go_wp2_with fail
  refine (HCUT.out w1).mono ?_
  rintro e w2 ⟨rfl, hb⟩
  replace ST := Lib.hid (ST.out.below hb)
  clear hb
  go_wp2_with fail
  refine (HNO.out w2).mono ?_
  rintro e w3 ⟨rfl, hb⟩
  replace ST := Lib.hid (ST.out.below hb)
  clear hb HPRE HCUT HNO
  go_wp2_with fail
  refine (HRN.out w3).mono ?_
  rintro e w4 ⟨v4, rfl, ho, hb⟩
  have hrd := ho.rd
  obtain ⟨p, c, rfl, -⟩ := id hrd
  generalize (limbs n).length = k at *
  replace ST := Lib.hid (ST.out.below hb)
  have HRD := Lib.hid hrd
  clear hb ho hrd HRN
  go_wp2_with fail
  refine (signed_any ng (.slice p k c) n w4 HRD.out (by have := HLEN.out n rfl; omega)).mono ?_
  rintro e w5 ⟨rfl, hb⟩
  replace ST := Lib.hid (ST.out.below hb)
  replace HRD := Lib.hid (HRD.out.below hb)
  rw [HTP.out.1]
  obtain ⟨sb, hsb⟩ : ∃ b, decide (N < 0) = b := ⟨_, rfl⟩
  have HSB := Lib.hid hsb
  rw [hsb]
  clear hb hsb
  go_wp2_with fail
  have hbx := boxed w5 sb p k c
  have HGG := Lib.hid ST.out.2.2
  generalize w5.alloc (.cells #[.bool sb, .slice p k c, .slice none 0 0] 27) = w6 at *
  replace ST := Lib.hid (ST.out.below hbx.2.1)
  replace HRD := Lib.hid (HRD.out.below hbx.2.1)
  generalize w5.heap.size = g at *
  have HBX := Lib.hid (And.intro hbx.1 hbx.2.2)
  clear hbx
  refine (HNU.out w6).mono ?_
  rintro e w7 ⟨rfl, hb⟩
  replace ST := Lib.hid (ST.out.below hb)
  replace HRD := Lib.hid (HRD.out.below hb)
  replace HBX := Lib.hid (And.intro (HBX.out.1.below hb HBX.out.2) (Nat.lt_of_lt_of_le HBX.out.2 hb.size))
  clear hb HNU
  have hst_ := ST.out
  obtain ⟨⟨f1, f2⟩, ⟨f3, f4⟩, ⟨f5, f6⟩, f7⟩ := row3 hst_.1 (.bool false) (.slice none 0 0) (.slice none 0 0)
  have HBE := Lib.hid (hst_.fin (.bool false) (.slice none 0 0) (.slice none 0 0))
  have c0 := f7.cell 0
  have c1 := f7.cell 1
  have c2 := f7.cell 2
  simp only [List.getElem?_cons_zero, List.getElem?_cons_succ] at c0 c1 c2
  have HROW := Lib.hid hst_.1
  clear hst_ f7
  go_wp2
  refine bodyPost_ret (v := .tuple #[.agg #[.bool false, .slice none 0 0, .slice none 0 0], .int .i64 10]) (by simp [results, Tryz.results11, go_sem, c0, c1, c2]) rfl ?_
  refine ⟨.bool false, by rw [HH.out]; exact HBE.out, ?_⟩
  rw [HR.out]
  exact rfl
set_option maxRecDepth 100000 in
set_option maxHeartbeats 4000000 in
theorem par_gcd_z (s : ByteArray) (l : List UInt8) (w : World) (hl : s.data.toList = l) (hs : l.length ≤ 41000) (h1 : isNumB (overS l) = true) (h2 : overS l = [48]) (h3 : negS l = false) (h4 : divS l = true) (h5 : isNumB (underS l) = true) (h6 : ¬ underS l = [48]) (h7 : ¬ underS l = [49]) (h8 : Nat.gcd (numOf (overS l)) (numOf (underS l)) ≠ 1) :
    Calls Tryz.prog 11 #[.string s] w (ParOut w (pp l)) := by
  obtain ⟨over, under, hc, hcut⟩ := cut_any2 l hs
  have HCUT := Lib.hid hcut
  have HPRE := Lib.hid (fun W => cutPrefix_go s W)
  rw [hl] at HPRE
  have HNO := Lib.hid (fun W => isNumber_go over W hc.os)
  rw [hc.o] at HNO
  have gs : ¬ ((41000 : Int) < (s.size : Int)) := by rw [sz_eq, hl]; omega
  have htl : over.toList = overS l := by rw [ByteArray.toList_eq, hc.o]
  have hol : (overS l).length ≤ 50000 := by rw [← hc.o, ← sz_eq]; exact hc.os
  have hnb : ¬ 41000 < l.length := by omega
  have hbo : badOver l = false := by unfold badOver; rw [h1]; rw [h2, h3]; rfl
  have htp := top_sg l
  have HTP := Lib.hid htp
  have hlen := num_small h1 hol
  have HLEN := Lib.hid (fun m (e : m = numOf (overS l)) => show (limbs m).length ≤ 5600 by rw [e]; exact hlen)
  have HRN := Lib.hid (fun W => readNatural_go over W hc.os (by rw [hc.o]; exact isNumB_ne h1) (by rw [hc.o]; exact num_all h1))
  rw [hc.o] at HRN
  rw [h1] at HNO
  have utl : under.toList = underS l := by rw [ByteArray.toList_eq, hc.u h4]
  have hul : (underS l).length ≤ 50000 := by rw [← hc.u h4, ← sz_eq]; exact hc.us
  have HNU := Lib.hid (fun W => isNumber_go under W hc.us)
  rw [hc.u h4] at HNU
  rw [h4] at HCUT
  have gu48 : ¬ under.toList = [48] := by rw [utl]; exact h6
  have gu49 : ¬ under.toList = [49] := by rw [utl]; exact h7
  have gub49 : (under.toList == [49]) = false := beq_eq_false_iff_ne.2 gu49
  have gub48 : (under.toList == [48]) = false := beq_eq_false_iff_ne.2 gu48
  rw [h5] at HNU
  have HRU := Lib.hid (fun W => readNatural_go under W hc.us (by rw [hc.u h4]; exact isNumB_ne h5) (by rw [hc.u h4]; exact num_all h5))
  rw [hc.u h4] at HRU
  have hbu : badUnder l = false := by unfold badUnder; rw [h5, beq_eq_false_iff_ne.2 h6, beq_eq_false_iff_ne.2 h7]; rfl
  have hd2 : 2 ≤ numOf (underS l) := by
    have h0 := (numOf_small h5).1
    have h1 := (numOf_small h5).2
    have e0 : numOf (underS l) ≠ 0 := fun e => h6 (h0.1 e)
    have e1 : numOf (underS l) ≠ 1 := fun e => h7 (h1.1 e)
    omega
  have HD2 := Lib.hid hd2
  have hlen2 := num_small h5 hul
  have HLD := Lib.hid (fun m (e : m = numOf (underS l)) => show (limbs m).length ≤ 5600 by rw [e]; exact hlen2)
  have HLG := Lib.hid (fun m (e : m = Nat.gcd (numOf (overS l)) (numOf (underS l))) => show (limbs m).length ≤ 5600 by rw [e]; exact gcd_len _ _ 5600 (by omega) hlen2)
  have HONE : Hid (oneB (Nat.gcd (numOf (overS l)) (numOf (underS l))) = false) := by show _ = _; unfold oneB; simpa using h8
  have HR : Hid (pp l = (10, 0, 0)) := by
    show _ = _
    unfold pp
    rw [if_neg hnb, hbo, if_neg (by decide), h4, if_pos rfl, hbu, if_neg (by decide), if_pos h8]
  generalize numOf (underS l) = d at *
  have g48 : over.toList = [48] := by rw [htl, h2]
  rw [h3] at HPRE HTP
  have gng := Lib.hid (rfl : false = false)
  generalize numOf (overS l) = n at *
  generalize topS l = N at *
  clear hnb htl hol hc hcut hs hl h1 h2 hbo htp hlen h3 h4 h5 h6 h7 utl hul hbu hd2 hlen2 h8
  go_enter Tryz.func11, Tryz.ntmps11
  go_upto_region 1 with (fail)
  have hst := resB_new w
  generalize w.alloc (.cells #[.bool false, .slice none 0 0, .slice none 0 0] 27) = w0 at *
  obtain ⟨h, hh⟩ : ∃ h, w.heap.size = h := ⟨_, rfl⟩
  have HH := Lib.hid hh
  rw [hh] at hst ⊢
  have ST := Lib.hid hst
  clear hst hh
  go_wp2_with fail
  refine (HPRE.out w0).mono ?_
  rintro e w1 ⟨rfl, rfl⟩
  go_wp2_with fail
  refine (HCUT.out w1).mono ?_
  rintro e w2 ⟨rfl, hb⟩
  replace ST := Lib.hid (ST.out.below hb)
  clear hb
  go_wp2_with fail
  refine (HNO.out w2).mono ?_
  rintro e w3 ⟨rfl, hb⟩
  replace ST := Lib.hid (ST.out.below hb)
  clear hb HPRE HCUT HNO
  go_wp2_with fail
  refine (HRN.out w3).mono ?_
  rintro e w4 ⟨v4, rfl, ho, hb⟩
  have hrd := ho.rd
  obtain ⟨p, c, rfl, -⟩ := id hrd
  generalize (limbs n).length = k at *
  replace ST := Lib.hid (ST.out.below hb)
  have HRD := Lib.hid hrd
  clear hb ho hrd HRN
  go_wp2_with fail
  refine (signed_any false (.slice p k c) n w4 HRD.out (by have := HLEN.out n rfl; omega)).mono ?_
  rintro e w5 ⟨rfl, hb⟩
  replace ST := Lib.hid (ST.out.below hb)
  replace HRD := Lib.hid (HRD.out.below hb)
  rw [HTP.out.1]
  obtain ⟨sb, hsb⟩ : ∃ b, decide (N < 0) = b := ⟨_, rfl⟩
  have HSB := Lib.hid hsb
  rw [hsb]
  clear hb hsb
  go_wp2_with fail
  have hbx := boxed w5 sb p k c
  have HGG := Lib.hid ST.out.2.2
  generalize w5.alloc (.cells #[.bool sb, .slice p k c, .slice none 0 0] 27) = w6 at *
  replace ST := Lib.hid (ST.out.below hbx.2.1)
  replace HRD := Lib.hid (HRD.out.below hbx.2.1)
  generalize w5.heap.size = g at *
  have HBX := Lib.hid (And.intro hbx.1 hbx.2.2)
  clear hbx
  refine (HNU.out w6).mono ?_
  rintro e w7 ⟨rfl, hb⟩
  replace ST := Lib.hid (ST.out.below hb)
  replace HRD := Lib.hid (HRD.out.below hb)
  replace HBX := Lib.hid (And.intro (HBX.out.1.below hb HBX.out.2) (Nat.lt_of_lt_of_le HBX.out.2 hb.size))
  clear hb HNU
  go_wp2_with fail
  refine (HRU.out w7).mono ?_
  rintro e w8 ⟨v8, rfl, ho, hb⟩
  have hrl := ho.rd
  obtain ⟨p2, cp2, rfl, -⟩ := id hrl
  generalize (limbs d).length = k2 at *
  replace ST := Lib.hid (ST.out.below hb)
  replace HRD := Lib.hid (HRD.out.below hb)
  have hx := HBX.out.1.below hb HBX.out.2
  have a1 := hx.cell 2
  have a2 := hx.free 2
  have hx2 := hx.store 2 (.slice p2 k2 cp2)
  have hno : ∀ x ∈ [Value.bool sb, .slice p k c, .slice none 0 0], NoInt x := by
    intro x hx; simp at hx; rcases hx with rfl | rfl | rfl
    · exact noInt_bool _
    · exact noInt_slice _ _ _
    · exact noInt_slice _ _ _
  replace HRD := Lib.hid (rd_put HRD.out hx hno 2 (.slice p2 k2 cp2))
  have HRL := Lib.hid (rd_put hrl hx hno 2 (.slice p2 k2 cp2))
  replace ST := Lib.hid (ST.out.put HGG.out 2 (.slice p2 k2 cp2))
  have b1 := hx2.cell 1
  have b2 := hx2.cell 2
  simp at a1 b1 b2
  replace HBX := Lib.hid hx2
  clear hb ho hrl HRU hx hx2 hno
  go_wp2_with fail
  refine (gcd_any (.slice p k c) (.slice p2 k2 cp2) n d _ HRD.out HRL.out (by have := HLEN.out n rfl; omega) (by have := HLD.out d rfl; omega)).mono ?_
  rintro e w11 ⟨v11, rfl, ho, hb⟩
  have hrg := ho.rd
  obtain ⟨p3, cp3, rfl, -⟩ := id hrg
  have HG3 := Lib.hid hrg
  have hx3 := HBX.out
  simp only [List.set_cons_succ, List.set_cons_zero] at hx3
  replace ST := Lib.hid (ST.out.below hb)
  replace HRD := Lib.hid (HRD.out.below hb)
  replace HRL := Lib.hid (HRL.out.below hb)
  replace HBX := Lib.hid (And.intro (hx3.below hb hx3.lt) (Nat.lt_of_lt_of_le hx3.lt hb.size))
  clear hb ho hrg hx3 a1 a2 b1 b2
  go_wp2_with fail
  refine (isOne_any _ (Nat.gcd n d) w11 HG3.out (by have := HLG.out _ rfl; omega)).mono ?_
  rw [HONE.out]
  rintro e w12 ⟨rfl, hw⟩
  subst hw
  clear HG3 HLG HONE
  have hst_ := ST.out
  obtain ⟨⟨f1, f2⟩, ⟨f3, f4⟩, ⟨f5, f6⟩, f7⟩ := row3 hst_.1 (.bool false) (.slice none 0 0) (.slice none 0 0)
  have HBE := Lib.hid (hst_.fin (.bool false) (.slice none 0 0) (.slice none 0 0))
  have c0 := f7.cell 0
  have c1 := f7.cell 1
  have c2 := f7.cell 2
  simp only [List.getElem?_cons_zero, List.getElem?_cons_succ] at c0 c1 c2
  have HROW := Lib.hid hst_.1
  clear hst_ f7
  go_wp2
  refine bodyPost_ret (v := .tuple #[.agg #[.bool false, .slice none 0 0, .slice none 0 0], .int .i64 10]) (by simp [results, Tryz.results11, go_sem, c0, c1, c2]) rfl ?_
  refine ⟨.bool false, by rw [HH.out]; exact HBE.out, ?_⟩
  rw [HR.out]
  exact rfl
set_option maxRecDepth 100000 in
set_option maxHeartbeats 4000000 in
theorem par_gcd_n (s : ByteArray) (l : List UInt8) (w : World) (hl : s.data.toList = l) (hs : l.length ≤ 41000) (h1 : isNumB (overS l) = true) (h2 : ¬ overS l = [48]) (h4 : divS l = true) (h5 : isNumB (underS l) = true) (h6 : ¬ underS l = [48]) (h7 : ¬ underS l = [49]) (h8 : Nat.gcd (numOf (overS l)) (numOf (underS l)) ≠ 1) :
    Calls Tryz.prog 11 #[.string s] w (ParOut w (pp l)) := by
  obtain ⟨over, under, hc, hcut⟩ := cut_any2 l hs
  have HCUT := Lib.hid hcut
  have HPRE := Lib.hid (fun W => cutPrefix_go s W)
  rw [hl] at HPRE
  have HNO := Lib.hid (fun W => isNumber_go over W hc.os)
  rw [hc.o] at HNO
  have gs : ¬ ((41000 : Int) < (s.size : Int)) := by rw [sz_eq, hl]; omega
  have htl : over.toList = overS l := by rw [ByteArray.toList_eq, hc.o]
  have hol : (overS l).length ≤ 50000 := by rw [← hc.o, ← sz_eq]; exact hc.os
  have hnb : ¬ 41000 < l.length := by omega
  have hbo : badOver l = false := by unfold badOver; rw [h1]; rw [beq_eq_false_iff_ne.2 h2]; rfl
  have htp := top_sg l
  have HTP := Lib.hid htp
  have hlen := num_small h1 hol
  have HLEN := Lib.hid (fun m (e : m = numOf (overS l)) => show (limbs m).length ≤ 5600 by rw [e]; exact hlen)
  have HRN := Lib.hid (fun W => readNatural_go over W hc.os (by rw [hc.o]; exact isNumB_ne h1) (by rw [hc.o]; exact num_all h1))
  rw [hc.o] at HRN
  rw [h1] at HNO
  have utl : under.toList = underS l := by rw [ByteArray.toList_eq, hc.u h4]
  have hul : (underS l).length ≤ 50000 := by rw [← hc.u h4, ← sz_eq]; exact hc.us
  have HNU := Lib.hid (fun W => isNumber_go under W hc.us)
  rw [hc.u h4] at HNU
  rw [h4] at HCUT
  have gu48 : ¬ under.toList = [48] := by rw [utl]; exact h6
  have gu49 : ¬ under.toList = [49] := by rw [utl]; exact h7
  have gub49 : (under.toList == [49]) = false := beq_eq_false_iff_ne.2 gu49
  have gub48 : (under.toList == [48]) = false := beq_eq_false_iff_ne.2 gu48
  rw [h5] at HNU
  have HRU := Lib.hid (fun W => readNatural_go under W hc.us (by rw [hc.u h4]; exact isNumB_ne h5) (by rw [hc.u h4]; exact num_all h5))
  rw [hc.u h4] at HRU
  have hbu : badUnder l = false := by unfold badUnder; rw [h5, beq_eq_false_iff_ne.2 h6, beq_eq_false_iff_ne.2 h7]; rfl
  have hd2 : 2 ≤ numOf (underS l) := by
    have h0 := (numOf_small h5).1
    have h1 := (numOf_small h5).2
    have e0 : numOf (underS l) ≠ 0 := fun e => h6 (h0.1 e)
    have e1 : numOf (underS l) ≠ 1 := fun e => h7 (h1.1 e)
    omega
  have HD2 := Lib.hid hd2
  have hlen2 := num_small h5 hul
  have HLD := Lib.hid (fun m (e : m = numOf (underS l)) => show (limbs m).length ≤ 5600 by rw [e]; exact hlen2)
  have HLG := Lib.hid (fun m (e : m = Nat.gcd (numOf (overS l)) (numOf (underS l))) => show (limbs m).length ≤ 5600 by rw [e]; exact gcd_len _ _ 5600 (by omega) hlen2)
  have HONE : Hid (oneB (Nat.gcd (numOf (overS l)) (numOf (underS l))) = false) := by show _ = _; unfold oneB; simpa using h8
  have HR : Hid (pp l = (10, 0, 0)) := by
    show _ = _
    unfold pp
    rw [if_neg hnb, hbo, if_neg (by decide), h4, if_pos rfl, hbu, if_neg (by decide), if_pos h8]
  generalize numOf (underS l) = d at *
  have g48 : ¬ over.toList = [48] := by rw [htl]; exact h2
  generalize negS l = ng at *
  generalize numOf (overS l) = n at *
  generalize topS l = N at *
  clear hnb htl hol hc hcut hs hl h1 h2 hbo htp hlen  h4 h5 h6 h7 utl hul hbu hd2 hlen2 h8
  go_enter Tryz.func11, Tryz.ntmps11
  go_upto_region 1 with (fail)
  have hst := resB_new w
  generalize w.alloc (.cells #[.bool false, .slice none 0 0, .slice none 0 0] 27) = w0 at *
  obtain ⟨h, hh⟩ : ∃ h, w.heap.size = h := ⟨_, rfl⟩
  have HH := Lib.hid hh
  rw [hh] at hst ⊢
  have ST := Lib.hid hst
  clear hst hh
  go_wp2_with fail
  refine (HPRE.out w0).mono ?_
  rintro e w1 ⟨rfl, rfl⟩
  go_wp2_with fail
  refine (HCUT.out w1).mono ?_
  rintro e w2 ⟨rfl, hb⟩
  replace ST := Lib.hid (ST.out.below hb)
  clear hb
  go_wp2_with fail
  refine (HNO.out w2).mono ?_
  rintro e w3 ⟨rfl, hb⟩
  replace ST := Lib.hid (ST.out.below hb)
  clear hb HPRE HCUT HNO
  go_wp2_with fail
  refine (HRN.out w3).mono ?_
  rintro e w4 ⟨v4, rfl, ho, hb⟩
  have hrd := ho.rd
  obtain ⟨p, c, rfl, -⟩ := id hrd
  generalize (limbs n).length = k at *
  replace ST := Lib.hid (ST.out.below hb)
  have HRD := Lib.hid hrd
  clear hb ho hrd HRN
  go_wp2_with fail
  refine (signed_any ng (.slice p k c) n w4 HRD.out (by have := HLEN.out n rfl; omega)).mono ?_
  rintro e w5 ⟨rfl, hb⟩
  replace ST := Lib.hid (ST.out.below hb)
  replace HRD := Lib.hid (HRD.out.below hb)
  rw [HTP.out.1]
  obtain ⟨sb, hsb⟩ : ∃ b, decide (N < 0) = b := ⟨_, rfl⟩
  have HSB := Lib.hid hsb
  rw [hsb]
  clear hb hsb
  go_wp2_with fail
  have hbx := boxed w5 sb p k c
  have HGG := Lib.hid ST.out.2.2
  generalize w5.alloc (.cells #[.bool sb, .slice p k c, .slice none 0 0] 27) = w6 at *
  replace ST := Lib.hid (ST.out.below hbx.2.1)
  replace HRD := Lib.hid (HRD.out.below hbx.2.1)
  generalize w5.heap.size = g at *
  have HBX := Lib.hid (And.intro hbx.1 hbx.2.2)
  clear hbx
  refine (HNU.out w6).mono ?_
  rintro e w7 ⟨rfl, hb⟩
  replace ST := Lib.hid (ST.out.below hb)
  replace HRD := Lib.hid (HRD.out.below hb)
  replace HBX := Lib.hid (And.intro (HBX.out.1.below hb HBX.out.2) (Nat.lt_of_lt_of_le HBX.out.2 hb.size))
  clear hb HNU
  go_wp2_with fail
  refine (HRU.out w7).mono ?_
  rintro e w8 ⟨v8, rfl, ho, hb⟩
  have hrl := ho.rd
  obtain ⟨p2, cp2, rfl, -⟩ := id hrl
  generalize (limbs d).length = k2 at *
  replace ST := Lib.hid (ST.out.below hb)
  replace HRD := Lib.hid (HRD.out.below hb)
  have hx := HBX.out.1.below hb HBX.out.2
  have a1 := hx.cell 2
  have a2 := hx.free 2
  have hx2 := hx.store 2 (.slice p2 k2 cp2)
  have hno : ∀ x ∈ [Value.bool sb, .slice p k c, .slice none 0 0], NoInt x := by
    intro x hx; simp at hx; rcases hx with rfl | rfl | rfl
    · exact noInt_bool _
    · exact noInt_slice _ _ _
    · exact noInt_slice _ _ _
  replace HRD := Lib.hid (rd_put HRD.out hx hno 2 (.slice p2 k2 cp2))
  have HRL := Lib.hid (rd_put hrl hx hno 2 (.slice p2 k2 cp2))
  replace ST := Lib.hid (ST.out.put HGG.out 2 (.slice p2 k2 cp2))
  have b1 := hx2.cell 1
  have b2 := hx2.cell 2
  simp at a1 b1 b2
  replace HBX := Lib.hid hx2
  clear hb ho hrl HRU hx hx2 hno
  go_wp2_with fail
  refine (gcd_any (.slice p k c) (.slice p2 k2 cp2) n d _ HRD.out HRL.out (by have := HLEN.out n rfl; omega) (by have := HLD.out d rfl; omega)).mono ?_
  rintro e w11 ⟨v11, rfl, ho, hb⟩
  have hrg := ho.rd
  obtain ⟨p3, cp3, rfl, -⟩ := id hrg
  have HG3 := Lib.hid hrg
  have hx3 := HBX.out
  simp only [List.set_cons_succ, List.set_cons_zero] at hx3
  replace ST := Lib.hid (ST.out.below hb)
  replace HRD := Lib.hid (HRD.out.below hb)
  replace HRL := Lib.hid (HRL.out.below hb)
  replace HBX := Lib.hid (And.intro (hx3.below hb hx3.lt) (Nat.lt_of_lt_of_le hx3.lt hb.size))
  clear hb ho hrg hx3 a1 a2 b1 b2
  go_wp2_with fail
  refine (isOne_any _ (Nat.gcd n d) w11 HG3.out (by have := HLG.out _ rfl; omega)).mono ?_
  rw [HONE.out]
  rintro e w12 ⟨rfl, hw⟩
  subst hw
  clear HG3 HLG HONE
  have hst_ := ST.out
  obtain ⟨⟨f1, f2⟩, ⟨f3, f4⟩, ⟨f5, f6⟩, f7⟩ := row3 hst_.1 (.bool false) (.slice none 0 0) (.slice none 0 0)
  have HBE := Lib.hid (hst_.fin (.bool false) (.slice none 0 0) (.slice none 0 0))
  have c0 := f7.cell 0
  have c1 := f7.cell 1
  have c2 := f7.cell 2
  simp only [List.getElem?_cons_zero, List.getElem?_cons_succ] at c0 c1 c2
  have HROW := Lib.hid hst_.1
  clear hst_ f7
  go_wp2
  refine bodyPost_ret (v := .tuple #[.agg #[.bool false, .slice none 0 0, .slice none 0 0], .int .i64 10]) (by simp [results, Tryz.results11, go_sem, c0, c1, c2]) rfl ?_
  refine ⟨.bool false, by rw [HH.out]; exact HBE.out, ?_⟩
  rw [HR.out]
  exact rfl
set_option maxRecDepth 100000 in
set_option maxHeartbeats 4000000 in
theorem par_ok_z (s : ByteArray) (l : List UInt8) (w : World) (hl : s.data.toList = l) (hs : l.length ≤ 41000) (h1 : isNumB (overS l) = true) (h2 : overS l = [48]) (h3 : negS l = false) (h4 : divS l = true) (h5 : isNumB (underS l) = true) (h6 : ¬ underS l = [48]) (h7 : ¬ underS l = [49]) (h8 : Nat.gcd (numOf (overS l)) (numOf (underS l)) = 1) :
    Calls Tryz.prog 11 #[.string s] w (ParOut w (pp l)) := by
  obtain ⟨over, under, hc, hcut⟩ := cut_any2 l hs
  have HCUT := Lib.hid hcut
  have HPRE := Lib.hid (fun W => cutPrefix_go s W)
  rw [hl] at HPRE
  have HNO := Lib.hid (fun W => isNumber_go over W hc.os)
  rw [hc.o] at HNO
  have gs : ¬ ((41000 : Int) < (s.size : Int)) := by rw [sz_eq, hl]; omega
  have htl : over.toList = overS l := by rw [ByteArray.toList_eq, hc.o]
  have hol : (overS l).length ≤ 50000 := by rw [← hc.o, ← sz_eq]; exact hc.os
  have hnb : ¬ 41000 < l.length := by omega
  have hbo : badOver l = false := by unfold badOver; rw [h1]; rw [h2, h3]; rfl
  have htp := top_sg l
  have HTP := Lib.hid htp
  have hlen := num_small h1 hol
  have HLEN := Lib.hid (fun m (e : m = numOf (overS l)) => show (limbs m).length ≤ 5600 by rw [e]; exact hlen)
  have HRN := Lib.hid (fun W => readNatural_go over W hc.os (by rw [hc.o]; exact isNumB_ne h1) (by rw [hc.o]; exact num_all h1))
  rw [hc.o] at HRN
  rw [h1] at HNO
  have utl : under.toList = underS l := by rw [ByteArray.toList_eq, hc.u h4]
  have hul : (underS l).length ≤ 50000 := by rw [← hc.u h4, ← sz_eq]; exact hc.us
  have HNU := Lib.hid (fun W => isNumber_go under W hc.us)
  rw [hc.u h4] at HNU
  rw [h4] at HCUT
  have gu48 : ¬ under.toList = [48] := by rw [utl]; exact h6
  have gu49 : ¬ under.toList = [49] := by rw [utl]; exact h7
  have gub49 : (under.toList == [49]) = false := beq_eq_false_iff_ne.2 gu49
  have gub48 : (under.toList == [48]) = false := beq_eq_false_iff_ne.2 gu48
  rw [h5] at HNU
  have HRU := Lib.hid (fun W => readNatural_go under W hc.us (by rw [hc.u h4]; exact isNumB_ne h5) (by rw [hc.u h4]; exact num_all h5))
  rw [hc.u h4] at HRU
  have hbu : badUnder l = false := by unfold badUnder; rw [h5, beq_eq_false_iff_ne.2 h6, beq_eq_false_iff_ne.2 h7]; rfl
  have hd2 : 2 ≤ numOf (underS l) := by
    have h0 := (numOf_small h5).1
    have h1 := (numOf_small h5).2
    have e0 : numOf (underS l) ≠ 0 := fun e => h6 (h0.1 e)
    have e1 : numOf (underS l) ≠ 1 := fun e => h7 (h1.1 e)
    omega
  have HD2 := Lib.hid hd2
  have hlen2 := num_small h5 hul
  have HLD := Lib.hid (fun m (e : m = numOf (underS l)) => show (limbs m).length ≤ 5600 by rw [e]; exact hlen2)
  have HLG := Lib.hid (fun m (e : m = Nat.gcd (numOf (overS l)) (numOf (underS l))) => show (limbs m).length ≤ 5600 by rw [e]; exact gcd_len _ _ 5600 (by omega) hlen2)
  have HONE : Hid (oneB (Nat.gcd (numOf (overS l)) (numOf (underS l))) = true) := by show _ = _; unfold oneB; simpa using h8
  have HR : Hid (pp l = smallQ (topS l) ((numOf (underS l) : Nat) : Int)) := by
    show _ = _
    unfold pp
    rw [if_neg hnb, hbo, if_neg (by decide), h4, if_pos rfl, hbu, if_neg (by decide), if_neg (by rw [h8]; decide)]
  generalize numOf (underS l) = d at *
  have g48 : over.toList = [48] := by rw [htl, h2]
  rw [h3] at HPRE HTP
  have gng := Lib.hid (rfl : false = false)
  generalize numOf (overS l) = n at *
  generalize topS l = N at *
  clear hnb htl hol hc hcut hs hl h1 h2 hbo htp hlen h3 h4 h5 h6 h7 utl hul hbu hd2 hlen2 h8
  go_enter Tryz.func11, Tryz.ntmps11
  go_upto_region 1 with (fail)
  have hst := resB_new w
  generalize w.alloc (.cells #[.bool false, .slice none 0 0, .slice none 0 0] 27) = w0 at *
  obtain ⟨h, hh⟩ : ∃ h, w.heap.size = h := ⟨_, rfl⟩
  have HH := Lib.hid hh
  rw [hh] at hst ⊢
  have ST := Lib.hid hst
  clear hst hh
  go_wp2_with fail
  refine (HPRE.out w0).mono ?_
  rintro e w1 ⟨rfl, rfl⟩
  go_wp2_with fail
  refine (HCUT.out w1).mono ?_
  rintro e w2 ⟨rfl, hb⟩
  replace ST := Lib.hid (ST.out.below hb)
  clear hb
  go_wp2_with fail
  refine (HNO.out w2).mono ?_
  rintro e w3 ⟨rfl, hb⟩
  replace ST := Lib.hid (ST.out.below hb)
  clear hb HPRE HCUT HNO
  go_wp2_with fail
  refine (HRN.out w3).mono ?_
  rintro e w4 ⟨v4, rfl, ho, hb⟩
  have hrd := ho.rd
  obtain ⟨p, c, rfl, -⟩ := id hrd
  generalize (limbs n).length = k at *
  replace ST := Lib.hid (ST.out.below hb)
  have HRD := Lib.hid hrd
  clear hb ho hrd HRN
  go_wp2_with fail
  refine (signed_any false (.slice p k c) n w4 HRD.out (by have := HLEN.out n rfl; omega)).mono ?_
  rintro e w5 ⟨rfl, hb⟩
  replace ST := Lib.hid (ST.out.below hb)
  replace HRD := Lib.hid (HRD.out.below hb)
  rw [HTP.out.1]
  obtain ⟨sb, hsb⟩ : ∃ b, decide (N < 0) = b := ⟨_, rfl⟩
  have HSB := Lib.hid hsb
  rw [hsb]
  clear hb hsb
  go_wp2_with fail
  have hbx := boxed w5 sb p k c
  have HGG := Lib.hid ST.out.2.2
  generalize w5.alloc (.cells #[.bool sb, .slice p k c, .slice none 0 0] 27) = w6 at *
  replace ST := Lib.hid (ST.out.below hbx.2.1)
  replace HRD := Lib.hid (HRD.out.below hbx.2.1)
  generalize w5.heap.size = g at *
  have HBX := Lib.hid (And.intro hbx.1 hbx.2.2)
  clear hbx
  refine (HNU.out w6).mono ?_
  rintro e w7 ⟨rfl, hb⟩
  replace ST := Lib.hid (ST.out.below hb)
  replace HRD := Lib.hid (HRD.out.below hb)
  replace HBX := Lib.hid (And.intro (HBX.out.1.below hb HBX.out.2) (Nat.lt_of_lt_of_le HBX.out.2 hb.size))
  clear hb HNU
  go_wp2_with fail
  refine (HRU.out w7).mono ?_
  rintro e w8 ⟨v8, rfl, ho, hb⟩
  have hrl := ho.rd
  obtain ⟨p2, cp2, rfl, -⟩ := id hrl
  generalize (limbs d).length = k2 at *
  replace ST := Lib.hid (ST.out.below hb)
  replace HRD := Lib.hid (HRD.out.below hb)
  have hx := HBX.out.1.below hb HBX.out.2
  have a1 := hx.cell 2
  have a2 := hx.free 2
  have hx2 := hx.store 2 (.slice p2 k2 cp2)
  have hno : ∀ x ∈ [Value.bool sb, .slice p k c, .slice none 0 0], NoInt x := by
    intro x hx; simp at hx; rcases hx with rfl | rfl | rfl
    · exact noInt_bool _
    · exact noInt_slice _ _ _
    · exact noInt_slice _ _ _
  replace HRD := Lib.hid (rd_put HRD.out hx hno 2 (.slice p2 k2 cp2))
  have HRL := Lib.hid (rd_put hrl hx hno 2 (.slice p2 k2 cp2))
  replace ST := Lib.hid (ST.out.put HGG.out 2 (.slice p2 k2 cp2))
  have b1 := hx2.cell 1
  have b2 := hx2.cell 2
  simp at a1 b1 b2
  replace HBX := Lib.hid hx2
  clear hb ho hrl HRU hx hx2 hno
  go_wp2_with fail
  refine (gcd_any (.slice p k c) (.slice p2 k2 cp2) n d _ HRD.out HRL.out (by have := HLEN.out n rfl; omega) (by have := HLD.out d rfl; omega)).mono ?_
  rintro e w11 ⟨v11, rfl, ho, hb⟩
  have hrg := ho.rd
  obtain ⟨p3, cp3, rfl, -⟩ := id hrg
  have HG3 := Lib.hid hrg
  have hx3 := HBX.out
  simp only [List.set_cons_succ, List.set_cons_zero] at hx3
  replace ST := Lib.hid (ST.out.below hb)
  replace HRD := Lib.hid (HRD.out.below hb)
  replace HRL := Lib.hid (HRL.out.below hb)
  replace HBX := Lib.hid (And.intro (hx3.below hb hx3.lt) (Nat.lt_of_lt_of_le hx3.lt hb.size))
  clear hb ho hrg hx3 a1 a2 b1 b2
  go_wp2_with fail
  refine (isOne_any _ (Nat.gcd n d) w11 HG3.out (by have := HLG.out _ rfl; omega)).mono ?_
  rw [HONE.out]
  rintro e w12 ⟨rfl, hw⟩
  subst hw
  clear HG3 HLG HONE
  go_wp2_with fail
  have HATT := Lib.hid (attempt_parse g N d w11 ⟨sb, p, k, c, p2, k2, cp2, HBX.out.1, ⟨p, k, c, _, by rw [HSB.out], by rw [HTP.out.2]; exact HRD.out, .inr ⟨HD2.out, HRL.out⟩⟩⟩ HBX.out.2 (by rw [HTP.out.2]; have := HLEN.out n rfl; omega) (by have := HLD.out d rfl; omega))
  refine HATT.out.mono ?_
  rintro e w9 ⟨b, p1, k1, cp1, q1, m1, x1, rfl, hb, hv⟩
  replace ST := Lib.hid (ST.out.below hb)
  have HV := Lib.hid hv
  obtain ⟨S, hS⟩ : ∃ S, smallQ N ((d : Nat) : Int) = S := ⟨_, rfl⟩
  rw [hS] at HV HR ⊢
  clear hb hv hS HATT
  have hst_ := ST.out
  obtain ⟨⟨f1, f2⟩, ⟨f3, f4⟩, ⟨f5, f6⟩, f7⟩ := row3 hst_.1 (.bool b) (.slice p1 k1 cp1) (.slice q1 m1 x1)
  have HBE := Lib.hid (hst_.fin (.bool b) (.slice p1 k1 cp1) (.slice q1 m1 x1))
  have c0 := f7.cell 0
  have c1 := f7.cell 1
  have c2 := f7.cell 2
  simp only [List.getElem?_cons_zero, List.getElem?_cons_succ] at c0 c1 c2
  have HROW := Lib.hid hst_.1
  clear hst_ f7
  go_wp2
  refine bodyPost_ret (v := .tuple #[.agg #[.bool b, .slice p1 k1 cp1, .slice q1 m1 x1], .int .i64 (S.1 : Nat)]) (by simp [results, Tryz.results11, go_sem, c0, c1, c2]) rfl ?_
  rw [HR.out]
  refine ⟨.agg #[.bool b, .slice p1 k1 cp1, .slice q1 m1 x1], by rw [HH.out]; exact HBE.out, ?_⟩
  have hv_ := HV.out
  by_cases h0 : S.1 = 0
  · rw [if_pos h0] at hv_ ⊢
    rw [h0]
    exact ⟨rfl, hv_.put3 HROW.out (noInt_bool _) (noInt_slice _ _ _) (noInt_slice _ _ _) _ _ _ (noInt_bool _) (noInt_slice _ _ _)⟩
  · rw [if_neg h0] at hv_ ⊢
    rw [hv_]
set_option maxRecDepth 100000 in
set_option maxHeartbeats 4000000 in
theorem par_ok_n (s : ByteArray) (l : List UInt8) (w : World) (hl : s.data.toList = l) (hs : l.length ≤ 41000) (h1 : isNumB (overS l) = true) (h2 : ¬ overS l = [48]) (h4 : divS l = true) (h5 : isNumB (underS l) = true) (h6 : ¬ underS l = [48]) (h7 : ¬ underS l = [49]) (h8 : Nat.gcd (numOf (overS l)) (numOf (underS l)) = 1) :
    Calls Tryz.prog 11 #[.string s] w (ParOut w (pp l)) := by
  obtain ⟨over, under, hc, hcut⟩ := cut_any2 l hs
  have HCUT := Lib.hid hcut
  have HPRE := Lib.hid (fun W => cutPrefix_go s W)
  rw [hl] at HPRE
  have HNO := Lib.hid (fun W => isNumber_go over W hc.os)
  rw [hc.o] at HNO
  have gs : ¬ ((41000 : Int) < (s.size : Int)) := by rw [sz_eq, hl]; omega
  have htl : over.toList = overS l := by rw [ByteArray.toList_eq, hc.o]
  have hol : (overS l).length ≤ 50000 := by rw [← hc.o, ← sz_eq]; exact hc.os
  have hnb : ¬ 41000 < l.length := by omega
  have hbo : badOver l = false := by unfold badOver; rw [h1]; rw [beq_eq_false_iff_ne.2 h2]; rfl
  have htp := top_sg l
  have HTP := Lib.hid htp
  have hlen := num_small h1 hol
  have HLEN := Lib.hid (fun m (e : m = numOf (overS l)) => show (limbs m).length ≤ 5600 by rw [e]; exact hlen)
  have HRN := Lib.hid (fun W => readNatural_go over W hc.os (by rw [hc.o]; exact isNumB_ne h1) (by rw [hc.o]; exact num_all h1))
  rw [hc.o] at HRN
  rw [h1] at HNO
  have utl : under.toList = underS l := by rw [ByteArray.toList_eq, hc.u h4]
  have hul : (underS l).length ≤ 50000 := by rw [← hc.u h4, ← sz_eq]; exact hc.us
  have HNU := Lib.hid (fun W => isNumber_go under W hc.us)
  rw [hc.u h4] at HNU
  rw [h4] at HCUT
  have gu48 : ¬ under.toList = [48] := by rw [utl]; exact h6
  have gu49 : ¬ under.toList = [49] := by rw [utl]; exact h7
  have gub49 : (under.toList == [49]) = false := beq_eq_false_iff_ne.2 gu49
  have gub48 : (under.toList == [48]) = false := beq_eq_false_iff_ne.2 gu48
  rw [h5] at HNU
  have HRU := Lib.hid (fun W => readNatural_go under W hc.us (by rw [hc.u h4]; exact isNumB_ne h5) (by rw [hc.u h4]; exact num_all h5))
  rw [hc.u h4] at HRU
  have hbu : badUnder l = false := by unfold badUnder; rw [h5, beq_eq_false_iff_ne.2 h6, beq_eq_false_iff_ne.2 h7]; rfl
  have hd2 : 2 ≤ numOf (underS l) := by
    have h0 := (numOf_small h5).1
    have h1 := (numOf_small h5).2
    have e0 : numOf (underS l) ≠ 0 := fun e => h6 (h0.1 e)
    have e1 : numOf (underS l) ≠ 1 := fun e => h7 (h1.1 e)
    omega
  have HD2 := Lib.hid hd2
  have hlen2 := num_small h5 hul
  have HLD := Lib.hid (fun m (e : m = numOf (underS l)) => show (limbs m).length ≤ 5600 by rw [e]; exact hlen2)
  have HLG := Lib.hid (fun m (e : m = Nat.gcd (numOf (overS l)) (numOf (underS l))) => show (limbs m).length ≤ 5600 by rw [e]; exact gcd_len _ _ 5600 (by omega) hlen2)
  have HONE : Hid (oneB (Nat.gcd (numOf (overS l)) (numOf (underS l))) = true) := by show _ = _; unfold oneB; simpa using h8
  have HR : Hid (pp l = smallQ (topS l) ((numOf (underS l) : Nat) : Int)) := by
    show _ = _
    unfold pp
    rw [if_neg hnb, hbo, if_neg (by decide), h4, if_pos rfl, hbu, if_neg (by decide), if_neg (by rw [h8]; decide)]
  generalize numOf (underS l) = d at *
  have g48 : ¬ over.toList = [48] := by rw [htl]; exact h2
  generalize negS l = ng at *
  generalize numOf (overS l) = n at *
  generalize topS l = N at *
  clear hnb htl hol hc hcut hs hl h1 h2 hbo htp hlen  h4 h5 h6 h7 utl hul hbu hd2 hlen2 h8
  go_enter Tryz.func11, Tryz.ntmps11
  go_upto_region 1 with (fail)
  have hst := resB_new w
  generalize w.alloc (.cells #[.bool false, .slice none 0 0, .slice none 0 0] 27) = w0 at *
  obtain ⟨h, hh⟩ : ∃ h, w.heap.size = h := ⟨_, rfl⟩
  have HH := Lib.hid hh
  rw [hh] at hst ⊢
  have ST := Lib.hid hst
  clear hst hh
  go_wp2_with fail
  refine (HPRE.out w0).mono ?_
  rintro e w1 ⟨rfl, rfl⟩
  go_wp2_with fail
  refine (HCUT.out w1).mono ?_
  rintro e w2 ⟨rfl, hb⟩
  replace ST := Lib.hid (ST.out.below hb)
  clear hb
  go_wp2_with fail
  refine (HNO.out w2).mono ?_
  rintro e w3 ⟨rfl, hb⟩
  replace ST := Lib.hid (ST.out.below hb)
  clear hb HPRE HCUT HNO
  go_wp2_with fail
  refine (HRN.out w3).mono ?_
  rintro e w4 ⟨v4, rfl, ho, hb⟩
  have hrd := ho.rd
  obtain ⟨p, c, rfl, -⟩ := id hrd
  generalize (limbs n).length = k at *
  replace ST := Lib.hid (ST.out.below hb)
  have HRD := Lib.hid hrd
  clear hb ho hrd HRN
  go_wp2_with fail
  refine (signed_any ng (.slice p k c) n w4 HRD.out (by have := HLEN.out n rfl; omega)).mono ?_
  rintro e w5 ⟨rfl, hb⟩
  replace ST := Lib.hid (ST.out.below hb)
  replace HRD := Lib.hid (HRD.out.below hb)
  rw [HTP.out.1]
  obtain ⟨sb, hsb⟩ : ∃ b, decide (N < 0) = b := ⟨_, rfl⟩
  have HSB := Lib.hid hsb
  rw [hsb]
  clear hb hsb
  go_wp2_with fail
  have hbx := boxed w5 sb p k c
  have HGG := Lib.hid ST.out.2.2
  generalize w5.alloc (.cells #[.bool sb, .slice p k c, .slice none 0 0] 27) = w6 at *
  replace ST := Lib.hid (ST.out.below hbx.2.1)
  replace HRD := Lib.hid (HRD.out.below hbx.2.1)
  generalize w5.heap.size = g at *
  have HBX := Lib.hid (And.intro hbx.1 hbx.2.2)
  clear hbx
  refine (HNU.out w6).mono ?_
  rintro e w7 ⟨rfl, hb⟩
  replace ST := Lib.hid (ST.out.below hb)
  replace HRD := Lib.hid (HRD.out.below hb)
  replace HBX := Lib.hid (And.intro (HBX.out.1.below hb HBX.out.2) (Nat.lt_of_lt_of_le HBX.out.2 hb.size))
  clear hb HNU
  go_wp2_with fail
  refine (HRU.out w7).mono ?_
  rintro e w8 ⟨v8, rfl, ho, hb⟩
  have hrl := ho.rd
  obtain ⟨p2, cp2, rfl, -⟩ := id hrl
  generalize (limbs d).length = k2 at *
  replace ST := Lib.hid (ST.out.below hb)
  replace HRD := Lib.hid (HRD.out.below hb)
  have hx := HBX.out.1.below hb HBX.out.2
  have a1 := hx.cell 2
  have a2 := hx.free 2
  have hx2 := hx.store 2 (.slice p2 k2 cp2)
  have hno : ∀ x ∈ [Value.bool sb, .slice p k c, .slice none 0 0], NoInt x := by
    intro x hx; simp at hx; rcases hx with rfl | rfl | rfl
    · exact noInt_bool _
    · exact noInt_slice _ _ _
    · exact noInt_slice _ _ _
  replace HRD := Lib.hid (rd_put HRD.out hx hno 2 (.slice p2 k2 cp2))
  have HRL := Lib.hid (rd_put hrl hx hno 2 (.slice p2 k2 cp2))
  replace ST := Lib.hid (ST.out.put HGG.out 2 (.slice p2 k2 cp2))
  have b1 := hx2.cell 1
  have b2 := hx2.cell 2
  simp at a1 b1 b2
  replace HBX := Lib.hid hx2
  clear hb ho hrl HRU hx hx2 hno
  go_wp2_with fail
  refine (gcd_any (.slice p k c) (.slice p2 k2 cp2) n d _ HRD.out HRL.out (by have := HLEN.out n rfl; omega) (by have := HLD.out d rfl; omega)).mono ?_
  rintro e w11 ⟨v11, rfl, ho, hb⟩
  have hrg := ho.rd
  obtain ⟨p3, cp3, rfl, -⟩ := id hrg
  have HG3 := Lib.hid hrg
  have hx3 := HBX.out
  simp only [List.set_cons_succ, List.set_cons_zero] at hx3
  replace ST := Lib.hid (ST.out.below hb)
  replace HRD := Lib.hid (HRD.out.below hb)
  replace HRL := Lib.hid (HRL.out.below hb)
  replace HBX := Lib.hid (And.intro (hx3.below hb hx3.lt) (Nat.lt_of_lt_of_le hx3.lt hb.size))
  clear hb ho hrg hx3 a1 a2 b1 b2
  go_wp2_with fail
  refine (isOne_any _ (Nat.gcd n d) w11 HG3.out (by have := HLG.out _ rfl; omega)).mono ?_
  rw [HONE.out]
  rintro e w12 ⟨rfl, hw⟩
  subst hw
  clear HG3 HLG HONE
  go_wp2_with fail
  have HATT := Lib.hid (attempt_parse g N d w11 ⟨sb, p, k, c, p2, k2, cp2, HBX.out.1, ⟨p, k, c, _, by rw [HSB.out], by rw [HTP.out.2]; exact HRD.out, .inr ⟨HD2.out, HRL.out⟩⟩⟩ HBX.out.2 (by rw [HTP.out.2]; have := HLEN.out n rfl; omega) (by have := HLD.out d rfl; omega))
  refine HATT.out.mono ?_
  rintro e w9 ⟨b, p1, k1, cp1, q1, m1, x1, rfl, hb, hv⟩
  replace ST := Lib.hid (ST.out.below hb)
  have HV := Lib.hid hv
  obtain ⟨S, hS⟩ : ∃ S, smallQ N ((d : Nat) : Int) = S := ⟨_, rfl⟩
  rw [hS] at HV HR ⊢
  clear hb hv hS HATT
  have hst_ := ST.out
  obtain ⟨⟨f1, f2⟩, ⟨f3, f4⟩, ⟨f5, f6⟩, f7⟩ := row3 hst_.1 (.bool b) (.slice p1 k1 cp1) (.slice q1 m1 x1)
  have HBE := Lib.hid (hst_.fin (.bool b) (.slice p1 k1 cp1) (.slice q1 m1 x1))
  have c0 := f7.cell 0
  have c1 := f7.cell 1
  have c2 := f7.cell 2
  simp only [List.getElem?_cons_zero, List.getElem?_cons_succ] at c0 c1 c2
  have HROW := Lib.hid hst_.1
  clear hst_ f7
  go_wp2
  refine bodyPost_ret (v := .tuple #[.agg #[.bool b, .slice p1 k1 cp1, .slice q1 m1 x1], .int .i64 (S.1 : Nat)]) (by simp [results, Tryz.results11, go_sem, c0, c1, c2]) rfl ?_
  rw [HR.out]
  refine ⟨.agg #[.bool b, .slice p1 k1 cp1, .slice q1 m1 x1], by rw [HH.out]; exact HBE.out, ?_⟩
  have hv_ := HV.out
  by_cases h0 : S.1 = 0
  · rw [if_pos h0] at hv_ ⊢
    rw [h0]
    exact ⟨rfl, hv_.put3 HROW.out (noInt_bool _) (noInt_slice _ _ _) (noInt_slice _ _ _) _ _ _ (noInt_bool _) (noInt_slice _ _ _)⟩
  · rw [if_neg h0] at hv_ ⊢
    rw [hv_]
/-- Parse is the reference's way to read, with the same refusals -/
theorem progParse_go (s : ByteArray) (w : World) : Calls Tryz.prog 11 #[.string s] w (ParOut w (pq s.data.toList)) := by
  obtain ⟨l, hl⟩ : ∃ l, s.data.toList = l := ⟨_, rfl⟩
  rw [hl, ← pp_eq]
  by_cases hs : l.length ≤ 41000
  · cases h1 : isNumB (overS l) with
    | false => exact par_over s l w hl hs h1
    | true =>
      by_cases h2 : overS l = [48]
      · cases h3 : negS l with
        | true => exact par_minus s l w hl hs h1 h2 h3
        | false =>
          cases h4 : divS l with
          | false => exact par_whole_z s l w hl hs h1 h2 h3 h4
          | true =>
            cases h5 : isNumB (underS l) with
            | false => exact par_under0_z s l w hl hs h1 h2 h3 h4 h5
            | true =>
              by_cases h6 : underS l = [48]
              · exact par_under1_z s l w hl hs h1 h2 h3 h4 h5 h6
              · by_cases h7 : underS l = [49]
                · exact par_under2_z s l w hl hs h1 h2 h3 h4 h5 h7
                · by_cases h8 : Nat.gcd (numOf (overS l)) (numOf (underS l)) = 1
                  · exact par_ok_z s l w hl hs h1 h2 h3 h4 h5 h6 h7 h8
                  · exact par_gcd_z s l w hl hs h1 h2 h3 h4 h5 h6 h7 h8
      · cases h4 : divS l with
        | false => exact par_whole_n s l w hl hs h1 h2 h4
        | true =>
          cases h5 : isNumB (underS l) with
          | false => exact par_under0_n s l w hl hs h1 h2 h4 h5
          | true =>
            by_cases h6 : underS l = [48]
            · exact par_under1_n s l w hl hs h1 h2 h4 h5 h6
            · by_cases h7 : underS l = [49]
              · exact par_under2_n s l w hl hs h1 h2 h4 h5 h7
              · by_cases h8 : Nat.gcd (numOf (overS l)) (numOf (underS l)) = 1
                · exact par_ok_n s l w hl hs h1 h2 h4 h5 h6 h7 h8
                · exact par_gcd_n s l w hl hs h1 h2 h4 h5 h6 h7 h8
  · exact par_long s l w hl hs
end Go.Proofs.YtmhmkhdgpfhnfaaGreatDoor.Ref
