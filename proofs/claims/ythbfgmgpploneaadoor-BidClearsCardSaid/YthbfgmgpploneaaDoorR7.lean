/- The program's take: the best bundle of a set, for one more bidder. -/
import Derived.Test.YthbfgmgpploneaaDoorR5
import Derived.Test.YthbfgmgpploneaaDoorQK
set_option linter.unusedVariables false
set_option linter.unusedSimpArgs false
set_option linter.unnecessarySimpa false
namespace Go.Proofs.YthbfgmgpploneaaDoor
open Go.RowKit Go.Shelf
attribute [local go_sem] Oper.semAt_some

/-- what a bundle makes -/
def wOf (b t : List Int) (set s : Nat) : Int := b.getD s 0 + t.getD (sans set s) 0
def better (b t : List Int) (set : Nat) (c : Int × Nat) (s : Nat) : Int × Nat := if c.1 < wOf b t set s then (wOf b t set s, s) else c
def takeF (b t : List Int) (set : Nat) (l : List Nat) : Int × Nat := l.foldl (better b t set) (0, 0)
theorem takeF_snoc (b t : List Int) (set : Nat) (l : List Nat) (s : Nat) : takeF b t set (l ++ [s]) = better b t set (takeF b t set l) s := by simp [takeF]
/-- the best choice -/
def takeP (b t : List Int) (set : Nat) : Int × Nat := (bestTo b t true set (set + 1), firstSub b t (bestTo b t true set (set + 1)) set)
theorem takeF_to (b t : List Int) (set : Nat) (k : Nat) :
    (takeF b t set ((List.range k).filter fun s => sans s set == 0)).1 = bestTo b t true set k ∧
    ((bestTo b t true set k = 0 ∧ (takeF b t set ((List.range k).filter fun s => sans s set == 0)).2 = 0) ∨
      ∃ a, (takeF b t set ((List.range k).filter fun s => sans s set == 0)).2 = a ∧ a < k ∧ sans a set = 0 ∧ wOf b t set a = bestTo b t true set k ∧ ∀ u, u < a → sans u set = 0 → wOf b t set u < bestTo b t true set k) ∧
    ∀ u, u < k → sans u set = 0 → wOf b t set u ≤ bestTo b t true set k := by
  induction k with
  | zero => exact ⟨rfl, Or.inl ⟨rfl, rfl⟩, fun u hu => by omega⟩
  | succ k ih =>
    obtain ⟨h1, h2, h3⟩ := ih
    rw [List.range_succ, List.filter_append]
    by_cases hs : sans k set = 0
    · have e : List.filter (fun s => sans s set == 0) [k] = [k] := by simp [hs]
      rw [e, takeF_snoc]
      have hb : bestTo b t true set (k + 1) = max (bestTo b t true set k) (wOf b t set k) := by
        simp only [bestTo]; rw [if_pos ⟨hs, Or.inr trivial⟩]; rfl
      unfold better
      rw [h1]
      by_cases hg : bestTo b t true set k < wOf b t set k
      · rw [if_pos hg]
        have hm : bestTo b t true set (k + 1) = wOf b t set k := by rw [hb]; omega
        refine ⟨hm.symm, Or.inr ⟨k, rfl, by omega, hs, hm.symm, fun u hu hus => ?_⟩, fun u hu hus => ?_⟩
        · have := h3 u hu hus; omega
        · rcases Nat.lt_or_ge u k with g | g
          · have := h3 u g hus; omega
          · obtain rfl : u = k := by omega
            omega
      · rw [if_neg hg]
        have hm : bestTo b t true set (k + 1) = bestTo b t true set k := by rw [hb]; omega
        rw [hm]
        refine ⟨h1, ?_, fun u hu hus => ?_⟩
        · rcases h2 with g | ⟨a, g1, g2, g3, g4, g5⟩
          · exact Or.inl g
          · exact Or.inr ⟨a, g1, by omega, g3, g4, g5⟩
        · rcases Nat.lt_or_ge u k with g | g
          · exact h3 u g hus
          · obtain rfl : u = k := by omega
            omega
    · have e : List.filter (fun s => sans s set == 0) [k] = [] := by simp [hs]
      rw [e, List.append_nil]
      have hm : bestTo b t true set (k + 1) = bestTo b t true set k := by
        simp only [bestTo]; rw [if_neg (fun h => hs h.1)]
      rw [hm]
      refine ⟨h1, ?_, fun u hu hus => ?_⟩
      · rcases h2 with g | ⟨a, g1, g2, g3, g4, g5⟩
        · exact Or.inl g
        · exact Or.inr ⟨a, g1, by omega, g3, g4, g5⟩
      · rcases Nat.lt_or_ge u k with g | g
        · exact h3 u g hus
        · obtain rfl : u = k := by omega
          exact absurd hus hs
theorem takeF_eq {b t : List Int} {set : Nat} (h0 : 0 ≤ wOf b t set 0) : takeF b t set (subs set) = takeP b t set := by
  obtain ⟨h1, h2, h3⟩ := takeF_to b t set (set + 1)
  have e : subs set = (List.range (set + 1)).filter fun s => sans s set == 0 := rfl
  rw [e]
  refine Prod.ext h1 ?_
  show _ = firstSub b t (bestTo b t true set (set + 1)) set
  have hz := h3 0 (by omega) (zero_sans set)
  rcases h2 with ⟨g1, g2⟩ | ⟨a, g1, g2, g3, g4, g5⟩
  · rw [g2]
    refine (firstSub_eq ?_ fun u hu => by omega).symm
    unfold hits
    rw [zero_sans]
    simp only [BEq.rfl, Bool.true_and, beq_iff_eq]
    show wOf b t set 0 = _
    omega
  · rw [g1]
    refine (firstSub_eq ?_ fun u hu => ?_).symm
    · unfold hits
      simp only [Bool.and_eq_true, beq_iff_eq]
      exact ⟨g3, g4⟩
    · unfold hits
      by_cases hus : sans u set = 0
      · have := g5 u hu hus
        have e2 : (b.getD u 0 + t.getD (sans set u) 0 == bestTo b t true set (set + 1)) = false := by
          rw [beq_eq_false_iff_ne]; intro hh; unfold wOf at this; omega
        rw [e2]; simp
      · have : (sans u set == 0) = false := by rw [beq_eq_false_iff_ne]; exact hus
        rw [this]; rfl
theorem takeF_bd {b t : List Int} {set : Nat} {B : Int} (hB : 0 ≤ B) (h : ∀ s, 0 ≤ wOf b t set s ∧ wOf b t set s ≤ B) (l : List Nat) : 0 ≤ (takeF b t set l).1 ∧ (takeF b t set l).1 ≤ B := by
  have key : ∀ (l : List Nat) (c : Int × Nat), 0 ≤ c.1 ∧ c.1 ≤ B → 0 ≤ (l.foldl (better b t set) c).1 ∧ (l.foldl (better b t set) c).1 ≤ B := by
    intro l
    induction l with
    | nil => intro c hc; exact hc
    | cons s l ih =>
      intro c hc
      refine ih _ ?_
      unfold better
      split
      · exact h s
      · exact hc
  exact key l (0, 0) ⟨Int.le_refl _, hB⟩
/-- the best worths of all sets of items, as they lie -/
def Tab (w : World) (g o : Nat) (t : List Int) : Prop := t.length = 64 ∧ ∀ j, j < 64 → w.cell? ⟨g, o + j, none⟩ = some (.int .i64 (t.getD j 0))
theorem Tab.lt {w : World} {g o : Nat} {t : List Int} (h : Tab w g o t) : g < w.heap.size := World.block_lt_of_cell? _ _ (h.2 0 (by omega))
theorem Tab.below {w w' : World} {B g o : Nat} {t : List Int} (h : Tab w g o t) (hb : Below B w w') (hg : g < B) : Tab w' g o t := ⟨h.1, fun j hj => (hb.cell (p := ⟨g, o + j, none⟩) hg).trans (h.2 j hj)⟩
theorem KeepsOthers.drewN (W : World) (n : Nat) : KeepsOthers W (W.drewN n) := ⟨Nat.le_refl _, fun _ _ h _ => h⟩
theorem Row.drewN {T : TypeId} {w : World} {g : Nat} {xs : List Value} (h : Row T w g xs) (n : Nat) : Row T (w.drewN n) g xs := h
theorem six_rows (w : World) (c1 c2 c3 c4 c5 c6 : Array Value) (T1 T2 T3 T4 T5 T6 : Nat) : ∃ W, (((((w.alloc (.cells c1 T1)).alloc (.cells c2 T2)).alloc (.cells c3 T3)).alloc (.cells c4 T4)).alloc (.cells c5 T5)).alloc (.cells c6 T6) = W ∧
    Row T1 W w.heap.size c1.toList ∧ Row T2 W (w.heap.size + 1) c2.toList ∧ Row T3 W (w.heap.size + 1 + 1) c3.toList ∧ Row T4 W (w.heap.size + 1 + 1 + 1) c4.toList ∧ Row T5 W (w.heap.size + 1 + 1 + 1 + 1) c5.toList ∧ Row T6 W (w.heap.size + 1 + 1 + 1 + 1 + 1) c6.toList ∧
    Below w.heap.size w W ∧ W.heap.size = w.heap.size + 6 := by
  refine ⟨_, rfl, (((((row_new T1 w c1).alloc _).alloc _).alloc _).alloc _).alloc _, ?_, ?_, ?_, ?_, ?_, ?_, by simp⟩
  · have := ((((row_new T2 (w.alloc (.cells c1 T1)) c2).alloc (.cells c3 T3)).alloc (.cells c4 T4)).alloc (.cells c5 T5)).alloc (.cells c6 T6)
    simpa only [World.size_alloc] using this
  · have := (((row_new T3 ((w.alloc (.cells c1 T1)).alloc (.cells c2 T2)) c3).alloc (.cells c4 T4)).alloc (.cells c5 T5)).alloc (.cells c6 T6)
    simpa only [World.size_alloc] using this
  · have := ((row_new T4 (((w.alloc (.cells c1 T1)).alloc (.cells c2 T2)).alloc (.cells c3 T3)) c4).alloc (.cells c5 T5)).alloc (.cells c6 T6)
    simpa only [World.size_alloc] using this
  · have := (row_new T5 ((((w.alloc (.cells c1 T1)).alloc (.cells c2 T2)).alloc (.cells c3 T3)).alloc (.cells c4 T4)) c5).alloc (.cells c6 T6)
    simpa only [World.size_alloc] using this
  · have := row_new T6 (((((w.alloc (.cells c1 T1)).alloc (.cells c2 T2)).alloc (.cells c3 T3)).alloc (.cells c4 T4)).alloc (.cells c5 T5)) c6
    simpa only [World.size_alloc] using this
  · exact ((((((Below.refl w.heap.size w).alloc (Nat.le_refl _) _).alloc (by simp) _).alloc (by simp; omega) _).alloc (by simp; omega) _).alloc (by simp; omega) _).alloc (by simp; omega) _
set_option maxRecDepth 100000 in
set_option maxHeartbeats 4000000 in
theorem take_go (v : Value) (b t : List Int) (g o set : Nat) (w : World) (hl : Sl w v (ints b)) (ht : Tab w g o t) (hm : b.length ≤ 64) (hset : set < b.length)
    (hbd : ∀ s, 0 ≤ b.getD s 0 ∧ b.getD s 0 ≤ 1000000) (htd : ∀ s, 0 ≤ t.getD s 0 ∧ t.getD s 0 ≤ 10000000) :
    Calls Tryd.prog 69 #[.pointer (some ⟨g, o, none⟩), v, .int .i64 set] w fun e w' => e = .returned (.agg #[.int .i64 (takeP b t set).1, .int .i64 (takeP b t set).2]) ∧ Below w.heap.size w w' := by
  obtain ⟨p, cap, rfl, hlc, hcm⟩ := hl.form
  have HEQ : Hid (takeF b t set (subs set) = takeP b t set) := takeF_eq (by unfold wOf; rw [sans_zero]; have := hbd 0; have := htd set; omega)
  have HWB : Hid (∀ s, 0 ≤ wOf b t set s ∧ wOf b t set s ≤ 11000000) := fun s => by
    have h1 := hbd s; have h2 := htd (sans set s); unfold wOf; omega
  have HTB := Lib.hid (fun l => @takeF_bd b t set 11000000 (by omega) HWB.out l)
  have HBD := Lib.hid hbd
  have HTD := Lib.hid htd
  have HL := Lib.hid hl
  have HT := Lib.hid ht
  have hglt := ht.lt
  clear hl ht hbd htd
  refine calls_marks Tryd.func69 rfl fun Q hQ => ?_
  have HQ := Lib.hid hQ
  clear hQ
  simp only [Tryd.ntmps69, List.size_toArray, List.length_cons, List.length_nil, Nat.reduceAdd, Nat.reduceSub, Array.replicate_succ, Array.replicate_zero, List.push_toArray, List.append_toArray, List.nil_append, List.cons_append]
  go_wp2_with (first | (go_at_call 81; refine (within_any set _).mono ?_; rintro e w1 ⟨rfl, rfl⟩))
  obtain ⟨W0, hW0, hr1, hr2, hr3, hr4, hr5, hr6, hB0, hsz⟩ := six_rows w #[.pointer (some ⟨g, o, none⟩)] #[.slice p b.length cap] #[.int .i64 set] #[.int .i64 0, .int .i64 0] #[.int .i64 0, .int .i64 0] #[.int .i64 set] 107 31 71 98 98 71
  rw [hW0]
  clear hW0
  have HR6 := Lib.hid hr6
  refine wp_range_subs (b := set) (Bn := w.heap.size + 1 + 1 + 1 + 1 + 1) rfl (by omega) (by omega) (by rw [hr6.cell]; rfl)
    (fun pre W => (Row 107 W w.heap.size [.pointer (some ⟨g, o, none⟩)] ∧ Row 31 W (w.heap.size + 1) [.slice p b.length cap] ∧ Row 71 W (w.heap.size + 1 + 1) [.int .i64 set] ∧ Row 98 W (w.heap.size + 1 + 1 + 1) [.int .i64 0, .int .i64 0]) ∧
      Row 98 W (w.heap.size + 1 + 1 + 1 + 1) [.int .i64 (takeF b t set (pre.map (·.1))).1, .int .i64 (takeF b t set (pre.map (·.1))).2] ∧ Below w.heap.size w W)
    (fun _ _ _ => False)
    (((row_own _ _ _ _).and ((row_own _ _ _ _).and ((row_own _ _ _ _).and (row_own _ _ _ _)))).and (OwnFrom.and (fun s A B row hs hg hr => Row.turn hs hg hr) (ownFrom_below (Nat.le_refl _) (by omega))))
    (fun _ _ _ _ _ hs _ _ => hs)
    ⟨⟨hr1, hr2, hr3, hr4⟩, hr5, hB0⟩
    (fun s => { tmps := #[.pointer (some ⟨g, o, none⟩), .slice p b.length cap, .int .i64 set, .pointer (some ⟨w.heap.size, 0, none⟩), .pointer (some ⟨w.heap.size + 1, 0, none⟩), .pointer (some ⟨w.heap.size + 1 + 1, 0, none⟩), .pointer (some ⟨w.heap.size + 1 + 1 + 1, 0, none⟩), .pointer (some ⟨w.heap.size + 1 + 1 + 1 + 1, 0, none⟩), .int .i64 (s.1 : Nat), undef, .int .i64 set, .func (.func 86) #[] #[.pointer (some ⟨w.heap.size + 1 + 1 + 1 + 1 + 1, 0, none⟩)], .int .i64 (s.1 : Nat), undef, undef, undef, undef, undef, undef, undef, undef, undef, undef, undef, undef, undef, undef, undef, undef, undef, undef, undef, undef], defers := [] }) ?assign ?body ?done ?stop
  case assign =>
    intro l' s W K hK
    gi_wp2
    exact hK
  case body =>
    clear hr1 hr2 hr3 hr4 hr5 hr6 hB0
    rintro l' pre s W ⟨⟨hr1, hr2, hr3, hr4⟩, hr5, hb⟩ hlen
    have hsl : s.1 < b.length := Nat.lt_of_le_of_lt (le_of_sans s.2) hset
    have hss : sans set s.1 < 64 := by have := sans_le set s.1; omega
    obtain ⟨b5, off5, cap5, hv, _, _, _, hcs⟩ := (HL.out.below hb).int_at s.1 hsl
    cases hv
    have hct := (HT.out.below hb hglt).2 _ hss
    have han := i64_andNot set s.1 (by omega) (by omega)
    have h1 := HBD.out s.1
    have h2 := HTD.out (sans set s.1)
    have HCUR := Lib.hid (takeF_snoc b t set (pre.map (·.1)) s.1)
    have hcb := HTB.out (pre.map (·.1))
    have hk1 := hr1.cell 0
    have hk2 := hr2.cell 0
    have hk3 := hr3.cell 0
    have hk5 := hr5.cell 0
    have hk6 := hr5.cell 1
    have hf5 := hr5.free 0
    have hf6 := hr5.free 1
    simp only [List.getElem?_cons_zero, List.getElem?_cons_succ] at hk1 hk2 hk3 hk5 hk6
    have H14 := Lib.hid (And.intro hr1 (And.intro hr2 (And.intro hr3 hr4)))
    have HR5 := Lib.hid hr5
    have HB := Lib.hid hb
    have HW : Hid (wOf b t set s.1 = b.getD s.1 0 + t.getD (sans set s.1) 0) := rfl
    have HMAP : Hid ((pre ++ [s]).map (·.1) = pre.map (·.1) ++ [s.1]) := by show _ = _; simp
    obtain ⟨q, hq⟩ : ∃ q, sans set s.1 = q := ⟨_, rfl⟩
    rw [hq] at hct han h2 HW hss
    obtain ⟨x, hx⟩ : ∃ x, b.getD s.1 0 = x := ⟨_, rfl⟩
    obtain ⟨y, hy⟩ : ∃ y, t.getD q 0 = y := ⟨_, rfl⟩
    rw [hx] at hcs h1 HW
    rw [hy] at hct h2 HW
    have hxy : IntKind.i64.wrap (x + y) = x + y := IntWalk.i64_in _ (by omega)
    obtain ⟨c, hc⟩ : ∃ c, takeF b t set (pre.map (·.1)) = c := ⟨_, rfl⟩
    rw [hc] at HCUR hcb hk5 hk6 HR5
    obtain ⟨c1, c2⟩ := c
    unfold better at HCUR
    rw [HW.out] at HCUR
    simp only at HCUR hcb hk5 hk6 HR5
    clear hr1 hr2 hr3 hr4 hr5 hb hq hx hy hc
    have hmx : Tryd.prog.follows .mixedOrders = true := by kernel_rfl
    by_cases hgt : c1 < x + y
    · have HC2 : Hid (takeF b t set ((pre ++ [s]).map (·.1)) = (x + y, s.1)) := by show _ = _; rw [HMAP.out, HCUR.out, if_pos hgt]
      gi_wp2
      refine wpIn_region_quiet_round (by kernel_rfl) hmx (by kernel_rfl) ?_
      repeat (gi_big_quiet_step (fail))
      refine wpQuietIn_nil ?_
      intro _ hw'
      obtain ⟨nq, hw''⟩ := hw'
      subst hw''
      gi_wp2
      have hko := KeepsOthers.drewN W nq
      have hks := ((hko.trans (KeepsOthers.setCell _ ⟨w.heap.size + 1 + 1 + 1 + 1, 0, none⟩ (.int .i64 (x + y)))).trans (KeepsOthers.setCell _ ⟨w.heap.size + 1 + 1 + 1 + 1, 1, none⟩ (.int .i64 (s.1 : Nat))))
      have hrn := (((HR5.out.drewN nq).store 0 (.int .i64 (x + y))).store 1 (.int .i64 (s.1 : Nat)))
      simp only [List.set_cons_zero, List.set_cons_succ] at hrn
      refine ⟨hks, ?_, ⟨(((H14.out.1.drewN nq).other _ ?_ _).other _ ?_ _), (((H14.out.2.1.drewN nq).other _ ?_ _).other _ ?_ _), (((H14.out.2.2.1.drewN nq).other _ ?_ _).other _ ?_ _), (((H14.out.2.2.2.drewN nq).other _ ?_ _).other _ ?_ _)⟩, ?_, ((below_drewN HB.out nq).setCell (p := ⟨w.heap.size + 1 + 1 + 1 + 1, 0, none⟩) ?_ _).setCell (p := ⟨w.heap.size + 1 + 1 + 1 + 1, 1, none⟩) ?_ _⟩
      · exact fun v hv => (World.cell?_setCell_other _ _ _ _ (by simp)).trans ((World.cell?_setCell_other _ _ _ _ (by simp)).trans hv)
      all_goals first
        | (rw [HC2.out]; exact hrn)
        | (dsimp only; omega)
    · have HC2 : Hid (takeF b t set ((pre ++ [s]).map (·.1)) = (c1, c2)) := by show _ = _; rw [HMAP.out, HCUR.out, if_neg hgt]
      gi_wp2
      refine wpIn_region_quiet_round (by kernel_rfl) hmx (by kernel_rfl) ?_
      repeat (gi_big_quiet_step (fail))
      refine wpQuietIn_nil ?_
      intro _ hw'
      obtain ⟨nq, hw''⟩ := hw'
      subst hw''
      gi_wp2
      refine ⟨KeepsOthers.drewN W nq, fun v hv => hv, ⟨H14.out.1.drewN nq, H14.out.2.1.drewN nq, H14.out.2.2.1.drewN nq, H14.out.2.2.2.drewN nq⟩, ?_, below_drewN HB.out nq⟩
      rw [HC2.out]; exact HR5.out.drewN nq
  case done =>
    clear hr1 hr2 hr3 hr4 hr5 hr6 hB0
    rintro D W hD ⟨⟨hr1, hr2, hr3, hr4⟩, hr5, hb⟩ hK
    rw [subsA_val, HEQ.out] at hr5
    obtain ⟨c, hc⟩ : ∃ c, takeP b t set = c := ⟨_, rfl⟩
    rw [hc] at hr5 HQ
    obtain ⟨c1, c2⟩ := c
    simp only at hr5 HQ
    have hk5 := hr5.cell 0
    have hk6 := hr5.cell 1
    have hf4 := hr4.free 0
    have hf4b := hr4.free 1
    have hk4 := hr4.cell 0
    have hk4b := hr4.cell 1
    simp only [List.getElem?_cons_zero, List.getElem?_cons_succ] at hk5 hk6 hk4 hk4b
    have hst := (hr4.store 0 (.int .i64 c1)).store 1 (.int .i64 c2)
    simp only [List.set_cons_zero, List.set_cons_succ] at hst
    have HST := Lib.hid hst
    have HB := Lib.hid hb
    have hmk : Marks w.heap.size W [{ target := .collected D, args := #[] }] := (Marks.nil w.heap.size W0).cons (Marks.nil _ _) hD (by omega) hK
    have hmk2 := hmk.keeps ((KeepsOthers.setCell W ⟨w.heap.size + 1 + 1 + 1, 0, none⟩ (.int .i64 c1)).trans (KeepsOthers.setCell _ ⟨w.heap.size + 1 + 1 + 1, 1, none⟩ (.int .i64 c2)))
    have HMK := Lib.hid hmk2
    clear hr1 hr2 hr3 hr4 hr5 hb hst hmk hmk2 hc
    go_wp2
    refine (HQ.out _ _ ?_).1
    refine marks_leave HMK.out fun w' hb' hrow => ?_
    have hz := hrow _ _ _ HST.out
    have k0 := hz.cell 0
    have k1 := hz.cell 1
    simp only [List.getElem?_cons_zero, List.getElem?_cons_succ] at k0 k1
    exact ⟨.agg #[.int .i64 c1, .int .i64 c2], by simp [results, Tryd.results69, go_sem, k0, k1], rfl, ((HB.out.setCell (p := ⟨w.heap.size + 1 + 1 + 1, 0, none⟩) (by dsimp only; omega) _).setCell (p := ⟨w.heap.size + 1 + 1 + 1, 1, none⟩) (by dsimp only; omega) _).trans hb'⟩
  case stop =>
    rintro D c pre W hD hpre h hK
    exact h.elim
end Go.Proofs.YthbfgmgpploneaaDoor
