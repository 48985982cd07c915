/- The program's favorite. -/
import Derived.Test.YthbfgmgpploneaaDoorR16
import Derived.Test.YthbfgmgpploneaaDoorR7
set_option linter.unusedVariables false
set_option linter.unusedSimpArgs false
set_option linter.unnecessarySimpa false
namespace Go.Proofs.YthbfgmgpploneaaDoor
open Go.RowKit Go.Shelf
attribute [local go_sem] Oper.semAt_some

theorem KeepsOthers.of_below {W W' : World} (h : Below W.heap.size W W') : KeepsOthers W W' :=
  ⟨h.size, fun k o hk _ => (h.block k (Array.getElem?_eq_some_iff.1 hk).1).trans hk⟩
def prefer (bids : List (List Int)) (p : List Int) (i : Nat) (c : Int × Nat) (b : Nat) : Int × Nat := if c.1 < gainOf bids p i b then (gainOf bids p i b, b) else c
/-- the favorite of these bundles -/
def favF (bids : List (List Int)) (p : List Int) (i : Nat) (own : Int × Nat) (l : List Nat) : Int × Nat := l.foldl (prefer bids p i) own
theorem favF_snoc (bids : List (List Int)) (p : List Int) (i : Nat) (own : Int × Nat) (l : List Nat) (b : Nat) : favF bids p i own (l ++ [b]) = prefer bids p i (favF bids p i own l) b := by simp [favF]
def favP (bids : List (List Int)) (p : List Int) (i N : Nat) (own : Int × Nat) : Int × Nat := favF bids p i own (subs N)
theorem Market.all {W : World} {g N : Nat} {bids : List (List Int)} {l p : List Int} (h : Market W g N bids l p) : W.cell? ⟨g, 0, none⟩ = some (.int .i64 N) ∧ g < W.heap.size := by
  obtain ⟨pb, cb, ll, pp, h1, _⟩ := h.cells
  exact ⟨h1.cell 0, h1.lt⟩
set_option maxRecDepth 100000 in
set_option maxHeartbeats 4000000 in
theorem favorite_go (g N i : Nat) (ow : Int) (ob : Nat) (bids : List (List Int)) (l p : List Int) (w : World) (hM : Market w g N bids l p) (hi : i < bids.length) (hn : bids.length ≤ 7) (hN : N < (bids.getD i []).length) (hN64 : N < 64) (hp : p.length ≤ 60) (hsm : Small12 p)
    (hbd : ∀ i s, 0 ≤ (bids.getD i []).getD s 0 ∧ (bids.getD i []).getD s 0 ≤ 1000000) :
    Calls Tryd.prog 77 #[.pointer (some ⟨g, 0, none⟩), .int .i64 i, .agg #[.int .i64 ow, .int .i64 ob]] w fun e w' => e = .returned (.agg #[.int .i64 (favP bids p i N (ow, ob)).1, .int .i64 (favP bids p i N (ow, ob)).2]) ∧ Below w.heap.size w w' := by
  have HGAIN : Hid (∀ W, Below w.heap.size w W → ∀ b : Nat, b ≤ N → Calls Tryd.prog 76 #[.pointer (some ⟨g, 0, none⟩), .int .i64 i, .int .i64 b] W fun e w' => e = .returned (.agg #[.int .i64 (gainOf bids p i b), .int .i64 b]) ∧ Below W.heap.size W w') := fun W hb b hbN =>
    gain_go g N i b bids l p W (hM.below hb) hi hn (by omega) (by omega) hp hsm hbd
  have hg := hM.all
  have hglt := hg.2
  have hg0 := hg.1
  have HM := Lib.hid hM
  clear hM hi hn hN hp hsm hbd hg
  refine calls_marks Tryd.func77 rfl fun Q hQ => ?_
  have HQ := Lib.hid hQ
  clear hQ
  obtain ⟨W0, hW0, hr1, hr2, hr3, hr4, hr5, hr6, hB0, hsz⟩ := six_rows w #[.pointer (some ⟨g, 0, none⟩)] #[.int .i64 i] #[.int .i64 ow, .int .i64 ob] #[.int .i64 0, .int .i64 0] #[.int .i64 ow, .int .i64 ob] #[.int .i64 N] 82 3 98 98 98 71
  have g5 : (((((w.alloc (.cells #[.pointer (some ⟨g, 0, none⟩)] 82)).alloc (.cells #[.int .i64 i] 3)).alloc (.cells #[.int .i64 ow, .int .i64 ob] 98)).alloc (.cells #[.int .i64 0, .int .i64 0] 98)).alloc (.cells #[.int .i64 ow, .int .i64 ob] 98)).cell? ⟨g, 0, none⟩ = some (.int .i64 N) :=
    ((((((Below.refl w.heap.size w).alloc (Nat.le_refl _) _).alloc (by simp) _).alloc (by simp; omega) _).alloc (by simp; omega) _).alloc (by simp; omega) _).cell (p := ⟨g, 0, none⟩) hglt |>.trans hg0
  simp only [Tryd.ntmps77, List.size_toArray, List.length_cons, List.length_nil, Nat.reduceAdd, Nat.reduceSub, Array.replicate_succ, Array.replicate_zero, List.push_toArray, List.append_toArray, List.nil_append, List.cons_append]
  go_wp2_with (first | (go_at_call 81; refine (within_any N _).mono ?_; rintro e w1 ⟨rfl, rfl⟩))
  clear hW0 g5
  have HR6 := Lib.hid hr6
  refine wp_range_subs (b := N) (Bn := w.heap.size + 1 + 1 + 1 + 1 + 1) rfl (by omega) (by omega) (by rw [hr6.cell]; rfl)
    (fun pre W => (Row 82 W w.heap.size [.pointer (some ⟨g, 0, none⟩)] ∧ Row 3 W (w.heap.size + 1) [.int .i64 i] ∧ Row 98 W (w.heap.size + 1 + 1 + 1) [.int .i64 0, .int .i64 0] ∧ Row 71 W (w.heap.size + 1 + 1 + 1 + 1 + 1) [.int .i64 N]) ∧
      Row 98 W (w.heap.size + 1 + 1 + 1 + 1) [.int .i64 (favF bids p i (ow, ob) (pre.map (·.1))).1, .int .i64 (favF bids p i (ow, ob) (pre.map (·.1))).2] ∧ Below w.heap.size w W)
    (fun _ _ _ => False)
    (((row_own _ _ _ _).and ((row_own _ _ _ _).and ((row_own _ _ _ _).and (row_own _ _ _ _)))).and (OwnFrom.and (fun s A B row hs hg hr => Row.turn hs hg hr) (ownFrom_below (Nat.le_refl _) (by omega))))
    (fun _ _ _ _ _ hs _ _ => hs)
    ⟨⟨hr1, hr2, hr4, hr6⟩, hr5, hB0⟩
    (fun s => { tmps := #[.pointer (some ⟨g, 0, none⟩), .int .i64 i, .agg #[.int .i64 ow, .int .i64 ob], .pointer (some ⟨w.heap.size, 0, none⟩), .pointer (some ⟨w.heap.size + 1, 0, none⟩), .pointer (some ⟨w.heap.size + 1 + 1, 0, none⟩), .pointer (some ⟨w.heap.size + 1 + 1 + 1, 0, none⟩), .pointer (some ⟨w.heap.size + 1 + 1 + 1 + 1, 0, none⟩), .int .i64 (s.1 : Nat), undef, .agg #[.int .i64 ow, .int .i64 ob], .pointer (some ⟨g, 0, none⟩), .pointer (some ⟨g, 0, none⟩), .pointer (some ⟨g, 0, none⟩), .pointer (some ⟨g, 0, none⟩), .int .i64 (N : Nat), .func (.func 86) #[] #[.pointer (some ⟨w.heap.size + 1 + 1 + 1 + 1 + 1, 0, none⟩)], .int .i64 (s.1 : Nat), undef, undef, undef, undef, undef, undef, undef, undef, undef, undef, undef], defers := [] }) ?assign ?body ?done ?stop
  case assign =>
    intro l' s W K hK
    gi_wp2
    exact hK
  case body =>
    clear hr1 hr2 hr3 hr4 hr5 hr6 hB0
    rintro l' pre s W ⟨⟨hr1, hr2, hr4, hr6⟩, hr5, hb⟩ hlen
    have hsl : s.1 ≤ N := le_of_sans s.2
    have HG := Lib.hid (HGAIN.out W hb s.1 hsl)
    have HCUR := Lib.hid (favF_snoc bids p i (ow, ob) (pre.map (·.1)) s.1)
    have HMAP : Hid ((pre ++ [s]).map (·.1) = pre.map (·.1) ++ [s.1]) := by show _ = _; simp
    have hk1 := hr1.cell 0
    have hk2 := hr2.cell 0
    simp only [List.getElem?_cons_zero, List.getElem?_cons_succ] at hk1 hk2
    obtain ⟨x, hx⟩ : ∃ x, gainOf bids p i s.1 = x := ⟨_, rfl⟩
    rw [hx] at HG
    obtain ⟨c, hc⟩ : ∃ c, favF bids p i (ow, ob) (pre.map (·.1)) = c := ⟨_, rfl⟩
    rw [hc] at HCUR hr5
    obtain ⟨c1, c2⟩ := c
    unfold prefer at HCUR
    rw [hx] at HCUR
    simp only at HCUR hr5
    have H14 := Lib.hid (And.intro hr1 (And.intro hr2 (And.intro hr4 hr6)))
    have HR5 := Lib.hid hr5
    have HB := Lib.hid hb
    clear hr1 hr2 hr4 hr5 hr6 hb hx hc
    have h4 : 1 ≤ 4 - 1 - 1 := by omega
    by_cases hgt : c1 < x
    · have HC2 : Hid (favF bids p i (ow, ob) ((pre ++ [s]).map (·.1)) = (x, s.1)) := by show _ = _; rw [HMAP.out, HCUR.out, if_pos hgt]
      gi_wp2_with (first | (refine ⟨trivial, ?_⟩; gi_at_call 76; refine (CallsIn.inRound l' (callsIn_wide.2 HG.out)).mono ?_; rintro e w1 ⟨rfl, hb1⟩; have HB1 := Lib.hid hb1; have hh1 := H14.out.1.below hb1 H14.out.1.lt; have hh2 := HR5.out.below hb1 HR5.out.lt; have hh3 := hh2.alloc (.cells #[.int .i64 x, .int .i64 (s.1 : Nat)] 98); have d0 := hh3.cell 0; have d1 := hh3.cell 1; have e0 := hh3.free 0; have e1 := hh3.free 1; simp only [List.getElem?_cons_zero, List.getElem?_cons_succ] at d0 d1; have HH3 := Lib.hid hh3; clear hb1 hh1 hh2 hh3))
      obtain ⟨a1, a2, a4, a6⟩ := H14.out
      have b1 := (a1.below HB1.out a1.lt).alloc (.cells #[.int .i64 x, .int .i64 (s.1 : Nat)] 98)
      have b2 := (a2.below HB1.out a2.lt).alloc (.cells #[.int .i64 x, .int .i64 (s.1 : Nat)] 98)
      have b4 := (a4.below HB1.out a4.lt).alloc (.cells #[.int .i64 x, .int .i64 (s.1 : Nat)] 98)
      have b6 := (a6.below HB1.out a6.lt).alloc (.cells #[.int .i64 x, .int .i64 (s.1 : Nat)] 98)
      have hko := (KeepsOthers.of_below HB1.out).trans (KeepsOthers.alloc w1 (.cells #[.int .i64 x, .int .i64 (s.1 : Nat)] 98))
      have hbb := (HB.out.trans (HB1.out.mono HB.out.size)).alloc (Nat.le_trans HB.out.size HB1.out.size) (.cells #[.int .i64 x, .int .i64 (s.1 : Nat)] 98)
      have hst := (HH3.out.store 0 (.int .i64 x)).store 1 (.int .i64 (s.1 : Nat))
      simp only [List.set_cons_zero, List.set_cons_succ] at hst
      have c6 := (b6.other ⟨w.heap.size + 1 + 1 + 1 + 1, 0, none⟩ (by dsimp only; omega) (.int .i64 x)).other ⟨w.heap.size + 1 + 1 + 1 + 1, 1, none⟩ (by dsimp only; omega) (.int .i64 (s.1 : Nat))
      refine ⟨(hko.trans (KeepsOthers.setCell _ _ _)).trans (KeepsOthers.setCell _ _ _), fun v hv => ?_, ⟨(b1.other _ (by dsimp only; omega) _).other _ (by dsimp only; omega) _, (b2.other _ (by dsimp only; omega) _).other _ (by dsimp only; omega) _, (b4.other _ (by dsimp only; omega) _).other _ (by dsimp only; omega) _, c6⟩, ?_, (hbb.setCell (p := ⟨w.heap.size + 1 + 1 + 1 + 1, 0, none⟩) (by dsimp only; omega) _).setCell (p := ⟨w.heap.size + 1 + 1 + 1 + 1, 1, none⟩) (by dsimp only; omega) _⟩
      · have h6 := a6.cell 0
        rw [hv] at h6
        rw [h6]; exact c6.cell 0
      · rw [HC2.out]; exact hst
    · have HC2 : Hid (favF bids p i (ow, ob) ((pre ++ [s]).map (·.1)) = (c1, c2)) := by show _ = _; rw [HMAP.out, HCUR.out, if_neg hgt]
      gi_wp2_with (first | (refine ⟨trivial, ?_⟩; gi_at_call 76; refine (CallsIn.inRound l' (callsIn_wide.2 HG.out)).mono ?_; rintro e w1 ⟨rfl, hb1⟩; have HB1 := Lib.hid hb1; have hh1 := H14.out.1.below hb1 H14.out.1.lt; have hh2 := HR5.out.below hb1 HR5.out.lt; have hh3 := hh2.alloc (.cells #[.int .i64 x, .int .i64 (s.1 : Nat)] 98); have d0 := hh3.cell 0; have d1 := hh3.cell 1; have e0 := hh3.free 0; have e1 := hh3.free 1; simp only [List.getElem?_cons_zero, List.getElem?_cons_succ] at d0 d1; have HH3 := Lib.hid hh3; clear hb1 hh1 hh2 hh3))
      obtain ⟨a1, a2, a4, a6⟩ := H14.out
      have b1 := (a1.below HB1.out a1.lt).alloc (.cells #[.int .i64 x, .int .i64 (s.1 : Nat)] 98)
      have b2 := (a2.below HB1.out a2.lt).alloc (.cells #[.int .i64 x, .int .i64 (s.1 : Nat)] 98)
      have b4 := (a4.below HB1.out a4.lt).alloc (.cells #[.int .i64 x, .int .i64 (s.1 : Nat)] 98)
      have b6 := (a6.below HB1.out a6.lt).alloc (.cells #[.int .i64 x, .int .i64 (s.1 : Nat)] 98)
      have hko := (KeepsOthers.of_below HB1.out).trans (KeepsOthers.alloc w1 (.cells #[.int .i64 x, .int .i64 (s.1 : Nat)] 98))
      have hbb := (HB.out.trans (HB1.out.mono HB.out.size)).alloc (Nat.le_trans HB.out.size HB1.out.size) (.cells #[.int .i64 x, .int .i64 (s.1 : Nat)] 98)
      refine ⟨hko, fun v hv => ?_, ⟨b1, b2, b4, b6⟩, ?_, hbb⟩
      · have h6 := a6.cell 0
        rw [hv] at h6
        rw [h6]; exact b6.cell 0
      · rw [HC2.out]; exact HH3.out
  case done =>
    clear hr1 hr2 hr3 hr4 hr5 hr6 hB0
    rintro D W hD ⟨⟨hr1, hr2, hr4, hr6⟩, hr5, hb⟩ hK
    rw [subsA_val] at hr5
    have hr5' : Row 98 W (w.heap.size + 1 + 1 + 1 + 1) [.int .i64 (favP bids p i N (ow, ob)).1, .int .i64 (favP bids p i N (ow, ob)).2] := hr5
    obtain ⟨c, hc⟩ : ∃ c, favP bids p i N (ow, ob) = c := ⟨_, rfl⟩
    rw [hc] at hr5' HQ
    obtain ⟨c1, c2⟩ := c
    simp only at hr5' HQ
    have hk5 := hr5'.cell 0
    have hk6 := hr5'.cell 1
    have hf4 := hr4.free 0
    have hf4b := hr4.free 1
    have hk4 := hr4.cell 0
    have hk4b := hr4.cell 1
    simp only [List.getElem?_cons_zero, List.getElem?_cons_succ] at hk5 hk6 hk4 hk4b
    have hst := (hr4.store 0 (.int .i64 c1)).store 1 (.int .i64 c2)
    simp only [List.set_cons_zero, List.set_cons_succ] at hst
    have HST := Lib.hid hst
    have HB := Lib.hid hb
    have hmk : Marks w.heap.size W [{ target := .collected D, args := #[] }] := (Marks.nil w.heap.size W0).cons (Marks.nil _ _) hD (by omega) hK
    have hmk2 := hmk.keeps ((KeepsOthers.setCell W ⟨w.heap.size + 1 + 1 + 1, 0, none⟩ (.int .i64 c1)).trans (KeepsOthers.setCell _ ⟨w.heap.size + 1 + 1 + 1, 1, none⟩ (.int .i64 c2)))
    have HMK := Lib.hid hmk2
    clear hr1 hr2 hr4 hr5 hr5' hr6 hb hst hmk hmk2 hc
    go_wp2
    refine (HQ.out _ _ ?_).1
    refine marks_leave HMK.out fun w' hb' hrow => ?_
    have hz := hrow _ _ _ HST.out
    have k0 := hz.cell 0
    have k1 := hz.cell 1
    simp only [List.getElem?_cons_zero, List.getElem?_cons_succ] at k0 k1
    exact ⟨.agg #[.int .i64 c1, .int .i64 c2], by simp [results, Tryd.results77, go_sem, k0, k1], rfl, ((HB.out.setCell (p := ⟨w.heap.size + 1 + 1 + 1, 0, none⟩) (by dsimp only; omega) _).setCell (p := ⟨w.heap.size + 1 + 1 + 1, 1, none⟩) (by dsimp only; omega) _).trans hb'⟩
  case stop =>
    rintro D c pre W hD hpre h hK
    exact h.elim
end Go.Proofs.YthbfgmgpploneaaDoor
