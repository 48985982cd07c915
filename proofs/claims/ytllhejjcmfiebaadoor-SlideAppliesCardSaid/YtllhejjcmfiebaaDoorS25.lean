/- The program's IsWhole. -/
import Derived.Test.YtllhejjcmfiebaaDoorS24
import Derived.Test.YtllhejjcmfiebaaDoorS21
import Derived.RangeFuncCalls
import Derived.Stop.RegionWithIn
set_option linter.unusedVariables false
set_option linter.unusedSimpArgs false
set_option linter.unnecessarySimpa false
namespace Go.Proofs.YtllhejjcmfiebaaDoor
open Go.RowKit Go.Shelf
attribute [local go_sem] Oper.semAt_some

/-- all places but one -/
def clr (n x : Nat) : Nat := (2 ^ n - 1) ^^^ 2 ^ x
theorem clr_all : ((List.range 10).all fun n => (List.range n).all fun x => bits .andNot .u16 ((2 ^ n - 1 : Nat) : Int) (IntKind.u16.wrap ((2 : Int) ^ x)) == ((clr n x : Nat) : Int) && decide (clr n x < 512)
    && ((List.range 9).all fun i => (clr n x).testBit i == (decide (i < n) && decide (i ≠ x))) && (decide (n < 2) || (decide (0 < clr n x) && decide (lowN 16 (clr n x) = firstOf (x : Nat))))) = true := by decide +kernel
theorem clr_facts {n x : Nat} (hn2 : 2 ≤ n) (hn9 : n ≤ 9) (hx : x < n) : bits .andNot .u16 ((2 ^ n - 1 : Nat) : Int) (IntKind.u16.wrap ((2 : Int) ^ x)) = ((clr n x : Nat) : Int) ∧ clr n x < 512 ∧ 0 < clr n x ∧ lowN 16 (clr n x) = firstOf (x : Nat) ∧ ∀ i, (clr n x).testBit i = true ↔ i < n ∧ (i : Int) ≠ (x : Nat) := by
  have h := List.all_eq_true.1 (List.all_eq_true.1 clr_all n (List.mem_range.2 (by omega))) x (List.mem_range.2 hx)
  simp only [Bool.and_eq_true, Bool.or_eq_true, decide_eq_true_eq, beq_iff_eq] at h
  obtain ⟨⟨⟨h1, h2⟩, h3⟩, h4⟩ := h
  rcases h4 with h4 | ⟨h4, h5⟩
  · omega
  refine ⟨h1, h2, h4, h5, fun i => ?_⟩
  by_cases hi : i < 9
  · have := beq_iff_eq.1 (List.all_eq_true.1 h3 i (List.mem_range.2 hi))
    rw [this]
    simp
    omega
  · constructor
    · intro hb
      have := bit_lt (n := 9) h2 hb
      omega
    · rintro ⟨a, _⟩; omega
theorem pls_all {n : Nat} (hn9 : n ≤ 9) : pls (2 ^ n - 1) = List.range n := by
  have h : ((List.range 10).all fun n => pls (2 ^ n - 1) == List.range n) = true := by decide +kernel
  exact beq_iff_eq.1 (List.all_eq_true.1 h n (List.mem_range.2 (by omega)))
set_option maxRecDepth 100000 in
set_option maxHeartbeats 4000000 in
theorem isWhole_go (g n : Nat) (E : Es) (hn2 : 2 ≤ n) (hn9 : n ≤ 9) (hE : Lt E n) (w : World) (hb : BoardR w g n E) (ht : Tab w) :
    Calls Tryd.prog 54 #[.pointer (some ⟨g, 0, none⟩)] w fun e w' => e = .returned (.bool (wholeB n E)) ∧ Below w.heap.size w w' := by
  have hg := hb.lt
  have hall2 : Hid (∀ W, Calls Tryd.prog 68 #[.int .i64 n] W fun e w' => e = .returned (.int .u16 ((2 ^ n - 1 : Nat) : Int)) ∧ w' = W) := fun W => all_go n hn9 W
  have hA : 2 ^ n - 1 < 512 := by have := Nat.pow_le_pow_right (by omega : 0 < 2) hn9; omega
  have HP := Lib.hid (pls_all hn9)
  have hcn := hb.cell 0
  simp only [boardC, List.getElem?_cons_zero] at hcn
  have HBD := Lib.hid hb
  have HT := Lib.hid ht
  obtain ⟨A, hAA⟩ : ∃ A, 2 ^ n - 1 = A := ⟨_, rfl⟩
  rw [hAA] at hall2 hA HP
  have HAA := Lib.hid hAA
  clear hb ht hAA
  refine calls_marks Tryd.func54 rfl ?_
  intro Q hQ
  simp only [Tryd.ntmps54, List.size_toArray, List.length_cons, List.length_nil, Nat.reduceAdd, Nat.reduceSub, Array.replicate_succ, Array.replicate_zero, List.push_toArray, List.append_toArray, List.nil_append, List.cons_append]
  go_wp2_with (first
    | (go_at_call 68; refine (hall2.out _).mono ?_; rintro e w1 ⟨rfl, rfl⟩)
    | (go_at_call 69; refine (places_any A _).mono ?_; rintro e w1 ⟨rfl, rfl⟩))
  obtain ⟨W0, hW0⟩ : ∃ W0, (((w.alloc (.cells #[.pointer (some ⟨g, 0, none⟩)] 75)).alloc (.cells #[.bool false] 4)).alloc (.cells #[.int .u16 A] 86)).alloc (.cells #[.int .u16 A] 86) = W0 := ⟨_, rfl⟩
  have hsz : W0.heap.size = w.heap.size + 4 := by rw [← hW0]; simp
  have hr1 : Row 75 W0 w.heap.size [.pointer (some ⟨g, 0, none⟩)] := by rw [← hW0]; exact (((row_new 75 w #[.pointer (some ⟨g, 0, none⟩)]).alloc _).alloc _).alloc _
  have hr2 : Row 4 W0 (w.heap.size + 1) [.bool false] := by rw [← hW0]; have := ((row_new 4 (w.alloc (.cells #[.pointer (some ⟨g, 0, none⟩)] 75)) #[.bool false]).alloc (.cells #[.int .u16 A] 86)).alloc (.cells #[.int .u16 A] 86); rw [World.size_alloc] at this; exact this
  have hr3 : Row 86 W0 (w.heap.size + 1 + 1) [.int .u16 A] := by rw [← hW0]; have := (row_new 86 ((w.alloc (.cells #[.pointer (some ⟨g, 0, none⟩)] 75)).alloc (.cells #[.bool false] 4)) #[.int .u16 A]).alloc (.cells #[.int .u16 A] 86); rw [World.size_alloc, World.size_alloc] at this; exact this
  have hr4 : Row 86 W0 (w.heap.size + 1 + 1 + 1) [.int .u16 A] := by rw [← hW0]; have := row_new 86 (((w.alloc (.cells #[.pointer (some ⟨g, 0, none⟩)] 75)).alloc (.cells #[.bool false] 4)).alloc (.cells #[.int .u16 A] 86)) #[.int .u16 A]; rw [World.size_alloc, World.size_alloc, World.size_alloc] at this; exact this
  have hB0 : Below w.heap.size w W0 := by rw [← hW0]; exact ((((Below.refl w.heap.size w).alloc (Nat.le_refl _) _).alloc (by simp) _).alloc (by simp; omega) _).alloc (by simp; omega) _
  rw [hW0]
  clear hW0
  have HQ := Lib.hid hQ
  have HB0 := Lib.hid hB0
  have HSZ := Lib.hid hsz
  have HE9 : Hid (Lt E 9) := fun e he => by have := hE e he; omega
  have HE := Lib.hid hE
  clear hQ hE hcn
  refine wp_range_places (s := A) (Bn := w.heap.size + 1 + 1 + 1) rfl hA hr4
    (fun pre W => ((Row 75 W w.heap.size [.pointer (some ⟨g, 0, none⟩)] ∧ Row 4 W (w.heap.size + 1) [.bool false] ∧ Row 86 W (w.heap.size + 1 + 1) [.int .u16 A]) ∧ ∀ i, i ∈ pre → joinedP n E (i : Nat) = true) ∧ Below w.heap.size W0 W)
    (fun c pre W => c = .ret ∧ ((∃ i, i < n ∧ joinedP n E (i : Nat) = false) ∧ Row 4 W (w.heap.size + 1) [.bool false]) ∧ Below w.heap.size W0 W)
    (((((row_own _ _ _ _).and ((row_own _ _ _ _).and (row_own _ _ _ _))).and (fun _ _ _ _ hs _ _ => hs))).and (ownFrom_below (by omega) (by omega)))
    (fun c => OwnFrom.and (fun _ _ _ _ hs _ _ => hs) (OwnFrom.and (OwnFrom.and (fun _ _ _ _ hs _ _ => hs) (row_own _ _ _ _)) (ownFrom_below (by omega) (by omega))))
    (fun pre W h => HT.out.below (HB0.out.trans h.2) HT.out.lt)
    (fun pre W t h => ⟨⟨⟨h.1.1.1.other _ (by dsimp only; omega) _, h.1.1.2.1.other _ (by dsimp only; omega) _, h.1.1.2.2.other _ (by dsimp only; omega) _⟩, h.1.2⟩, h.2.setCell (by dsimp only; omega) _⟩)
    ⟨⟨⟨hr1, hr2, hr3⟩, fun i hi => by cases hi⟩, Below.refl _ _⟩
    (fun x => { tmps := #[.pointer (some ⟨g, 0, none⟩), .pointer (some ⟨w.heap.size, 0, none⟩), .pointer (some ⟨w.heap.size + 1, 0, none⟩), .pointer (some ⟨w.heap.size + 1 + 1, 0, none⟩), .int .i64 (x : Nat), .pointer (some ⟨g, 0, none⟩), .pointer (some ⟨g, 0, none⟩), .pointer (some ⟨g, 0, none⟩), .int .i64 n, .int .u16 A, .int .u16 A, .func (.func 84) #[] #[.pointer (some ⟨w.heap.size + 1 + 1 + 1, 0, none⟩)], .int .i64 (x : Nat), undef, undef, undef, undef, undef, undef, undef, undef, undef, undef, undef, undef], defers := [] }) ?assign ?body ?done ?stop
  case assign =>
    intro l' x W K hK
    gi_wp2
    exact hK
  case body =>
    clear hr1 hr2 hr3 hr4 hB0
    rintro l' pre x W ⟨⟨⟨h1, h2, h3⟩, hall⟩, hb⟩ ⟨post, hpost⟩
    have HBW := Lib.hid hb
    replace hb := HB0.out.trans hb
    have hxn : x < n := by
      have : x ∈ List.range n := by rw [← HP.out, hpost]; simp
      exact List.mem_range.1 this
    obtain ⟨hcl, hc5, hc0, hclow, hcb⟩ := clr_facts hn2 hn9 hxn
    rw [HAA.out] at hcl
    have hfx : firstOf (x : Nat) < n ∧ (firstOf (x : Nat) : Int) ≠ (x : Nat) := by unfold firstOf; split <;> omega
    obtain ⟨C, hC⟩ : ∃ C, clr n x = C := ⟨_, rfl⟩
    rw [hC] at hcl hc5 hc0 hclow hcb
    have HC : Hid (∀ k, Calls Tryd.prog 70 #[.pointer (some ⟨g, 0, none⟩), .int .u16 C] (W.drewN k) fun e w' => e = .returned (.bool (joinedP n E (x : Nat))) ∧ Below W.heap.size W w') := by
      intro k
      have hd := below_drewN (Below.refl W.heap.size W) k
      refine (conn_go g n C E hc0 hc5 HE9.out (W.drewN k) ((HBD.out.below hb hg).below hd (Nat.lt_of_lt_of_le hg hb.size)) ((HT.out.below hb HT.out.lt).below hd (Nat.lt_of_lt_of_le HT.out.lt hb.size))).mono ?_
      rintro e w' ⟨t, hL, rfl, hbb⟩
      exact ⟨by rw [conn_joined hn9 HE.out hcb hclow hfx.1 hfx.2 hL], hd.trans (hbb.mono hd.size)⟩
    have hk1 := h1.cell 0
    have hk3 := h3.cell 0
    simp only [List.getElem?_cons_zero] at hk1 hk3
    have gx : (x : Int) < 16 := by omega
    have gx2 : (x : Int) ≤ 16 := by omega
    have HALL := Lib.hid hall
    have HB := Lib.hid hb
    have H1 := Lib.hid h1
    have H2 := Lib.hid h2
    have H3 := Lib.hid h3
    have HIN : Hid (joinedP n E (x : Nat) = true → ∀ i, i ∈ pre ++ [x] → joinedP n E (i : Nat) = true) := by
      intro h i hi
      rcases List.mem_append.1 hi with hi | hi
      · exact HALL.out i hi
      · rw [List.mem_singleton.1 hi]; exact h
    have HEX : Hid (joinedP n E (x : Nat) = false → ∃ i, i < n ∧ joinedP n E (i : Nat) = false) := fun h => ⟨x, hxn, h⟩
    obtain ⟨J, hJ⟩ : ∃ J, joinedP n E (x : Nat) = J := ⟨_, rfl⟩
    rw [hJ] at HC HIN HEX
    clear h1 h2 h3 hall hb hpost hc5 hc0 hclow hcb hfx hC hJ HALL HQ HBD HT HP
    cases J with
    | true =>
      gi_wp2
      gi_region_with (refine ⟨trivial, CallsIn.mono (((callsIn_wide (n := 3)).2 (HC.out 1)).inRound l') ?_⟩; rintro e w1 ⟨rfl, hb1⟩; have HB1 := Lib.hid hb1; clear hb1)
      all_goals
        gi_wp2
        exact ⟨KeepsOthers.of_below HB1.out, HB1.out.block _ (by have := HBW.out.size; have := HSZ.out; omega), ⟨⟨⟨H1.out.below HB1.out H1.out.lt, H2.out.below HB1.out H2.out.lt, H3.out.below HB1.out H3.out.lt⟩, (by first | exact HIN.out trivial | exact HIN.out rfl | exact HIN.out)⟩, HBW.out.trans (HB1.out.mono HB.out.size)⟩⟩
    | false =>
      gi_wp2
      gi_region_with (refine ⟨trivial, CallsIn.mono (((callsIn_wide (n := 3)).2 (HC.out 1)).inRound l') ?_⟩; rintro e w1 ⟨rfl, hb1⟩; have k2 := (H2.out.below hb1 H2.out.lt).cell 0; have f2 := (H2.out.below hb1 H2.out.lt).free 0; simp only [List.getElem?_cons_zero] at k2; have HB1 := Lib.hid hb1; clear hb1)
      all_goals
        gi_wp2
        exact ⟨(KeepsOthers.of_below HB1.out).trans (KeepsOthers.setCell _ _ _), rfl, ⟨(by first | exact HEX.out trivial | exact HEX.out rfl | exact HEX.out), (H2.out.below HB1.out H2.out.lt).store 0 _⟩, (HBW.out.trans (HB1.out.mono HB.out.size)).setCell (by dsimp only; omega) _⟩
  case done =>
    clear hr1 hr2 hr3 hr4
    rintro D W hD ⟨⟨⟨h1, h2, h3⟩, hall⟩, hb⟩ hK
    replace hb := HB0.out.trans hb
    have hk1 := h1.cell 0
    have hk2 := h2.cell 0
    have hf2 := h2.free 0
    have hkn := (Row.below HBD.out hb hg).cell 0
    simp only [boardC, List.getElem?_cons_zero] at hk1 hk2 hkn
    rw [HP.out] at hall
    have HWH : Hid (decide ((3 : Int) ≤ (n : Int)) = wholeB n E) := by
      show _ = _
      rw [wholeB_end fun i hi => hall i (List.mem_range.2 hi)]
      exact decide_eq_decide.2 (by omega)
    have HMK := Lib.hid ((Marks.nil w.heap.size W0).cons (Marks.nil _ _) hD (by omega) hK)
    have HB := Lib.hid hb
    have H2 := Lib.hid h2
    clear h1 h2 h3 hall hb hB0
    go_wp2
    refine (HQ.out _ _ ?_).1
    refine marks_leave (HMK.out.keeps (KeepsOthers.setCell _ _ _)) fun w' hb' hrow => ?_
    have hkr := (hrow _ _ _ (H2.out.store 0 (.bool (decide ((3 : Int) ≤ (n : Int)))))).cell 0
    simp only [List.set_cons_zero, List.getElem?_cons_zero] at hkr
    exact ⟨.bool (decide ((3 : Int) ≤ (n : Int))), by simp [results, Tryd.results54, go_sem, hkr], by rw [HWH.out], (HB.out.setCell (p := ⟨w.heap.size + 1, 0, none⟩) (by dsimp only; omega) _).trans hb'⟩
  case stop =>
    clear hr1 hr2 hr3 hr4
    rintro D c pre W hD hpre ⟨rfl, ⟨⟨i, hi, hji⟩, h2⟩, hb⟩ hK
    replace hb := HB0.out.trans hb
    have HWH : Hid (wholeB n E = false) := wholeB_no hi hji
    have HMK := Lib.hid ((Marks.nil w.heap.size W0).cons (Marks.nil _ _) hD (by omega) hK)
    have HB := Lib.hid hb
    have H2 := Lib.hid h2
    clear h2 hb hB0
    go_wp2
    refine (HQ.out _ _ ?_).1
    refine marks_leave HMK.out fun w' hb' hrow => ?_
    have hkr := (hrow _ _ _ H2.out).cell 0
    simp only [List.getElem?_cons_zero] at hkr
    exact ⟨.bool false, by simp [results, Tryd.results54, go_sem, hkr], by rw [HWH.out], HB.out.trans hb'⟩
end Go.Proofs.YtllhejjcmfiebaaDoor
