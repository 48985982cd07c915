/- The way back: the walk of the closure in solution. -/
import Derived.Test.YtllhejjcmfiebaaDoorE9
import Derived.Test.YtllhejjcmfiebaaDoorCC
import Derived.Test.YtllhejjcmfiebaaDoorN8
import Derived.Test.YtllhejjcmfiebaaDoorKG
import Derived.Deep.LoopGhost
set_option linter.unusedVariables false
set_option linter.unusedSimpArgs false
set_option linter.unnecessarySimpa false
namespace Go.Proofs.YtllhejjcmfiebaaDoor
open Go.RowKit Go.Shelf
theorem own_sameN' {T base : Nat} {w w' : World} {v : Value} {xs : List Value} {K : Nat → Prop} (h : Own T base w v xs) (hs : Same K w w') (hK : ∀ b, v.ownBlock = some b → K b) : Own T base w' v xs := OwnK.same h hs hK
theorem same_st9 {w : World} {g : Nat} (F : Nat → Int) : Same (fun b => b ≠ g) w (st9 w g F) := by
 unfold st9
 have h : ∀ (X : World) (i : Nat) (v : Value), Same (fun b => b ≠ g) w X → Same (fun b => b ≠ g) w (X.setCell ⟨g, i, none⟩ v) := fun X i v hx => hx.trans (Same.setCell (K := fun b => b ≠ g) _ _ _ fun h => h rfl) fun _ _ h => h
 exact h _ _ _ (h _ _ _ (h _ _ _ (h _ _ _ (h _ _ _ (h _ _ _ (h _ _ _ (h _ _ _ (h _ _ _ (Same.refl _ _)))))))))
set_option maxRecDepth 100000 in
set_option maxHeartbeats 4000000 in
theorem back_go (N sg g m mb d : Nat) (E : Es) (p q : List Int) (par : List (List Int × List Int)) (nv : Value) (w : World) (hs : SrchR w sg g m nv) (hm : MapAt N w m par) (hN9 : N ≤ 9) (h0 : 0 < N) (hpar : ParOK E N p par) (hp : PosP N p)
  (hq : q ∈ keysP par) (hd : DistIs E N p d q) (hc : Row 82 w mb (nineL (posF q q.length))) (hd6 : d ≤ 362880) :
  Calls Tryd.prog 80 #[.pointer (some ⟨sg, 0, none⟩), .pointer (some ⟨mb, 0, none⟩)] w fun e w' => ∃ v, e = .returned v ∧ Own 3 w.heap.size w' v (ints (holesL (backL par d q))) ∧ Below w.heap.size w w' := by
 have hqP : PosP N q := (way_rev hp h0 hd.1).1
 obtain ⟨Q0, hQ0⟩ : ∃ Q0, posF q q.length = Q0 := ⟨_, rfl⟩
 rw [hQ0] at hc
 obtain ⟨c0, c1, c2, c3, c4, c5, c6, c7, c8⟩ := nine_cells hc
 obtain ⟨B, hB⟩ : ∃ B, w.heap.size = B := ⟨_, rfl⟩
 have hb1 := row_new 82 w (nineL Q0).toArray
 have hbw1 := below_alloc_refl w (.cells (nineL Q0).toArray 82)
 obtain ⟨W1, hW1⟩ : ∃ W1, w.alloc (.cells (nineL Q0).toArray 82) = W1 := ⟨_, rfl⟩
 rw [hW1] at hb1 hbw1
 rw [hB] at hb1
 have hW : w.alloc (.cells #[.int .i8 (Q0 0), .int .i8 (Q0 1), .int .i8 (Q0 2), .int .i8 (Q0 3), .int .i8 (Q0 4), .int .i8 (Q0 5), .int .i8 (Q0 6), .int .i8 (Q0 7), .int .i8 (Q0 8)] 82) = W1 := hW1
 have hW1s : W1.heap.size = B + 1 := by rw [← hW1, World.size_alloc, hB]
 have hsl : sg < B := by rw [← hB]; exact Row.lt hs
 have hml : m < B := by rw [← hB]; exact hm.lt
 have HHO := Lib.hid (fun (c : List Int) (W : World) (hcP : PosP N c) => hole_go (posF c c.length) (holeL c) W (posF_hole (hcP.w h0) hN9).2.2 (posF_hole (hcP.w h0) hN9).1 (posF_hole (hcP.w h0) hN9).2.1)
 have HS := Lib.hid (fun (W : World) (h : Below B w W) => show SrchR W sg g m nv from Row.below hs h hsl)
 have HM := Lib.hid (fun (W : World) (c : List Int) (h : Below B w W) (hcP : PosP N c) => show (Instr.lookup 123 (.map (some m)) (nineV (posF c c.length)) false).run Tryd.prog W = .ok (nineV (lookF par c)) W from (hm.block (h.block m hml)).get hN9 hcP)
 have HPS := Lib.hid (fun (c : List Int) (k : Nat) (h1 : c ∈ keysP par) (h2 : DistIs E N p k c) => par_step hpar h1 h2)
 have HGE := Lib.hid (fun (c : List Int) (h1 : c ∈ keysP par) => (parF_get h1).choose_spec.2.2.2)
 have HPP := Lib.hid (fun (c : List Int) (k : Nat) (h : DistIs E N p k c) => (way_rev hp h0 h.1).1)
 have HB1 := Lib.hid hb1
 have HBW := Lib.hid hbw1
 have HQP := Lib.hid hqP
 have HQ := Lib.hid hq
 have HD := Lib.hid hd
 have HBB := Lib.hid hB
 have HQ0 := Lib.hid hQ0
 have hho := HHO.out q
 rw [hQ0] at hho
 unfold nineV at hho
 have HHQ := Lib.hid hho
 have hLH := backL_head par d q
 have HLH : Hid (∀ (k : Nat) (c : List Int), ∃ t, backL par k c = c :: t ∧ t.length = k) := fun k c => backL_head par k c
 clear hs hm hpar hp hqP hq hd hc hho hb1 hbw1 hW1 hLH hQ0
 go_enter Tryd.func80, Tryd.ntmps80
 rw [hB]
 obtain ⟨b0, b1, b2, b3, b4, b5, b6, b7, b8⟩ := nine_cells HB1.out
 go_wp2_with (first | (go_at_call 75; refine (HHQ.out W1 HQP.out).mono ?_; rintro e w2 ⟨rfl, hb2⟩; have HB2 := Lib.hid (HBW.out.trans (hb2.mono HBW.out.size)); have HR2 := Lib.hid (HB1.out.below hb2 HB1.out.lt); have hw2s := hb2.size; clear hb2 b0 b1 b2 b3 b4 b5 b6 b7 b8 c0 c1 c2 c3 c4 c5 c6 c7 c8 hW))
 obtain ⟨H0, hH0⟩ : ∃ H0, w2.heap.size = H0 := ⟨_, rfl⟩
 obtain ⟨w3, hw3⟩ : ∃ w3, w2.alloc (.cells #[.int .i64 ((holeL q : Nat) : Int)] 3) = w3 := ⟨_, rfl⟩
 have hr3 := row_new 3 w2 #[.int .i64 ((holeL q : Nat) : Int)]
 have hb3 := below_alloc_refl w2 (.cells #[.int .i64 ((holeL q : Nat) : Int)] 3)
 rw [hw3] at hr3 hb3
 have ho3 : Own 3 (B + 1) w3 (.slice (some ⟨H0, 0, none⟩) 1 1) (ints (holesL [q])) := by
  refine OwnK.of_row (more := []) (n := 1) (cap := 1) ?_ (by omega) (by decide) (by decide) rfl rfl
  rw [← hH0]; exact hr3
 have HST : Hid (∃ (c : List Int) (H : List (List Int)), DistIs E N p d c ∧ c ∈ keysP par ∧ Row 82 w3 B (nineL (posF c c.length)) ∧ Own 3 (B + 1) w3 (.slice (some ⟨H0, 0, none⟩) 1 1) (ints (holesL H)) ∧ backL par d q = H ++ (backL par d c).tail ∧ Below B w w3) :=
  ⟨q, [q], HD.out, HQ.out, by rw [HQ0.out]; exact HR2.out.below hb3 HR2.out.lt, ho3, by obtain ⟨t, ht, _⟩ := HLH.out d q; rw [ht]; rfl, by rw [← HBB.out]; exact HB2.out.trans (hb3.mono HB2.out.size)⟩
 rw [hH0, hw3]
 clear hr3 hb3 ho3 hw3 hH0 HR2 HB2
 go_loopg [5] d (fun k hv wr => ∃ (c : List Int) (H : List (List Int)), DistIs E N p k c ∧ c ∈ keysP par ∧ Row 82 wr B (nineL (posF c c.length)) ∧ Own 3 (B + 1) wr hv (ints (holesL H)) ∧ backL par d q = H ++ (backL par k c).tail ∧ Below B w wr)
 case atStart => exact HST.out
 case round =>
  clear HST
  obtain ⟨c, H, hdk, hck, hrow, hown, hbl, hbel⟩ := hrel
  have hcP := HPP.out c gk hdk
  have hstep := HPS.out c gk hck hdk
  have hlk := HGE.out c hck
  have heq : eq9 (lookF par c) (posF c c.length) = decide (parF par c = c) := by
   have hpP : PosP N (parF par c) := by
    rcases hstep with ⟨_, _, h⟩ | ⟨e, _, h, _⟩
    ·rw [h]; exact hcP
    ·exact HPP.out _ _ h
   rw [hlk]; exact eq9_pos hN9 hpP hcP
  have hszr : B + 1 ≤ wr.heap.size := hrow.lt
  obtain ⟨t0, ht0, htl0⟩ := HLH.out gk c
  obtain ⟨t9, ht9, htl9⟩ := HLH.out d q
  have hHl : H.length ≤ 362881 := by
   have := congrArg List.length hbl
   rw [ht0, ht9, List.length_append, List.tail_cons, List.length_cons, htl0, htl9] at this
   omega
  have HHL : Hid ((ints (holesL H)).length ≤ 1000000) := by show _ ≤ _; rw [ints_length]; unfold holesL; rw [List.length_map]; omega
  obtain ⟨C, hC⟩ : ∃ C, posF c c.length = C := ⟨_, rfl⟩
  obtain ⟨G, hG⟩ : ∃ G, lookF par c = G := ⟨_, rfl⟩
  obtain ⟨bq, hbq⟩ : ∃ bq, eq9 G C = bq := ⟨_, rfl⟩
  rw [hC] at hrow
  obtain ⟨X0, hX0⟩ : ∃ X0 : World, wr.drew = X0 := ⟨_, rfl⟩
  obtain ⟨Y0, hY0⟩ : ∃ Y0 : World, X0.drew = Y0 := ⟨_, rfl⟩
  obtain ⟨Y1, hY1⟩ : ∃ Y1, st9 Y0 B G = Y1 := ⟨_, rfl⟩
  have hbX0 : Below B w X0 := by rw [← hX0]; exact hbel.drew
  have hbY0 : Below B w Y0 := by rw [← hY0]; exact hbX0.drew
  have hbY1 : Below B w Y1 := by rw [← hY1]; exact below_st9 G hbY0 (Nat.le_refl _)
  have sX : Same (fun _ => True) wr X0 := by rw [← hX0]; exact Same.drew _ _
  have sY : Same (fun _ => True) wr Y0 := by rw [← hY0]; exact sX.trans (Same.drew (fun _ => True) _) fun _ _ _ => trivial
  have rX : Row 82 X0 B (nineL C) := sX.row hrow trivial
  have rY0 : Row 82 Y0 B (nineL C) := sY.row hrow trivial
  have rY1 : Row 82 Y1 B (nineL G) := by rw [← hY1]; exact row_st9 G rY0
  have oX : Own 3 (B + 1) X0 u5 (ints (holesL H)) := own_sameN' hown sX fun _ _ => trivial
  have oY1 : Own 3 (B + 1) Y1 u5 (ints (holesL H)) := by
   refine own_sameN' hown (K := fun b => b ≠ B) ((sY.mono (K' := fun b => b ≠ B) fun _ _ _ => trivial).trans (K' := fun b => b ≠ B) ?_ fun _ _ h => h) fun b hb e => ?_
   ·rw [← hY1]; exact same_st9 G
   ·have := (OwnK.ob_lt hown b hb).2.1; omega
  have hlX : (Instr.lookup 123 (.map (some m)) (nineV C) false).run Tryd.prog X0 = .ok (nineV G) X0 := by rw [← hC, ← hG]; exact HM.out X0 c hbX0 hcP
  have hlY : (Instr.lookup 123 (.map (some m)) (nineV C) false).run Tryd.prog Y0 = .ok (nineV G) Y0 := by rw [← hC, ← hG]; exact HM.out Y0 c hbY0 hcP
  have heX := equal9 G C X0
  rw [hbq] at heX
  have hY1s : B + 1 ≤ Y1.heap.size := rY1.lt
  have HXS := Lib.hid (HS.out X0 hbX0)
  have HYS := Lib.hid (HS.out Y0 hbY0)
  have HRX := Lib.hid rX
  have HRY := Lib.hid rY0
  have HRY1 := Lib.hid rY1
  have HOX := Lib.hid oX
  have HOY := Lib.hid oY1
  have HBX := Lib.hid hbX0
  have HBY := Lib.hid hbY1
  have HLX := Lib.hid hlX
  have HLY := Lib.hid hlY
  have HEX := Lib.hid heX
  have HX0 := Lib.hid hX0
  have HY0 := Lib.hid hY0
  have HY1 := Lib.hid hY1
  have HBQ : Hid (bq = decide (parF par c = c)) := by rw [← hbq, ← hG, ← hC]; exact heq
  have HGG : Hid (posF (parF par c) (parF par c).length = G) := by show _ = _; rw [← hlk, hG]
  have HSTEP := Lib.hid hstep
  have HBL := Lib.hid hbl
  have HT0 := Lib.hid ht0
  clear hdk hck hrow hown hbl hbel hcP hstep hlk heq hC hG hbq hX0 hY0 hY1 hbX0 hbY0 hbY1 sX sY rX rY0 rY1 oX oY1 hlX hlY heX ht0 htl0 ht9 htl9
  go_wp2
  refine wp_region_det (by kernel_rfl) 30 rfl (by kernel_rfl) [] (by kernel_rfl) (by decide) (fun j => match j with | 0 => .pointer (some ⟨sg, 0, none⟩) | 1 => .pointer (some ⟨sg, 0, none⟩) | 2 => .pointer (some ⟨sg, 1, none⟩) | 3 => .map (some m) | 4 => .agg #[.int .i8 (C 0), .int .i8 (C 1), .int .i8 (C 2), .int .i8 (C 3), .int .i8 (C 4), .int .i8 (C 5), .int .i8 (C 6), .int .i8 (C 7), .int .i8 (C 8)] | 5 => .agg #[.int .i8 (G 0), .int .i8 (G 1), .int .i8 (G 2), .int .i8 (G 3), .int .i8 (G 4), .int .i8 (G 5), .int .i8 (G 6), .int .i8 (G 7), .int .i8 (G 8)] | 6 => .agg #[.int .i8 (C 0), .int .i8 (C 1), .int .i8 (C 2), .int .i8 (C 3), .int .i8 (C 4), .int .i8 (C 5), .int .i8 (C 6), .int .i8 (C 7), .int .i8 (C 8)] | 7 => .bool (!bq) | _ => undef) (fun s => match s with  | _ => X0) HX0.out.symm ?hop ?hQ
  case hop =>
   intro i o hi s hs hok vs0 hv
   have hi' : i < 8 := (List.getElem?_eq_some_iff.1 hi).1
   have hs' : s ≤ 0 := hs
   have hs3 : s = 0 := by clear hok hv hi hs; omega
   have hi3 : i = 0 ∨ i = 1 ∨ i = 2 ∨ i = 3 ∨ i = 4 ∨ i = 5 ∨ i = 6 ∨ i = 7 := by clear hok hv hi hs hs3; omega
   clear hs hs' hi'
   rcases hi3 with rfl | rfl | rfl | rfl | rfl | rfl | rfl | rfl
   ·cases hi
    generalize hG : relUpon _ _ _ = G9
    clear hv
    refine ⟨rfl, ?_⟩
    rcases hs3 with rfl
    ·first
      | (clear hok; subst hG; generalize hR : (fun (u : Value) (w2 : World) => u = _ ∧ w2 = _) = R; simp only [List.take_succ_cons, List.take_zero, putAll]; go_simp; subst hR; exact ⟨rfl, rfl⟩)
   ·cases hi
    generalize hG : relUpon _ _ _ = G9
    have q0_ : vs0 0 = .pointer (some ⟨sg, 0, none⟩) := hv 0 (by decide +kernel)
    clear hv
    refine ⟨rfl, ?_⟩
    rcases hs3 with rfl
    ·first
      | (clear hok; subst hG; generalize hR : (fun (u : Value) (w2 : World) => u = _ ∧ w2 = _) = R; simp only [List.take_succ_cons, List.take_zero, putAll]; go_simp; subst hR; exact ⟨rfl, rfl⟩)
   ·cases hi
    generalize hG : relUpon _ _ _ = G9
    have q1_ : vs0 1 = .pointer (some ⟨sg, 0, none⟩) := hv 1 (by decide +kernel)
    clear hv
    refine ⟨rfl, ?_⟩
    rcases hs3 with rfl
    ·first
      | (clear hok; subst hG; generalize hR : (fun (u : Value) (w2 : World) => u = _ ∧ w2 = _) = R; simp only [List.take_succ_cons, List.take_zero, putAll]; go_simp; subst hR; exact ⟨rfl, rfl⟩)
   ·cases hi
    generalize hG : relUpon _ _ _ = G9
    have q2_ : vs0 2 = .pointer (some ⟨sg, 1, none⟩) := hv 2 (by decide +kernel)
    clear hv
    refine ⟨rfl, ?_⟩
    rcases hs3 with rfl
    ·first
      | (clear hok; subst hG; generalize hR : (fun (u : Value) (w2 : World) => u = _ ∧ w2 = _) = R; simp only [List.take_succ_cons, List.take_zero, putAll]; have t := Row.cell HXS.out 1; simp only [List.getElem?_cons_succ, List.getElem?_cons_zero] at t; go_simp; subst hR; exact ⟨rfl, rfl⟩)
   ·cases hi
    generalize hG : relUpon _ _ _ = G9
    clear hv
    refine ⟨rfl, ?_⟩
    rcases hs3 with rfl
    ·clear hok
     subst hG
     generalize hX : Sem.run _ (execOp _ _) _ = r9
     simp only [List.take_succ_cons, List.take_zero, putAll] at hX
     rw [exec_load9 HRX.out rfl (by go_simp)] at hX
     subst hX
     exact ⟨rfl, rfl⟩
   ·cases hi
    generalize hG : relUpon _ _ _ = G9
    have q3_ : vs0 3 = .map (some m) := hv 3 (by decide +kernel)
    have q4_ : vs0 4 = .agg #[.int .i8 (C 0), .int .i8 (C 1), .int .i8 (C 2), .int .i8 (C 3), .int .i8 (C 4), .int .i8 (C 5), .int .i8 (C 6), .int .i8 (C 7), .int .i8 (C 8)] := hv 4 (by decide +kernel)
    clear hv
    refine ⟨rfl, ?_⟩
    rcases hs3 with rfl
    ·first
      | (clear hok; subst hG; generalize hR : (fun (u : Value) (w2 : World) => u = _ ∧ w2 = _) = R; simp only [List.take_succ_cons, List.take_zero, putAll]; have lk := HLX.out; unfold nineV at lk; go_simp; subst hR; exact ⟨rfl, rfl⟩)
   ·cases hi
    generalize hG : relUpon _ _ _ = G9
    clear hv
    refine ⟨rfl, ?_⟩
    rcases hs3 with rfl
    ·clear hok
     subst hG
     generalize hX : Sem.run _ (execOp _ _) _ = r9
     simp only [List.take_succ_cons, List.take_zero, putAll] at hX
     rw [exec_load9 HRX.out rfl (by go_simp)] at hX
     subst hX
     exact ⟨rfl, rfl⟩
   ·cases hi
    generalize hG : relUpon _ _ _ = G9
    have q5_ : vs0 5 = .agg #[.int .i8 (G 0), .int .i8 (G 1), .int .i8 (G 2), .int .i8 (G 3), .int .i8 (G 4), .int .i8 (G 5), .int .i8 (G 6), .int .i8 (G 7), .int .i8 (G 8)] := hv 5 (by decide +kernel)
    have q6_ : vs0 6 = .agg #[.int .i8 (C 0), .int .i8 (C 1), .int .i8 (C 2), .int .i8 (C 3), .int .i8 (C 4), .int .i8 (C 5), .int .i8 (C 6), .int .i8 (C 7), .int .i8 (C 8)] := hv 6 (by decide +kernel)
    clear hv
    refine ⟨rfl, ?_⟩
    rcases hs3 with rfl
    ·first
      | (clear hok; subst hG; generalize hR : (fun (u : Value) (w2 : World) => u = _ ∧ w2 = _) = R; simp only [List.take_succ_cons, List.take_zero, putAll]; have ee := HEX.out; unfold nineV at ee; go_simp; subst hR; exact ⟨rfl, rfl⟩)
  case hQ =>
   intro vs0 hv
   have e0_ : vs0 0 = .pointer (some ⟨sg, 0, none⟩) := hv 0 (by decide)
   have e1_ : vs0 1 = .pointer (some ⟨sg, 0, none⟩) := hv 1 (by decide)
   have e2_ : vs0 2 = .pointer (some ⟨sg, 1, none⟩) := hv 2 (by decide)
   have e3_ : vs0 3 = .map (some m) := hv 3 (by decide)
   have e4_ : vs0 4 = .agg #[.int .i8 (C 0), .int .i8 (C 1), .int .i8 (C 2), .int .i8 (C 3), .int .i8 (C 4), .int .i8 (C 5), .int .i8 (C 6), .int .i8 (C 7), .int .i8 (C 8)] := hv 4 (by decide)
   have e5_ : vs0 5 = .agg #[.int .i8 (G 0), .int .i8 (G 1), .int .i8 (G 2), .int .i8 (G 3), .int .i8 (G 4), .int .i8 (G 5), .int .i8 (G 6), .int .i8 (G 7), .int .i8 (G 8)] := hv 5 (by decide)
   have e6_ : vs0 6 = .agg #[.int .i8 (C 0), .int .i8 (C 1), .int .i8 (C 2), .int .i8 (C 3), .int .i8 (C 4), .int .i8 (C 5), .int .i8 (C 6), .int .i8 (C 7), .int .i8 (C 8)] := hv 6 (by decide)
   have e7_ : vs0 7 = .bool (!bq) := hv 7 (by decide)
   generalize hKK : Exit.then _ _ = KK
   simp only [putAll, e0_, e1_, e2_, e3_, e4_, e5_, e6_, e7_]
   clear hv e0_ e1_ e2_ e3_ e4_ e5_ e6_ e7_
   go_simp
   subst hKK
   rcases HSTEP.out with ⟨hk0, hcp, hpe⟩ | ⟨e, hke, hde, hnb, hke2, hpne⟩
   ·have hbt : bq = true := by rw [HBQ.out, hpe]; simp
    subst hbt
    have hFIN : Hid (Own 3 (B + 1) X0 u5 (ints (holesL (backL par d q))) ∧ Below B w X0) := ⟨by rw [HBL.out, HT0.out, show t0 = [] by subst hk0; have := HT0.out; have h2 : backL par 0 c = [c] := rfl; rw [h2] at this; simpa using (List.cons.inj this).2.symm, List.tail_cons, List.append_nil]; exact HOX.out, HBX.out⟩
    clear hcp hpe
    go_wp2
    go_ret
    exact ⟨_, rfl, hFIN.out.1.base (by omega), hFIN.out.2⟩
   ·have hbf : bq = false := by rw [HBQ.out, decide_eq_false hpne]
    subst hbf
    have HDE := Lib.hid hde
    have HNB := Lib.hid hnb
    have HKE := Lib.hid hke2
    clear hde hnb hke2 hpne
    go_wp2
    refine wp_region_det (by kernel_rfl) 30 rfl (by kernel_rfl) [6] (by kernel_rfl) (by decide) (fun j => match j with | 0 => .pointer (some ⟨sg, 0, none⟩) | 1 => .pointer (some ⟨sg, 0, none⟩) | 2 => .pointer (some ⟨sg, 1, none⟩) | 3 => .map (some m) | 4 => .agg #[.int .i8 (C 0), .int .i8 (C 1), .int .i8 (C 2), .int .i8 (C 3), .int .i8 (C 4), .int .i8 (C 5), .int .i8 (C 6), .int .i8 (C 7), .int .i8 (C 8)] | 5 => .agg #[.int .i8 (G 0), .int .i8 (G 1), .int .i8 (G 2), .int .i8 (G 3), .int .i8 (G 4), .int .i8 (G 5), .int .i8 (G 6), .int .i8 (G 7), .int .i8 (G 8)] | 6 => undef | _ => undef) (fun s => match s with | 0 => Y0 | _ => Y1) HY0.out.symm ?hop ?hQ
    case hop =>
     intro i o hi s hs hok vs0 hv
     have hi' : i < 7 := (List.getElem?_eq_some_iff.1 hi).1
     have hs' : s ≤ 1 := hs
     have hs3 : s = 0 ∨ s = 1 := by clear hok hv hi hs; omega
     have hi3 : i = 0 ∨ i = 1 ∨ i = 2 ∨ i = 3 ∨ i = 4 ∨ i = 5 ∨ i = 6 := by clear hok hv hi hs hs3; omega
     clear hs hs' hi'
     rcases hi3 with rfl | rfl | rfl | rfl | rfl | rfl | rfl
     ·cases hi
      generalize hG : relUpon _ _ _ = G9
      clear hv
      refine ⟨rfl, ?_⟩
      rcases hs3 with rfl | rfl
      ·first
        | (clear hok; subst hG; generalize hR : (fun (u : Value) (w2 : World) => u = _ ∧ w2 = _) = R; simp only [List.take_succ_cons, List.take_zero, putAll]; go_simp; subst hR; exact ⟨rfl, rfl⟩)
      ·exact (okSt_no hok (by kernel_rfl)).elim
     ·cases hi
      generalize hG : relUpon _ _ _ = G9
      have q0_ : vs0 0 = .pointer (some ⟨sg, 0, none⟩) := hv 0 (by decide +kernel)
      clear hv
      refine ⟨rfl, ?_⟩
      rcases hs3 with rfl | rfl
      ·first
        | (clear hok; subst hG; generalize hR : (fun (u : Value) (w2 : World) => u = _ ∧ w2 = _) = R; simp only [List.take_succ_cons, List.take_zero, putAll]; go_simp; subst hR; exact ⟨rfl, rfl⟩)
      ·exact (okSt_no hok (by kernel_rfl)).elim
     ·cases hi
      generalize hG : relUpon _ _ _ = G9
      have q1_ : vs0 1 = .pointer (some ⟨sg, 0, none⟩) := hv 1 (by decide +kernel)
      clear hv
      refine ⟨rfl, ?_⟩
      rcases hs3 with rfl | rfl
      ·first
        | (clear hok; subst hG; generalize hR : (fun (u : Value) (w2 : World) => u = _ ∧ w2 = _) = R; simp only [List.take_succ_cons, List.take_zero, putAll]; go_simp; subst hR; exact ⟨rfl, rfl⟩)
      ·exact (okSt_no hok (by kernel_rfl)).elim
     ·cases hi
      generalize hG : relUpon _ _ _ = G9
      have q2_ : vs0 2 = .pointer (some ⟨sg, 1, none⟩) := hv 2 (by decide +kernel)
      clear hv
      refine ⟨rfl, ?_⟩
      rcases hs3 with rfl | rfl
      ·first
        | (clear hok; subst hG; generalize hR : (fun (u : Value) (w2 : World) => u = _ ∧ w2 = _) = R; simp only [List.take_succ_cons, List.take_zero, putAll]; have t := Row.cell HYS.out 1; simp only [List.getElem?_cons_succ, List.getElem?_cons_zero] at t; go_simp; subst hR; exact ⟨rfl, rfl⟩)
      ·exact (okSt_no hok (by kernel_rfl)).elim
     ·cases hi
      generalize hG : relUpon _ _ _ = G9
      clear hv
      refine ⟨rfl, ?_⟩
      rcases hs3 with rfl | rfl
      ·clear hok
       subst hG
       generalize hX : Sem.run _ (execOp _ _) _ = r9
       simp only [List.take_succ_cons, List.take_zero, putAll] at hX
       rw [exec_load9 HRY.out rfl (by go_simp)] at hX
       subst hX
       exact ⟨rfl, rfl⟩
      ·exact (okSt_no hok (by kernel_rfl)).elim
     ·cases hi
      generalize hG : relUpon _ _ _ = G9
      have q3_ : vs0 3 = .map (some m) := hv 3 (by decide +kernel)
      have q4_ : vs0 4 = .agg #[.int .i8 (C 0), .int .i8 (C 1), .int .i8 (C 2), .int .i8 (C 3), .int .i8 (C 4), .int .i8 (C 5), .int .i8 (C 6), .int .i8 (C 7), .int .i8 (C 8)] := hv 4 (by decide +kernel)
      clear hv
      refine ⟨rfl, ?_⟩
      rcases hs3 with rfl | rfl
      ·first
        | (clear hok; subst hG; generalize hR : (fun (u : Value) (w2 : World) => u = _ ∧ w2 = _) = R; simp only [List.take_succ_cons, List.take_zero, putAll]; have lk := HLY.out; unfold nineV at lk; go_simp; subst hR; exact ⟨rfl, rfl⟩)
      ·exact (okSt_no hok (by kernel_rfl)).elim
     ·cases hi
      generalize hG : relUpon _ _ _ = G9
      have q5_ : vs0 5 = .agg #[.int .i8 (G 0), .int .i8 (G 1), .int .i8 (G 2), .int .i8 (G 3), .int .i8 (G 4), .int .i8 (G 5), .int .i8 (G 6), .int .i8 (G 7), .int .i8 (G 8)] := hv 5 (by decide +kernel)
      clear hv
      refine ⟨rfl, ?_⟩
      rcases hs3 with rfl | rfl
      ·clear hok
       subst hG
       generalize hX : Sem.run _ (execOp _ _) _ = r9
       simp only [List.take_succ_cons, List.take_zero, putAll] at hX
       rw [exec_store9 (G := G) HRY.out rfl (by go_simp) (by go_simp; rfl)] at hX
       subst hX
       exact ⟨rfl, HY1.out⟩
      ·exact (okSt_no hok (by kernel_rfl)).elim
    case hQ =>
     intro vs0 hv
     have e0_ : vs0 0 = .pointer (some ⟨sg, 0, none⟩) := hv 0 (by decide)
     have e1_ : vs0 1 = .pointer (some ⟨sg, 0, none⟩) := hv 1 (by decide)
     have e2_ : vs0 2 = .pointer (some ⟨sg, 1, none⟩) := hv 2 (by decide)
     have e3_ : vs0 3 = .map (some m) := hv 3 (by decide)
     have e4_ : vs0 4 = .agg #[.int .i8 (C 0), .int .i8 (C 1), .int .i8 (C 2), .int .i8 (C 3), .int .i8 (C 4), .int .i8 (C 5), .int .i8 (C 6), .int .i8 (C 7), .int .i8 (C 8)] := hv 4 (by decide)
     have e5_ : vs0 5 = .agg #[.int .i8 (G 0), .int .i8 (G 1), .int .i8 (G 2), .int .i8 (G 3), .int .i8 (G 4), .int .i8 (G 5), .int .i8 (G 6), .int .i8 (G 7), .int .i8 (G 8)] := hv 5 (by decide)
     have e6_ : vs0 6 = undef := hv 6 (by decide)
     generalize hKK : Exit.then _ _ = KK
     simp only [putAll, e0_, e1_, e2_, e3_, e4_, e5_, e6_]
     clear hv e0_ e1_ e2_ e3_ e4_ e5_ e6_
     go_simp
     subst hKK
     obtain ⟨b0, b1, b2, b3, b4, b5, b6, b7, b8⟩ := nine_cells HRY1.out
     obtain ⟨hc9, hhc⟩ : ∃ hc9, holeL (parF par c) = hc9 := ⟨_, rfl⟩
     have hho := HHO.out (parF par c) Y1 (HPP.out _ _ HDE.out)
     rw [HGG.out, hhc] at hho
     unfold nineV at hho
     have HH2 := Lib.hid hho
     have HHC := Lib.hid hhc
     clear hho hhc
     go_wp2_with (first | (go_at_call 75; refine (HH2.out).mono ?_; rintro e w6 ⟨rfl, hb6⟩; have HB6 := Lib.hid hb6; have HO6 := Lib.hid (Own.below HOY.out hb6 (Nat.le_refl _)); have HR6 := Lib.hid (HRY1.out.below hb6 HRY1.out.lt); have hw6s : B + 1 ≤ w6.heap.size := Nat.le_trans hY1s hb6.size; clear hb6 b0 b1 b2 b3 b4 b5 b6 b7 b8) | (at_builtin; refine wpList_append_box w6 rfl (.tmp 24) (.tmp 27) 23 rfl 3 (.int .i64 0) 8 Tryd.underlying23 Tryd.infoI rfl (by omega) (B + 1) u5 (ints (holesL H)) rfl HO6.out (.int .i64 (hc9 : Int)) rfl rfl HHL.out hw6s ?_; intro v7 w7 hown7 hb7 hrest7; have HO7 := Lib.hid hown7; have HB7 := Lib.hid hb7; have HR7 := Lib.hid (HR6.out.below hb7 (by omega)); clear hown7 hb7 hrest7))
     go_roundg e
     case measure => omega
     case rel =>
      refine ⟨parF par c, H ++ [parF par c], HDE.out, HKE.out, by rw [HGG.out]; exact HR7.out, ?_, ?_, ?_⟩
      ·have : ints (holesL (H ++ [parF par c])) = ints (holesL H) ++ [.int .i64 (hc9 : Int)] := by unfold holesL; rw [List.map_append, ints_append, ← HHC.out]; rfl
       rw [this]; exact HO7.out
      ·rw [HBL.out, hke]
       obtain ⟨t8, ht8, _⟩ := HLH.out e (parF par c)
       show H ++ (c :: backL par e (parF par c)).tail = _
       rw [List.tail_cons, ht8, List.tail_cons, List.append_assoc]; rfl
      ·exact (HBY.out.trans (HB6.out.mono (by omega))).trans (HB7.out.mono (by omega))
end Go.Proofs.YtllhejjcmfiebaaDoor
