/- SlideChecks. -/
import Derived.Test.YtmlfbcahdiomoaaDoorS17
import Derived.Test.YtmlfbcahdiomoaaDoorAwake
set_option linter.unusedVariables false
set_option linter.unusedSimpArgs false
set_option linter.unnecessarySimpa false
namespace Go.Proofs.YtmlfbcahdiomoaaDoor
open Go.RowKit Go.Shelf

theorem checkB_vals (n : Int) (l : Ps) : checkB n l = 0 ∨ checkB n l = 1 ∨ checkB n l = 100 := by
  unfold checkB
  split
  · split
    · exact Or.inl rfl
    · exact Or.inr (Or.inr rfl)
  · exact Or.inr (Or.inl rfl)
theorem posE_vals (n : Int) (q : List Int) : (posE n q = 0 ∧ posR n q = true) ∨ (posE n q = 1 ∧ posR n q = false) := by
  unfold posE posR
  cases h : (sizeB n && posB n.toNat q) with
  | true => exact Or.inl ⟨rfl, rfl⟩
  | false => exact Or.inr ⟨rfl, rfl⟩
set_option maxRecDepth 100000 in
set_option maxHeartbeats 8000000 in
theorem lawChecks (n : Int) (vl vo : Value) (l : Ps) (o : List Int) (w : World) (ht : Tab w) (hl : PaA w vl l) (ho : SlA w vo (ints o)) :
    Calls Tryd.prog 3 #[.int .i64 n, vl, vo] w fun e w' => e = .returned (.bool true) ∧ Below w.heap.size w w' := by
  have HOWN := Lib.hid (own_any vl l w hl)
  have HLIST := Lib.hid (fun W (hb : Below w.heap.size w W) => (show Calls Tryd.prog 13 #[vo, .int .i64 12] W _ from list_any vo o 12 W (ho.below hb) (by omega)))
  have HT := Lib.hid ht
  obtain ⟨pl, cl, rfl, _, _⟩ := hl.form
  obtain ⟨po, co, rfl, _, _⟩ := ho.form
  clear hl ho ht
  go_enter Tryd.func3, Tryd.ntmps3
  go_wp2_with (first
    | (go_at_call 12; refine (HOWN.out).mono ?_; rintro e w1 ⟨vx, rfl, hx, hb1⟩; have HX1 := Lib.hid hx; have HB1 := Lib.hid hb1; clear hx hb1)
    | (go_at_call 13; refine (HLIST.out _ HB1.out).mono ?_; rintro e w2 ⟨vp, rfl, hp, hb2⟩; have HP2 := Lib.hid hp; have HB2 := Lib.hid hb2; clear hp hb2))
  have hX : SlP w2 vx (l.take 40) := (HX1.out.sl).below HB2.out
  have hP : SlA w2 vp (ints (o.take 12)) := HP2.out.sl.toA
  have hB0 : Below w.heap.size w w2 := HB1.out.trans (HB2.out.mono HB1.out.size)
  have hT : Tab w2 := HT.out.below hB0 HT.out.lt
  clear HOWN HLIST HX1 HP2 HB1 HB2 HT
  generalize l.take 40 = x at hX
  generalize o.take 12 = q at hP
  obtain ⟨px, cx, rfl, _, _⟩ := hX.len
  obtain ⟨pq, cq, rfl, _, _⟩ := hP.form
  have h2 := hT.lt
  have H14 := Lib.hid (fun W (hb : Below w2.heap.size w2 W) => rcheck_go _ n x W (hX.below hb))
  have H15 := Lib.hid (fun W (hb : Below w2.heap.size w2 W) => check_go _ n x W (hX.below hb) (hT.below hb h2))
  have H16 := Lib.hid (fun W (hb : Below w2.heap.size w2 W) => checkPos_go _ n q W (hP.below hb))
  have H17 := Lib.hid (fun W (hb : Below w2.heap.size w2 W) => rpos_go _ n q W (hP.below hb))
  have H18 := Lib.hid (fun W (hb : Below w2.heap.size w2 W) => sign2_go _ _ n q q W (hP.below hb) (hP.below hb))
  have H19 := Lib.hid (fun W (hb : Below w2.heap.size w2 W) => whole_bad _ n x W (hX.below hb) (hT.below hb h2))
  have H20 := Lib.hid (fun W (hb : Below w2.heap.size w2 W) => sides_bad _ n x W (hX.below hb) (hT.below hb h2))
  have H21 := Lib.hid (fun W (hb : Below w2.heap.size w2 W) => size_bad _ n x W (hX.below hb) (hT.below hb h2))
  have H23 := Lib.hid (fun W (hb : Below w2.heap.size w2 W) => apply_bad _ _ none 0 0 n x q W (hX.below hb) (hT.below hb h2) (hP.below hb))
  have H24 := Lib.hid (fun W (hb : Below w2.heap.size w2 W) => reach_bad _ (.slice pq q.length cq) pq q.length cq n x q W (hX.below hb) (hT.below hb h2) (hP.below hb))
  have H25 := Lib.hid (fun W (hb : Below w2.heap.size w2 W) => solve_bad _ (.slice pq q.length cq) pq q.length cq n x q W (hX.below hb) (hT.below hb h2) (hP.below hb))
  have H26 := Lib.hid (fun W (hb : Below w2.heap.size w2 W) => count_bad _ _ n x q W (hX.below hb) (hT.below hb h2) (hP.below hb))
  have H27 := Lib.hid (fun W (hb : Below w2.heap.size w2 W) => far_bad _ _ n x q W (hX.below hb) (hT.below hb h2) (hP.below hb))
  have H22 := Lib.hid (fun W (hb : Below w2.heap.size w2 W) => awake_spec W (hT.below hb h2))
  have HB := Lib.hid (Below.refl w2.heap.size w2)
  have HB0 := Lib.hid hB0
  have hcv := checkB_vals n x
  have hpv := posE_vals n q
  have her : errE n x q = if checkB n x = 0 then posE n q else checkB n x := rfl
  clear hX hP hT hB0 h2
  generalize checkB n x = c at H14 H15 H19 H20 H21 hcv her
  generalize posE n q = pe at H16 H18 hpv her
  generalize posR n q = r at H17 hpv
  generalize errE n x q = er at H23 H24 H25 H26 H27 her
  generalize signL q q = sg at H18
  rcases hcv with rfl | rfl | rfl <;> rcases hpv with ⟨rfl, rfl⟩ | ⟨rfl, rfl⟩
  · simp at her
    subst her
    go_wp2_with (first
      | (go_at_call 14; refine (H14.out _ HB.out).mono ?_; rintro e w1 ⟨rfl, hb1⟩; have HB := Lib.hid (HB.out.trans (hb1.mono HB.out.size)); clear hb1)
      | (go_at_call 15; refine (H15.out _ HB.out).mono ?_; rintro e w1 ⟨rfl, hb1⟩; have HB := Lib.hid (HB.out.trans (hb1.mono HB.out.size)); clear hb1)
      | (go_at_call 16; refine (H16.out _ HB.out).mono ?_; rintro e w1 ⟨rfl, hb1⟩; have HB := Lib.hid (HB.out.trans (hb1.mono HB.out.size)); clear hb1)
      | (go_at_call 17; refine (H17.out _ HB.out).mono ?_; rintro e w1 ⟨rfl, hb1⟩; have HB := Lib.hid (HB.out.trans (hb1.mono HB.out.size)); clear hb1)
      | (go_at_call 18; refine (H18.out _ HB.out).mono ?_; rintro e w1 ⟨⟨-, -, he⟩, hb1⟩; obtain rfl : e = .returned (.tuple #[.int .i64 sg, .int .i64 0]) := (by first | exact he trivial trivial | exact he trivial | exact he rfl rfl); clear he; have HB := Lib.hid (HB.out.trans (hb1.mono HB.out.size)); clear hb1)
      | (go_at_call 22; refine (H22.out _ HB.out).mono ?_; rintro e w1 ⟨rfl, hb1⟩; have HB := Lib.hid (HB.out.trans (hb1.mono HB.out.size)); clear hb1))
    go_ret
    exact ⟨rfl, HB0.out.trans (HB.out.mono HB0.out.size)⟩
  · simp at her
    subst her
    go_wp2_with (first
      | (go_at_call 14; refine (H14.out _ HB.out).mono ?_; rintro e w1 ⟨rfl, hb1⟩; have HB := Lib.hid (HB.out.trans (hb1.mono HB.out.size)); clear hb1)
      | (go_at_call 15; refine (H15.out _ HB.out).mono ?_; rintro e w1 ⟨rfl, hb1⟩; have HB := Lib.hid (HB.out.trans (hb1.mono HB.out.size)); clear hb1)
      | (go_at_call 16; refine (H16.out _ HB.out).mono ?_; rintro e w1 ⟨rfl, hb1⟩; have HB := Lib.hid (HB.out.trans (hb1.mono HB.out.size)); clear hb1)
      | (go_at_call 17; refine (H17.out _ HB.out).mono ?_; rintro e w1 ⟨rfl, hb1⟩; have HB := Lib.hid (HB.out.trans (hb1.mono HB.out.size)); clear hb1)
      | (go_at_call 18; refine (H18.out _ HB.out).mono ?_; rintro e w1 ⟨⟨he, -, -⟩, hb1⟩; obtain rfl := he (by decide); clear he; have HB := Lib.hid (HB.out.trans (hb1.mono HB.out.size)); clear hb1)
      | (go_at_call 23; refine (H23.out _ HB.out (by decide)).mono ?_; rintro e w1 ⟨rfl, hb1⟩; have HB := Lib.hid (HB.out.trans (hb1.mono HB.out.size)); clear hb1)
      | (go_at_call 24; refine (H24.out _ HB.out (by decide)).mono ?_; rintro e w1 ⟨rfl, hb1⟩; have HB := Lib.hid (HB.out.trans (hb1.mono HB.out.size)); clear hb1)
      | (go_at_call 25; refine (H25.out _ HB.out (by decide)).mono ?_; rintro e w1 ⟨rfl, hb1⟩; have HB := Lib.hid (HB.out.trans (hb1.mono HB.out.size)); clear hb1)
      | (go_at_call 26; refine (H26.out _ HB.out (by decide)).mono ?_; rintro e w1 ⟨rfl, hb1⟩; have HB := Lib.hid (HB.out.trans (hb1.mono HB.out.size)); clear hb1)
      | (go_at_call 27; refine (H27.out _ HB.out (by decide)).mono ?_; rintro e w1 ⟨rfl, hb1⟩; have HB := Lib.hid (HB.out.trans (hb1.mono HB.out.size)); clear hb1)
      | (go_at_call 22; refine (H22.out _ HB.out).mono ?_; rintro e w1 ⟨rfl, hb1⟩; have HB := Lib.hid (HB.out.trans (hb1.mono HB.out.size)); clear hb1))
    go_ret
    exact ⟨rfl, HB0.out.trans (HB.out.mono HB0.out.size)⟩
  · simp at her
    subst her
    go_wp2_with (first
      | (go_at_call 14; refine (H14.out _ HB.out).mono ?_; rintro e w1 ⟨rfl, hb1⟩; have HB := Lib.hid (HB.out.trans (hb1.mono HB.out.size)); clear hb1)
      | (go_at_call 15; refine (H15.out _ HB.out).mono ?_; rintro e w1 ⟨rfl, hb1⟩; have HB := Lib.hid (HB.out.trans (hb1.mono HB.out.size)); clear hb1)
      | (go_at_call 16; refine (H16.out _ HB.out).mono ?_; rintro e w1 ⟨rfl, hb1⟩; have HB := Lib.hid (HB.out.trans (hb1.mono HB.out.size)); clear hb1)
      | (go_at_call 17; refine (H17.out _ HB.out).mono ?_; rintro e w1 ⟨rfl, hb1⟩; have HB := Lib.hid (HB.out.trans (hb1.mono HB.out.size)); clear hb1)
      | (go_at_call 18; refine (H18.out _ HB.out).mono ?_; rintro e w1 ⟨⟨-, -, he⟩, hb1⟩; obtain rfl : e = .returned (.tuple #[.int .i64 sg, .int .i64 0]) := (by first | exact he trivial trivial | exact he trivial | exact he rfl rfl); clear he; have HB := Lib.hid (HB.out.trans (hb1.mono HB.out.size)); clear hb1)
      | (go_at_call 19; refine (H19.out _ HB.out (by decide)).mono ?_; rintro e w1 ⟨rfl, hb1⟩; have HB := Lib.hid (HB.out.trans (hb1.mono HB.out.size)); clear hb1)
      | (go_at_call 20; refine (H20.out _ HB.out (by decide)).mono ?_; rintro e w1 ⟨rfl, hb1⟩; have HB := Lib.hid (HB.out.trans (hb1.mono HB.out.size)); clear hb1)
      | (go_at_call 21; refine (H21.out _ HB.out (by decide)).mono ?_; rintro e w1 ⟨rfl, hb1⟩; have HB := Lib.hid (HB.out.trans (hb1.mono HB.out.size)); clear hb1)
      | (go_at_call 23; refine (H23.out _ HB.out (by decide)).mono ?_; rintro e w1 ⟨rfl, hb1⟩; have HB := Lib.hid (HB.out.trans (hb1.mono HB.out.size)); clear hb1)
      | (go_at_call 24; refine (H24.out _ HB.out (by decide)).mono ?_; rintro e w1 ⟨rfl, hb1⟩; have HB := Lib.hid (HB.out.trans (hb1.mono HB.out.size)); clear hb1)
      | (go_at_call 25; refine (H25.out _ HB.out (by decide)).mono ?_; rintro e w1 ⟨rfl, hb1⟩; have HB := Lib.hid (HB.out.trans (hb1.mono HB.out.size)); clear hb1)
      | (go_at_call 26; refine (H26.out _ HB.out (by decide)).mono ?_; rintro e w1 ⟨rfl, hb1⟩; have HB := Lib.hid (HB.out.trans (hb1.mono HB.out.size)); clear hb1)
      | (go_at_call 27; refine (H27.out _ HB.out (by decide)).mono ?_; rintro e w1 ⟨rfl, hb1⟩; have HB := Lib.hid (HB.out.trans (hb1.mono HB.out.size)); clear hb1)
      | (go_at_call 22; refine (H22.out _ HB.out).mono ?_; rintro e w1 ⟨rfl, hb1⟩; have HB := Lib.hid (HB.out.trans (hb1.mono HB.out.size)); clear hb1))
    go_ret
    exact ⟨rfl, HB0.out.trans (HB.out.mono HB0.out.size)⟩
  · simp at her
    subst her
    go_wp2_with (first
      | (go_at_call 14; refine (H14.out _ HB.out).mono ?_; rintro e w1 ⟨rfl, hb1⟩; have HB := Lib.hid (HB.out.trans (hb1.mono HB.out.size)); clear hb1)
      | (go_at_call 15; refine (H15.out _ HB.out).mono ?_; rintro e w1 ⟨rfl, hb1⟩; have HB := Lib.hid (HB.out.trans (hb1.mono HB.out.size)); clear hb1)
      | (go_at_call 16; refine (H16.out _ HB.out).mono ?_; rintro e w1 ⟨rfl, hb1⟩; have HB := Lib.hid (HB.out.trans (hb1.mono HB.out.size)); clear hb1)
      | (go_at_call 17; refine (H17.out _ HB.out).mono ?_; rintro e w1 ⟨rfl, hb1⟩; have HB := Lib.hid (HB.out.trans (hb1.mono HB.out.size)); clear hb1)
      | (go_at_call 18; refine (H18.out _ HB.out).mono ?_; rintro e w1 ⟨⟨he, -, -⟩, hb1⟩; obtain rfl := he (by decide); clear he; have HB := Lib.hid (HB.out.trans (hb1.mono HB.out.size)); clear hb1)
      | (go_at_call 19; refine (H19.out _ HB.out (by decide)).mono ?_; rintro e w1 ⟨rfl, hb1⟩; have HB := Lib.hid (HB.out.trans (hb1.mono HB.out.size)); clear hb1)
      | (go_at_call 20; refine (H20.out _ HB.out (by decide)).mono ?_; rintro e w1 ⟨rfl, hb1⟩; have HB := Lib.hid (HB.out.trans (hb1.mono HB.out.size)); clear hb1)
      | (go_at_call 21; refine (H21.out _ HB.out (by decide)).mono ?_; rintro e w1 ⟨rfl, hb1⟩; have HB := Lib.hid (HB.out.trans (hb1.mono HB.out.size)); clear hb1)
      | (go_at_call 23; refine (H23.out _ HB.out (by decide)).mono ?_; rintro e w1 ⟨rfl, hb1⟩; have HB := Lib.hid (HB.out.trans (hb1.mono HB.out.size)); clear hb1)
      | (go_at_call 24; refine (H24.out _ HB.out (by decide)).mono ?_; rintro e w1 ⟨rfl, hb1⟩; have HB := Lib.hid (HB.out.trans (hb1.mono HB.out.size)); clear hb1)
      | (go_at_call 25; refine (H25.out _ HB.out (by decide)).mono ?_; rintro e w1 ⟨rfl, hb1⟩; have HB := Lib.hid (HB.out.trans (hb1.mono HB.out.size)); clear hb1)
      | (go_at_call 26; refine (H26.out _ HB.out (by decide)).mono ?_; rintro e w1 ⟨rfl, hb1⟩; have HB := Lib.hid (HB.out.trans (hb1.mono HB.out.size)); clear hb1)
      | (go_at_call 27; refine (H27.out _ HB.out (by decide)).mono ?_; rintro e w1 ⟨rfl, hb1⟩; have HB := Lib.hid (HB.out.trans (hb1.mono HB.out.size)); clear hb1)
      | (go_at_call 22; refine (H22.out _ HB.out).mono ?_; rintro e w1 ⟨rfl, hb1⟩; have HB := Lib.hid (HB.out.trans (hb1.mono HB.out.size)); clear hb1))
    go_ret
    exact ⟨rfl, HB0.out.trans (HB.out.mono HB0.out.size)⟩
  · simp at her
    subst her
    go_wp2_with (first
      | (go_at_call 14; refine (H14.out _ HB.out).mono ?_; rintro e w1 ⟨rfl, hb1⟩; have HB := Lib.hid (HB.out.trans (hb1.mono HB.out.size)); clear hb1)
      | (go_at_call 15; refine (H15.out _ HB.out).mono ?_; rintro e w1 ⟨rfl, hb1⟩; have HB := Lib.hid (HB.out.trans (hb1.mono HB.out.size)); clear hb1)
      | (go_at_call 16; refine (H16.out _ HB.out).mono ?_; rintro e w1 ⟨rfl, hb1⟩; have HB := Lib.hid (HB.out.trans (hb1.mono HB.out.size)); clear hb1)
      | (go_at_call 17; refine (H17.out _ HB.out).mono ?_; rintro e w1 ⟨rfl, hb1⟩; have HB := Lib.hid (HB.out.trans (hb1.mono HB.out.size)); clear hb1)
      | (go_at_call 18; refine (H18.out _ HB.out).mono ?_; rintro e w1 ⟨⟨-, -, he⟩, hb1⟩; obtain rfl : e = .returned (.tuple #[.int .i64 sg, .int .i64 0]) := (by first | exact he trivial trivial | exact he trivial | exact he rfl rfl); clear he; have HB := Lib.hid (HB.out.trans (hb1.mono HB.out.size)); clear hb1)
      | (go_at_call 19; refine (H19.out _ HB.out (by decide)).mono ?_; rintro e w1 ⟨rfl, hb1⟩; have HB := Lib.hid (HB.out.trans (hb1.mono HB.out.size)); clear hb1)
      | (go_at_call 20; refine (H20.out _ HB.out (by decide)).mono ?_; rintro e w1 ⟨rfl, hb1⟩; have HB := Lib.hid (HB.out.trans (hb1.mono HB.out.size)); clear hb1)
      | (go_at_call 21; refine (H21.out _ HB.out (by decide)).mono ?_; rintro e w1 ⟨rfl, hb1⟩; have HB := Lib.hid (HB.out.trans (hb1.mono HB.out.size)); clear hb1)
      | (go_at_call 23; refine (H23.out _ HB.out (by decide)).mono ?_; rintro e w1 ⟨rfl, hb1⟩; have HB := Lib.hid (HB.out.trans (hb1.mono HB.out.size)); clear hb1)
      | (go_at_call 24; refine (H24.out _ HB.out (by decide)).mono ?_; rintro e w1 ⟨rfl, hb1⟩; have HB := Lib.hid (HB.out.trans (hb1.mono HB.out.size)); clear hb1)
      | (go_at_call 25; refine (H25.out _ HB.out (by decide)).mono ?_; rintro e w1 ⟨rfl, hb1⟩; have HB := Lib.hid (HB.out.trans (hb1.mono HB.out.size)); clear hb1)
      | (go_at_call 26; refine (H26.out _ HB.out (by decide)).mono ?_; rintro e w1 ⟨rfl, hb1⟩; have HB := Lib.hid (HB.out.trans (hb1.mono HB.out.size)); clear hb1)
      | (go_at_call 27; refine (H27.out _ HB.out (by decide)).mono ?_; rintro e w1 ⟨rfl, hb1⟩; have HB := Lib.hid (HB.out.trans (hb1.mono HB.out.size)); clear hb1)
      | (go_at_call 22; refine (H22.out _ HB.out).mono ?_; rintro e w1 ⟨rfl, hb1⟩; have HB := Lib.hid (HB.out.trans (hb1.mono HB.out.size)); clear hb1))
    go_ret
    exact ⟨rfl, HB0.out.trans (HB.out.mono HB0.out.size)⟩
  · simp at her
    subst her
    go_wp2_with (first
      | (go_at_call 14; refine (H14.out _ HB.out).mono ?_; rintro e w1 ⟨rfl, hb1⟩; have HB := Lib.hid (HB.out.trans (hb1.mono HB.out.size)); clear hb1)
      | (go_at_call 15; refine (H15.out _ HB.out).mono ?_; rintro e w1 ⟨rfl, hb1⟩; have HB := Lib.hid (HB.out.trans (hb1.mono HB.out.size)); clear hb1)
      | (go_at_call 16; refine (H16.out _ HB.out).mono ?_; rintro e w1 ⟨rfl, hb1⟩; have HB := Lib.hid (HB.out.trans (hb1.mono HB.out.size)); clear hb1)
      | (go_at_call 17; refine (H17.out _ HB.out).mono ?_; rintro e w1 ⟨rfl, hb1⟩; have HB := Lib.hid (HB.out.trans (hb1.mono HB.out.size)); clear hb1)
      | (go_at_call 18; refine (H18.out _ HB.out).mono ?_; rintro e w1 ⟨⟨he, -, -⟩, hb1⟩; obtain rfl := he (by decide); clear he; have HB := Lib.hid (HB.out.trans (hb1.mono HB.out.size)); clear hb1)
      | (go_at_call 19; refine (H19.out _ HB.out (by decide)).mono ?_; rintro e w1 ⟨rfl, hb1⟩; have HB := Lib.hid (HB.out.trans (hb1.mono HB.out.size)); clear hb1)
      | (go_at_call 20; refine (H20.out _ HB.out (by decide)).mono ?_; rintro e w1 ⟨rfl, hb1⟩; have HB := Lib.hid (HB.out.trans (hb1.mono HB.out.size)); clear hb1)
      | (go_at_call 21; refine (H21.out _ HB.out (by decide)).mono ?_; rintro e w1 ⟨rfl, hb1⟩; have HB := Lib.hid (HB.out.trans (hb1.mono HB.out.size)); clear hb1)
      | (go_at_call 23; refine (H23.out _ HB.out (by decide)).mono ?_; rintro e w1 ⟨rfl, hb1⟩; have HB := Lib.hid (HB.out.trans (hb1.mono HB.out.size)); clear hb1)
      | (go_at_call 24; refine (H24.out _ HB.out (by decide)).mono ?_; rintro e w1 ⟨rfl, hb1⟩; have HB := Lib.hid (HB.out.trans (hb1.mono HB.out.size)); clear hb1)
      | (go_at_call 25; refine (H25.out _ HB.out (by decide)).mono ?_; rintro e w1 ⟨rfl, hb1⟩; have HB := Lib.hid (HB.out.trans (hb1.mono HB.out.size)); clear hb1)
      | (go_at_call 26; refine (H26.out _ HB.out (by decide)).mono ?_; rintro e w1 ⟨rfl, hb1⟩; have HB := Lib.hid (HB.out.trans (hb1.mono HB.out.size)); clear hb1)
      | (go_at_call 27; refine (H27.out _ HB.out (by decide)).mono ?_; rintro e w1 ⟨rfl, hb1⟩; have HB := Lib.hid (HB.out.trans (hb1.mono HB.out.size)); clear hb1)
      | (go_at_call 22; refine (H22.out _ HB.out).mono ?_; rintro e w1 ⟨rfl, hb1⟩; have HB := Lib.hid (HB.out.trans (hb1.mono HB.out.size)); clear hb1))
    go_ret
    exact ⟨rfl, HB0.out.trans (HB.out.mono HB0.out.size)⟩
end Go.Proofs.YtmlfbcahdiomoaaDoor
