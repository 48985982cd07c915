import Derived.Test.YtmhmkhdgpfhnfaaGreatDoorC5
set_option linter.unusedVariables false
set_option linter.unusedSimpArgs false
set_option linter.unnecessarySimpa false
namespace Go.Proofs.YtmhmkhdgpfhnfaaGreatDoor
open Go.RowKit
def limbB (n : Int) : Bool := decide (-1000000000 < n) && decide (n < 1000000000)
theorem limbB_true {n : Int} (h1 : -1000000000 < n) (h2 : n < 1000000000) : limbB n = true := by unfold limbB; simp [h1, h2]
theorem limbB_false {n : Int} (h : ¬ (-1000000000 < n ∧ n < 1000000000)) : limbB n = false := by
  unfold limbB
  by_cases h1 : -1000000000 < n
  · have h2 : ¬ n < 1000000000 := fun h2 => h ⟨h1, h2⟩
    simp [h2]
  · simp [h1]
set_option maxHeartbeats 400000 in
theorem isLimb_any (n : Int) (w : World) :
    Calls Tryz.prog 156 #[.int .i64 n] w fun e w' => e = .returned (.bool (limbB n)) ∧ w = w' := by
  by_cases h1 : -1000000000 < n
  · by_cases h2 : n < 1000000000
    · have H := Lib.hid (limbB_true h1 h2)
      go_enter Tryz.func156, Tryz.ntmps156
      go_wp2
      go_ret
      exact ⟨by rw [H.out]; rfl, rfl⟩
    · have H := Lib.hid (limbB_false (n := n) (fun h => h2 h.2))
      go_enter Tryz.func156, Tryz.ntmps156
      go_wp2
      go_ret
      exact ⟨by rw [H.out]; rfl, rfl⟩
  · have H := Lib.hid (limbB_false (n := n) (fun h => h1 h.1))
    have hd : decide (-1000000000 < n) = false := by simpa using h1
    go_enter Tryz.func156, Tryz.ntmps156
    go_wp2
    go_ret
    exact ⟨by rw [H.out]; rfl, rfl⟩
/-- what the steps are good for -/
def StepsOk (x y : Nat) (A B C D : Int) : Prop :=
  (-1000000000 < A ∧ A < 1000000000 ∧ -1000000000 < B ∧ B < 1000000000) ∧ (-1000000000 < C ∧ C < 1000000000 ∧ -1000000000 < D ∧ D < 1000000000) ∧
  (B ≠ 0 → ∃ r1 r2 : Nat, A * (x : Int) + B * (y : Int) = r1 ∧ C * (x : Int) + D * (y : Int) = r2 ∧ r2 < r1 ∧ r1 ≤ y ∧ Nat.gcd r1 r2 = Nat.gcd x y)
theorem LInv.ok {x y : Nat} {S U V rx ry a b c d u v : Int} (h : LInv x y S U V rx ry a b c d u v) : StepsOk x y a b c d := by
  refine ⟨h.ab, h.cd, fun hb => ?_⟩
  rcases h.ord with ⟨_, hb0, _⟩ | ⟨o1, o2⟩
  · exact absurd hb0 hb
  · have p := h.pos
    have g := h.gcd
    obtain ⟨r1, e1⟩ := Int.eq_ofNat_of_zero_le (show 0 ≤ a * (x : Int) + b * (y : Int) by omega)
    obtain ⟨r2, e2⟩ := Int.eq_ofNat_of_zero_le p
    rw [e1, e2] at g o1
    rw [e1] at o2
    exact ⟨r1, r2, e1, e2, by omega, by omega, by rw [← g]; rfl⟩
def agg4 (A B C D : Int) : List Value := [.int .i64 A, .int .i64 B, .int .i64 C, .int .i64 D]
def StRel (x y : Nat) (S U V rx ry : Int) (h gs : Nat) (w : World) (su sv : Value) (wr : World) : Prop :=
  ∃ A B C D u v, su = .int .i64 u ∧ sv = .int .i64 v ∧ LInv x y S U V rx ry A B C D u v ∧ Row 156 wr gs (agg4 A B C D) ∧ Row 156 wr h (agg4 0 0 0 0) ∧ Below h w wr
def StMeas (gs : Nat) (sv : Value) (wr : World) : Nat := match wr.cell? ⟨gs, 2, none⟩ with
  | some (.int _ c) => (intOf sv + c).toNat
  | _ => 0
theorem row4 {T : TypeId} {w : World} {h : Nat} {x0 x1 x2 x3 : Value} (r : Row T w h [x0, x1, x2, x3]) (y0 y1 y2 y3 : Value) :
    (w.cell? ⟨h, 0, none⟩ = some x0 ∧ w.frozen? ⟨h, 0, none⟩ = false) ∧ ((w.setCell ⟨h, 0, none⟩ y0).cell? ⟨h, 1, none⟩ = some x1 ∧ (w.setCell ⟨h, 0, none⟩ y0).frozen? ⟨h, 1, none⟩ = false) ∧
    (((w.setCell ⟨h, 0, none⟩ y0).setCell ⟨h, 1, none⟩ y1).cell? ⟨h, 2, none⟩ = some x2 ∧ ((w.setCell ⟨h, 0, none⟩ y0).setCell ⟨h, 1, none⟩ y1).frozen? ⟨h, 2, none⟩ = false) ∧
    ((((w.setCell ⟨h, 0, none⟩ y0).setCell ⟨h, 1, none⟩ y1).setCell ⟨h, 2, none⟩ y2).cell? ⟨h, 3, none⟩ = some x3 ∧ (((w.setCell ⟨h, 0, none⟩ y0).setCell ⟨h, 1, none⟩ y1).setCell ⟨h, 2, none⟩ y2).frozen? ⟨h, 3, none⟩ = false) ∧
    Row T ((((w.setCell ⟨h, 0, none⟩ y0).setCell ⟨h, 1, none⟩ y1).setCell ⟨h, 2, none⟩ y2).setCell ⟨h, 3, none⟩ y3) h [y0, y1, y2, y3] := by
  have r1 := r.store 0 y0
  have r2 := r1.store 1 y1
  have r3 := r2.store 2 y2
  have r4 := r3.store 3 y3
  exact ⟨⟨r.cell 0, r.free 0⟩, ⟨r1.cell 1, r1.free 1⟩, ⟨r2.cell 2, r2.free 2⟩, ⟨r3.cell 3, r3.free 3⟩, r4⟩
set_option maxRecDepth 100000 in
set_option maxHeartbeats 4000000 in
theorem leadingSteps_any (x y : Value) (a b : Nat) (w : World) (hx : Rd .u32 w x (limbs a)) (hy : Rd .u32 w y (limbs b)) (hn : 3 ≤ (limbs a).length) (hnn : (limbs a).length ≤ 1073741824) (hba : b ≤ a) :
    Calls Tryz.prog 123 #[x, y] w fun e w' => ∃ A B C D : Int, e = .returned (.agg #[.int .i64 A, .int .i64 B, .int .i64 C, .int .i64 D]) ∧ StepsOk a b A B C D ∧ Below w.heap.size w w' := by
  have hlen : (limbs b).length ≤ (limbs a).length := by
    rcases Nat.lt_or_ge (limbs a).length (limbs b).length with h | h
    · have := len_lt_val h; omega
    · exact h
  have hw0 : Row 156 (w.alloc (.cells #[.int .i64 0, .int .i64 0, .int .i64 0, .int .i64 0] 156)) w.heap.size (agg4 0 0 0 0) := row_new 156 w #[.int .i64 0, .int .i64 0, .int .i64 0, .int .i64 0]
  have hb0 : Below w.heap.size w (w.alloc (.cells #[.int .i64 0, .int .i64 0, .int .i64 0, .int .i64 0] 156)) := (Below.refl _ _).alloc (Nat.le_refl _) _
  have hc := leading_any x y (limbs a) (limbs b) _ _ (hx.below hb0) (hy.below hb0) (Lo_limbs a) (Lo_limbs b) rfl hlen hn hnn (by rw [val_limbs, val_limbs]; exact hba)
  rw [val_limbs, val_limbs] at hc
  have HC := Lib.hid hc
  have HW := Lib.hid hw0
  have HB := Lib.hid hb0
  have HBA := Lib.hid hba
  clear hx hy hn hnn hlen hc hw0 hb0 hba
  go_enter Tryz.func123, Tryz.ntmps123
  go_wp2_with fail
  refine HC.out.mono ?_
  rintro e w1 ⟨S, hS, hU, rfl, hb1⟩
  have hst := LInv.start hS HBA.out hU
  have r1 : Row 156 w1 w.heap.size (agg4 0 0 0 0) := HW.out.below hb1 HW.out.lt
  have b1 : Below w.heap.size w w1 := HB.out.trans (hb1.mono (by simp))
  obtain ⟨U, hUe⟩ : ∃ U, a / S = U := ⟨_, rfl⟩
  obtain ⟨V, hVe⟩ : ∃ V, b / S = V := ⟨_, rfl⟩
  rw [hUe, hVe] at hst ⊢
  have HST := Lib.hid hst
  have R1 := Lib.hid r1
  have B1 := Lib.hid b1
  obtain ⟨h, hh⟩ : ∃ h, w.heap.size = h := ⟨_, rfl⟩
  have hlt1 := r1.lt
  rw [hh] at R1 B1 hlt1 ⊢
  have HH := Lib.hid hh
  clear hh hst r1 b1 hb1 hU hUe hVe HW HB HC
  obtain ⟨gs, hgs⟩ : ∃ gs, w1.heap.size = gs := ⟨_, rfl⟩
  have hini : StRel a b S U V (a % S : Nat) (b % S : Nat) h gs w (.int .i64 U) (.int .i64 V) (w1.alloc (.cells #[.int .i64 1, .int .i64 0, .int .i64 0, .int .i64 1] 156)) := by
    refine ⟨1, 0, 0, 1, U, V, rfl, rfl, HST.out, ?_, R1.out.alloc _, B1.out.alloc (by omega) _⟩
    rw [← hgs]; exact row_new 156 w1 #[.int .i64 1, .int .i64 0, .int .i64 0, .int .i64 1]
  have HI := Lib.hid hini
  rw [hgs] at hlt1
  clear hini HST R1 B1
  have hSp : (0 : Int) < (S : Int) := by omega
  generalize ((a % S : Nat) : Int) = rx at *
  generalize ((b % S : Nat) : Int) = ry at *
  go_wp2
  go_loopw [5, 6] (fun su sv wr => StRel a b S U V rx ry h gs w su sv wr) (fun _ sv wr => StMeas gs sv wr)
  case atStart => exact HI.out
  case round =>
    clear HI
    obtain ⟨A, B, C, D, u, v, rfl, rfl, hI, r1, r2, b1⟩ := hrel
    have c0 := r1.cell 0
    have c1 := r1.cell 1
    have c2 := r1.cell 2
    have c3 := r1.cell 3
    simp only [agg4, List.getElem?_cons_zero, List.getElem?_cons_succ] at c0 c1 c2 c3
    obtain ⟨n1, n1'⟩ := hI.n1
    obtain ⟨n2, n2'⟩ := hI.n2
    obtain ⟨n3, n3'⟩ := hI.n3
    obtain ⟨n4, n4'⟩ := hI.n4
    obtain ⟨a1, a2, a3, a4⟩ := hI.ab
    obtain ⟨d1, d2, d3, d4⟩ := hI.cd
    have HIN := Lib.hid hI
    have HOK := Lib.hid hI.ok
    have R1 := Lib.hid r1
    have R2 := Lib.hid r2
    have B1 := Lib.hid b1
    have hlts := r1.lt
    obtain ⟨⟨o1, o2⟩, ⟨o3, o4⟩, ⟨o5, o6⟩, ⟨o7, o8⟩, o9⟩ := row4 r2 (.int .i64 A) (.int .i64 B) (.int .i64 C) (.int .i64 D)
    have v0 := o9.cell 0
    have v1 := o9.cell 1
    have v2 := o9.cell 2
    have v3 := o9.cell 3
    simp only [List.getElem?_cons_zero, List.getElem?_cons_succ] at v0 v1 v2 v3
    have OB := Lib.hid ((((b1.setCell (p := ⟨h, 0, none⟩) (Nat.le_refl h) (.int .i64 A)).setCell (p := ⟨h, 1, none⟩) (Nat.le_refl h) (.int .i64 B)).setCell (p := ⟨h, 2, none⟩) (Nat.le_refl h) (.int .i64 C)).setCell (p := ⟨h, 3, none⟩) (Nat.le_refl h) (.int .i64 D))
    clear hI r1 r2 b1 o9
    by_cases e3 : v + C = 0
    · have t3 : ((v + C) != 0) = false := by simp [e3]
      clear e3
      go_wp2
      refine bodyPost_ret (v := .agg #[.int .i64 A, .int .i64 B, .int .i64 C, .int .i64 D]) (by simp [results, Tryz.results123, go_sem, v0, v1, v2, v3]) rfl ⟨A, B, C, D, rfl, HOK.out, by rw [HH.out]; exact OB.out⟩
    · have t3 : ((v + C) != 0) = true := by simp [e3]
      by_cases e4 : v + D = 0
      · have t4 : ((v + D) != 0) = false := by simp [e4]
        clear e3 e4
        go_wp2
        refine bodyPost_ret (v := .agg #[.int .i64 A, .int .i64 B, .int .i64 C, .int .i64 D]) (by simp [results, Tryz.results123, go_sem, v0, v1, v2, v3]) rfl ⟨A, B, C, D, rfl, HOK.out, by rw [HH.out]; exact OB.out⟩
      · have t4 : ((v + D) != 0) = true := by simp [e4]
        have p3 : 0 < v + C := by omega
        have p4 : 0 < v + D := by omega
        have z3 : ((v + C) == 0) = false := by simp [e3]
        have z4 : ((v + D) == 0) = false := by simp [e4]
        obtain ⟨q1, hq1⟩ : ∃ q, (u + A) / (v + C) = q := ⟨_, rfl⟩
        obtain ⟨q2, hq2⟩ : ∃ q, (u + B) / (v + D) = q := ⟨_, rfl⟩
        have hq1p : 0 ≤ q1 := by rw [← hq1]; exact Int.ediv_nonneg n1 n3
        have hq2p : 0 ≤ q2 := by rw [← hq2]; exact Int.ediv_nonneg n2 n4
        have hq1b : q1 ≤ 1000000000000000000 := by rw [← hq1]; exact Int.le_trans (Int.ediv_le_self _ n1) n1'
        have hq2b : q2 ≤ 1000000000000000000 := by rw [← hq2]; exact Int.le_trans (Int.ediv_le_self _ n2) n2'
        clear e3 e4
        by_cases eq : q1 = q2
        · subst eq
          have tq : (q1 != q1) = false := by simp
          by_cases eb : 1000000000 ≤ q1
          · go_wp2
            refine bodyPost_ret (v := .agg #[.int .i64 A, .int .i64 B, .int .i64 C, .int .i64 D]) (by simp [results, Tryz.results123, go_sem, v0, v1, v2, v3]) rfl ⟨A, B, C, D, rfl, HOK.out, by rw [HH.out]; exact OB.out⟩
          · obtain ⟨p1, hp1⟩ : ∃ p, q1 * C = p := ⟨_, rfl⟩
            obtain ⟨p2, hp2⟩ : ∃ p, q1 * D = p := ⟨_, rfl⟩
            obtain ⟨p5, hp5⟩ : ∃ p, q1 * v = p := ⟨_, rfl⟩
            have bq1 := co_bound (u := q1) d1 d2 hq1p (by omega)
            have bq2 := co_bound (u := q1) d3 d4 hq1p (by omega)
            rw [Int.mul_comm, hp1] at bq1
            rw [Int.mul_comm, hp2] at bq2
            obtain ⟨bq1a, bq1b⟩ := bq1
            obtain ⟨bq2a, bq2b⟩ := bq2
            have bv : p5 + p1 ≤ u + A ∧ 0 ≤ p5 + p1 := by
              have h1 := Int.ediv_mul_le (u + A) (show v + C ≠ 0 by omega)
              have h2 := Int.mul_nonneg hq1p n3
              rw [hq1, Int.mul_add, hp1, hp5] at h1
              rw [Int.mul_add, hp1, hp5] at h2
              exact ⟨h1, h2⟩
            obtain ⟨bva, bvb⟩ := bv
            have HQ1 := Lib.hid hq1
            have HQ2 := Lib.hid hq2
            have HP1 := Lib.hid hp1
            have HP2 := Lib.hid hp2
            have HP5 := Lib.hid hp5
            -- the world behind the new steps
            have s1 := R1.out.alloc (.cells #[.int .i64 C, .int .i64 D, .int .i64 (A - p1), .int .i64 (B - p2)] 156)
            have s2 := R2.out.alloc (.cells #[.int .i64 C, .int .i64 D, .int .i64 (A - p1), .int .i64 (B - p2)] 156)
            have s3 := B1.out.alloc (by omega) (.cells #[.int .i64 C, .int .i64 D, .int .i64 (A - p1), .int .i64 (B - p2)] 156)
            have s4 : Row 156 (wr.alloc (.cells #[.int .i64 C, .int .i64 D, .int .i64 (A - p1), .int .i64 (B - p2)] 156)) wr.heap.size [.int .i64 C, .int .i64 D, .int .i64 (A - p1), .int .i64 (B - p2)] := row_new 156 wr _
            have SB1 := Lib.hid s3
            have SR2 := Lib.hid s2
            have SR1 := Lib.hid s1
            by_cases l1 : -1000000000 < A - p1 ∧ A - p1 < 1000000000
            · by_cases l2 : -1000000000 < B - p2 ∧ B - p2 < 1000000000
              · have hs := HIN.out.step hSp p3 p4 hq1 hq2 (by rw [hp1]; exact l1.1) (by rw [hp1]; exact l1.2) (by rw [hp2]; exact l2.1) (by rw [hp2]; exact l2.2)
                rw [hp1, hp2, hp5] at hs
                have HS := Lib.hid hs
                have L1 := Lib.hid (limbB_true l1.1 l1.2)
                have L2 := Lib.hid (limbB_true l2.1 l2.2)
                obtain ⟨⟨w1', w2⟩, ⟨w3, w4⟩, ⟨w5, w6⟩, ⟨w7, w8⟩, w9⟩ := row4 R1.out (.int .i64 C) (.int .i64 D) (.int .i64 (A - p1)) (.int .i64 (B - p2))
                have W9 := Lib.hid (w9.alloc (.cells #[.int .i64 C, .int .i64 D, .int .i64 (A - p1), .int .i64 (B - p2)] 156))
                have SN2 := Lib.hid (((((R2.out.other ⟨gs, 0, none⟩ (by show gs ≠ h; omega) (.int .i64 C)).other ⟨gs, 1, none⟩ (by show gs ≠ h; omega) (.int .i64 D)).other ⟨gs, 2, none⟩ (by show gs ≠ h; omega) (.int .i64 (A - p1))).other ⟨gs, 3, none⟩ (by show gs ≠ h; omega) (.int .i64 (B - p2))).alloc (.cells #[.int .i64 C, .int .i64 D, .int .i64 (A - p1), .int .i64 (B - p2)] 156))
                have SN3 := Lib.hid (((((B1.out.setCell (p := ⟨gs, 0, none⟩) (by show h ≤ gs; omega) (.int .i64 C)).setCell (p := ⟨gs, 1, none⟩) (by show h ≤ gs; omega) (.int .i64 D)).setCell (p := ⟨gs, 2, none⟩) (by show h ≤ gs; omega) (.int .i64 (A - p1))).setCell (p := ⟨gs, 3, none⟩) (by show h ≤ gs; omega) (.int .i64 (B - p2))).alloc (by simp; omega) (.cells #[.int .i64 C, .int .i64 D, .int .i64 (A - p1), .int .i64 (B - p2)] 156))
                obtain ⟨l1a, l1b⟩ := l1
                obtain ⟨l2a, l2b⟩ := l2
                have M0 : Hid (StMeas gs (.int .i64 v) wr = (v + C).toNat) := by show _ = _; simp [StMeas, c2, intOf]
                clear s1 s2 s3 s4 w9 hs SB1 SR2 SR1 R2 R1 B1 HIN HOK o1 o2 o3 o4 o5 o6 o7 o8 v0 v1 v2 v3 OB
                go_wp2_with fail
                refine (isLimb_any _ _).mono ?_
                rw [L1.out]
                rintro e w' ⟨rfl, rfl⟩
                go_wp2_with fail
                refine (isLimb_any _ _).mono ?_
                rw [L2.out]
                rintro e w' ⟨rfl, rfl⟩
                go_wp2
                go_roundw
                case rel => exact ⟨C, D, A - p1, B - p2, v, u - p5, rfl, rfl, HS.out.1, W9.out, SN2.out, SN3.out⟩
                case measure =>
                  have e1 : StMeas gs (.int .i64 (u - p5)) (((((wr.setCell ⟨gs, 0, none⟩ (.int .i64 C)).setCell ⟨gs, 1, none⟩ (.int .i64 D)).setCell ⟨gs, 2, none⟩ (.int .i64 (A - p1))).setCell ⟨gs, 3, none⟩ (.int .i64 (B - p2))).alloc (.cells #[.int .i64 C, .int .i64 D, .int .i64 (A - p1), .int .i64 (B - p2)] 156)) = ((u - p5) + (A - p1)).toNat := by
                    unfold StMeas; rw [W9.out.cell 2]; rfl
                  have e2 := M0.out
                  have e3 := HS.out.2.2
                  clear W9 SN2 SN3 HS w1' w2 w3 w4 w5 w6 w7 w8
                  exact Nat.lt_of_lt_of_eq (Nat.lt_of_le_of_lt (Nat.le_of_eq e1) (show ((u - p5) + (A - p1)).toNat < (v + C).toNat by omega)) e2.symm
              · have L1 := Lib.hid (limbB_true l1.1 l1.2)
                have L2 := Lib.hid (limbB_false l2)
                have hhs : h < wr.heap.size := by omega
                have OB2 := Lib.hid (OB.out.alloc (by simp; omega) (.cells #[.int .i64 C, .int .i64 D, .int .i64 (A - p1), .int .i64 (B - p2)] 156))
                clear s1 s2 s3 s4 SB1 SR2 SR1 R2 R1 B1 HIN OB l1 l2
                go_wp2_with fail
                refine (isLimb_any _ _).mono ?_
                rw [L1.out]
                rintro e w' ⟨rfl, rfl⟩
                go_wp2_with fail
                refine (isLimb_any _ _).mono ?_
                rw [L2.out]
                rintro e w' ⟨rfl, rfl⟩
                go_wp2
                refine bodyPost_ret (v := .agg #[.int .i64 A, .int .i64 B, .int .i64 C, .int .i64 D]) (by simp [results, Tryz.results123, go_sem, v0, v1, v2, v3, hhs]) rfl ⟨A, B, C, D, rfl, HOK.out, by rw [HH.out]; exact OB2.out⟩
            · have L1 := Lib.hid (limbB_false l1)
              have hhs : h < wr.heap.size := by omega
              have OB2 := Lib.hid (OB.out.alloc (by simp; omega) (.cells #[.int .i64 C, .int .i64 D, .int .i64 (A - p1), .int .i64 (B - p2)] 156))
              clear s1 s2 s3 s4 SB1 SR2 SR1 R2 R1 B1 HIN OB l1
              go_wp2_with fail
              refine (isLimb_any _ _).mono ?_
              rw [L1.out]
              rintro e w' ⟨rfl, rfl⟩
              go_wp2
              refine bodyPost_ret (v := .agg #[.int .i64 A, .int .i64 B, .int .i64 C, .int .i64 D]) (by simp [results, Tryz.results123, go_sem, v0, v1, v2, v3, hhs]) rfl ⟨A, B, C, D, rfl, HOK.out, by rw [HH.out]; exact OB2.out⟩
        · have tq : (q1 != q2) = true := by simp [eq]
          clear eq
          go_wp2
          refine bodyPost_ret (v := .agg #[.int .i64 A, .int .i64 B, .int .i64 C, .int .i64 D]) (by simp [results, Tryz.results123, go_sem, v0, v1, v2, v3]) rfl ⟨A, B, C, D, rfl, HOK.out, by rw [HH.out]; exact OB.out⟩
end Go.Proofs.YtmhmkhdgpfhnfaaGreatDoor
