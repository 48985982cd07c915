import Derived.Test.YtmhmkhdgpfhnfaaGreatDoorC6
set_option linter.unusedVariables false
set_option linter.unusedSimpArgs false
set_option linter.unnecessarySimpa false
namespace Go.Proofs.YtmhmkhdgpfhnfaaGreatDoor
open Go.RowKit
theorem len_mono {a b : Nat} (h : a ≤ b) : (limbs a).length ≤ (limbs b).length := by
  rcases Nat.lt_or_ge (limbs b).length (limbs a).length with h1 | h1
  · have := len_lt_val h1; omega
  · exact h1
theorem Own.block {T : TypeId} {K : IntKind} {base : Nat} {w : World} {v : Value} {l : List Nat} (h : Own T K base w v l) : ∀ g, v.ownBlock = some g → base ≤ g ∧ g < w.heap.size := by
  intro g hg
  rcases h with ⟨_, rfl⟩ | ⟨_, g', cap, more, rfl, hb, _, _, _, hr⟩
  · cases hg
  · simp [Value.ownBlock] at hg; subst hg; exact ⟨hb, hr.lt⟩
/-- two numbers of the call's own -/
def Two (a b N B0 : Nat) (w : World) (vx vy : Value) (wr : World) (p q : Nat) : Prop :=
  Own 153 .u32 B0 wr vx (limbs p) ∧ Own 153 .u32 B0 wr vy (limbs q) ∧ (∀ g, vx.ownBlock = some g → vy.ownBlock = some g → False) ∧ q ≤ p ∧ Nat.gcd p q = Nat.gcd a b ∧ (limbs p).length ≤ N ∧ Below B0 w wr
theorem Own.open_ {T : TypeId} {K : IntKind} {base : Nat} {w : World} {v : Value} {l : List Nat} (h : Own T K base w v l) (hl : l ≠ []) : ∃ g cap more, v = .slice (some ⟨g, 0, none⟩) l.length cap ∧ base ≤ g ∧ cap ≤ maxLen ∧ l.length ≤ cap ∧ cap ≤ l.length + more.length ∧ Row T w g (nums K l ++ more) := by
  rcases h with ⟨h, _⟩ | ⟨_, g, cap, more, h⟩
  · exact absurd h hl
  · exact ⟨g, cap, more, h⟩
theorem Two.on {a b N B0 : Nat} {w wr w' : World} {vx vy : Value} {p q : Nat} (h : Two a b N B0 w vx vy wr p q) (h0 : B0 ≤ w.heap.size) (hb : Below wr.heap.size wr w') : Two a b N B0 w vx vy w' p q := by
  obtain ⟨t1, t2, t3, t4, t5, t6, t7⟩ := h
  exact ⟨t1.below hb (Nat.le_refl _), t2.below hb (Nat.le_refl _), t3, t4, t5, t6, t7.trans (hb.mono (Nat.le_trans h0 t7.size))⟩
theorem Own.nil {T : TypeId} {K : IntKind} {base : Nat} {w : World} {v : Value} (h : Own T K base w v (limbs 0)) : v = .slice none 0 0 := by
  rcases h with ⟨_, h⟩ | ⟨h, _⟩
  · exact h
  · exact absurd limbs_zero h
theorem two_limbs {p : Nat} (h : (limbs p).length ≤ 2) : p < 1000000000000000000 := by
  have h1 := val_lt (limbs p) (Lo_limbs p)
  rw [val_limbs] at h1
  exact Nat.lt_of_lt_of_le h1 (Nat.pow_le_pow_right (n := 1000000000) (by omega) h)
def GuRel (a b B0 : Nat) (w : World) (su sv : Value) (wr : World) : Prop := ∃ u v : Nat, su = .int .u64 u ∧ sv = .int .u64 v ∧ u < 1000000000000000000 ∧ v < 1000000000000000000 ∧ Nat.gcd u v = Nat.gcd a b ∧ Below B0 w wr
def GcRel (a b N B0 : Nat) (w : World) (vx vy : Value) (wr : World) : Prop := ∃ p q, Two a b N B0 w vx vy wr p q
def valOf (w : World) (v : Value) : Nat := match v with
  | .slice (some ⟨g, _, _⟩) n _ => match w.heap[g]? with
    | some (.cells cur _ _) => val ((cur.toList.take n).map fun x => (intOf x).toNat)
    | _ => 0
  | _ => 0
theorem valOf_own {T : TypeId} {K : IntKind} {base : Nat} {w : World} {v : Value} {n : Nat} (h : Own T K base w v (limbs n)) : valOf w v = n := by
  rcases h with ⟨hn, rfl⟩ | ⟨_, g, cap, more, rfl, _, _, _, _, hr⟩
  · have := (limbs_nil_iff n).1 hn; subst this; rfl
  · unfold Row at hr
    simp only [valOf, hr]
    rw [List.take_left' (nums_length K (limbs n))]
    unfold nums
    rw [List.map_map]
    have : (limbs n).map ((fun x => (intOf x).toNat) ∘ fun (d : Nat) => Value.int K (d : Int)) = limbs n := by
      conv => rhs; rw [← List.map_id (limbs n)]
      apply List.map_congr_left
      intro d _; simp [intOf]
    rw [this, val_limbs]
set_option maxRecDepth 100000 in
set_option maxHeartbeats 4000000 in
theorem gcd_core (x y : Value) (a b N : Nat) (w : World) (hx : Rd .u32 w x (limbs a)) (hy : Rd .u32 w y (limbs b)) (hN : N ≤ 1073741820) (ha : (limbs a).length ≤ N) (hb : (limbs b).length ≤ N) (hba : b ≤ a) :
    Calls Tryz.prog 64 #[x, y] w (Out 153 .u32 w (limbs (Nat.gcd a b))) := by
  have H1 := Lib.hid (clone_any x a w hx (by omega))
  have HY := Lib.hid hy
  have HBA := Lib.hid hba
  clear hx hy hba
  go_enter Tryz.func64, Tryz.ntmps64
  go_wp2_with fail
  refine H1.out.mono ?_
  rintro e w1 ⟨v1, rfl, o1, b1⟩
  have H2 := Lib.hid (clone_any y b w1 (HY.out.below b1) (by omega))
  have O1 := Lib.hid o1
  have B1 := Lib.hid b1
  clear o1 b1 H1 HY
  go_wp2_with fail
  refine H2.out.mono ?_
  rintro e w2 ⟨v2, rfl, o2, b2⟩
  have p1 : Own 153 .u32 w.heap.size w2 v1 (limbs a) := O1.out.below b2 (Nat.le_refl _)
  have p2 : Own 153 .u32 w.heap.size w2 v2 (limbs b) := o2.base B1.out.size
  have p3 : ∀ g, v1.ownBlock = some g → v2.ownBlock = some g → False := fun g h1 h2 => by
    have e1 := O1.out.block g h1
    have e2 := o2.block g h2
    omega
  have p4 : Below w.heap.size w w2 := B1.out.trans (b2.mono B1.out.size)
  have H3 := Lib.hid (compare_any v1 v2 a b w2 p1.rd p2.rd (by omega) (by omega))
  have TW : Hid (Two a b N w.heap.size w v1 v2 w2 a b) := ⟨p1, p2, p3, HBA.out, rfl, ha, p4⟩
  obtain ⟨c, hc1, hc2⟩ : ∃ c, cmpN a b = c ∧ 0 ≤ c := ⟨_, rfl, by
    have := HBA.out
    rcases Nat.lt_or_ge b a with h | h
    · rw [cmpN_gt h]; omega
    · rw [cmpN_eq (by omega)]; omega⟩
  rw [hc1] at H3
  clear p1 p2 p3 p4 o2 b2 O1 B1 H2 hc1
  go_wp2_with fail
  refine H3.out.mono ?_
  rintro e w3 ⟨rfl, n3, rfl⟩
  have hini : GcRel a b N w.heap.size w v1 v2 (w2.drewN n3) := by
    obtain ⟨t1, t2, t3, t4, t5, t6, t7⟩ := TW.out
    have hb := Below.of_drewN w2.heap.size w2 n3
    exact ⟨a, b, t1.below hb (Nat.le_refl _), t2.below hb (Nat.le_refl _), t3, t4, t5, t6, t7.trans (Below.of_drewN _ _ _)⟩
  have HI := Lib.hid hini
  clear hini H3 TW
  go_wp2
  go_loopw [0, 1] (fun vx vy wr => GcRel a b N w.heap.size w vx vy wr) (fun _ vy wr => valOf wr vy)
  case atStart => exact HI.out
  case round =>
    clear HI
    obtain ⟨p, q, t1, t2, t3, t4, t5, t6, t7⟩ := hrel
    have hm := Lib.hid (valOf_own t2)
    have hq := len_mono t4
    have T := Lib.hid (show Two a b N w.heap.size w u0 u1 wr p q from ⟨t1, t2, t3, t4, t5, t6, t7⟩)
    by_cases hl : 2 < (limbs q).length
    · have HS := Lib.hid (leadingSteps_any u0 u1 p q wr t1.rd t2.rd (by omega) (by omega) t4)
      have hlen : (2 : Int) < ((limbs q).length : Int) := by omega
      obtain ⟨g1, c1, m1, e1, x1, x2, x3, x4, x5⟩ := t1.open_ (by intro h; rw [h] at hq; simp only [List.length_nil] at hq; omega)
      obtain ⟨g2, c2, m2, e2, y1, y2, y3, y4, y5⟩ := t2.open_ (by intro h; rw [h] at hl; simp at hl)
      have hg : g1 ≠ g2 := fun e => t3 g1 (by rw [e1]; rfl) (by rw [e2, e]; rfl)
      have hq0 : q ≠ 0 := by intro h; rw [h, limbs_zero] at hl; simp at hl
      have HGC := Lib.hid t5
      have HB := Lib.hid t7
      have X5 := Lib.hid x5
      have Y5 := Lib.hid y5
      rw [e1, e2] at HS T ⊢
      clear t1 t2 t3 t4 t5 t7 e1 e2 x5 y5 hm HBA
      have hm : Hid (valOf wr (.slice (some ⟨g2, 0, none⟩) (limbs q).length c2) = q) := valOf_own T.out.2.1
      go_wp2_with fail
      refine HS.out.mono ?_
      rintro e w4 ⟨A, B, C, D, rfl, hok, b4⟩
      obtain ⟨⟨a1, a2, a3, a4⟩, ⟨d1, d2, d3, d4⟩, hB⟩ := hok
      have T4 : Two a b N w.heap.size w (.slice (some ⟨g1, 0, none⟩) (limbs p).length c1) (.slice (some ⟨g2, 0, none⟩) (limbs q).length c2) (w4.alloc (.cells #[.int .i64 A, .int .i64 B, .int .i64 C, .int .i64 D] 156)) p q :=
        T.out.on (Nat.le_refl _) (b4.trans ((Below.refl _ _).alloc b4.size _)) 
      by_cases hB0 : B = 0
      · subst hB0
        obtain ⟨s1, s2, s3, s4, s5, s6, s7⟩ := T4
        have HD := Lib.hid (divide_any _ _ p q _ s1.rd s2.rd (by omega) (by omega) hq0)
        have S2 := Lib.hid s2
        have S7 := Lib.hid s7
        have hlt2 := X5.out.lt
        clear hB s1 s2 s3 s4 s5 s6 s7 HS T
        go_wp2_with fail
        refine HD.out.mono ?_
        rintro e w5 ⟨vq, vr, rfl, oq, orr, b5⟩
        have hrel : GcRel a b N w.heap.size w (.slice (some ⟨g2, 0, none⟩) (limbs q).length c2) vr w5 := by
          refine ⟨q, p % q, S2.out.below b5 (Nat.le_refl _), orr.base S7.out.size, ?_, Nat.le_of_lt (Nat.mod_lt _ (by omega)), ?_, by omega, S7.out.trans (b5.mono S7.out.size)⟩
          · intro g h1 h2
            have e1 := S2.out.block g h1
            have e2 := orr.block g h2
            omega
          · rw [← HGC.out, Nat.gcd_comm q, ← Nat.gcd_rec, Nat.gcd_comm]
        have hval := valOf_own orr
        have HREL := Lib.hid hrel
        have HVAL := Lib.hid hval
        clear oq orr b5 hrel hval HD
        go_wp2
        go_roundw
        case rel => exact HREL.out
        case measure => rw [HVAL.out, hm.out]; exact Nat.mod_lt _ (by omega)
      · obtain ⟨r1, r2, f1, f2, f3, f4, f5⟩ := hB hB0
        have hqv := val_lt (limbs q) (Lo_limbs q)
        rw [val_limbs] at hqv
        have hbe : ((B == 0) : Bool) = false := by rw [beq_eq_false_iff_ne]; exact hB0
        have hb4 : Below wr.heap.size wr (w4.alloc (.cells #[.int .i64 A, .int .i64 B, .int .i64 C, .int .i64 D] 156)) := b4.trans ((Below.refl _ _).alloc b4.size _)
        have HC := Lib.hid (carryOut_any A B C D (limbs p) (limbs q) m1 m2 g1 g2 c1 c2 (limbs p).length w.heap.size r1 r2 _ a1 a2 a3 a4 d1 d2 d3 d4 (Lo_limbs p) (Lo_limbs q) rfl hq (by omega) x3 y3 hg x1 y1 (Nat.le_trans HB.out.size hb4.size)
          (X5.out.below hb4 X5.out.lt) (Y5.out.below hb4 Y5.out.lt) (by rw [val_limbs, val_limbs]; exact f1) (by rw [val_limbs, val_limbs]; exact f2) (by omega) (by omega))
        have HB4 := Lib.hid (HB.out.trans (hb4.mono HB.out.size))
        clear T4 HS T hB hB0 f1 f2 hqv hb4
        go_wp2_with fail
        refine HC.out.mono ?_
        rintro e w5 ⟨v5, v6, rfl, oa, ob, b5, k1, k2⟩
        have hrel : GcRel a b N w.heap.size w v5 v6 w5 := by
          refine ⟨r1, r2, oa, ob, fun g h1 h2 => hg ((k1 g h1).symm.trans (k2 g h2)), by omega, by rw [f5, HGC.out], ?_, HB4.out.trans b5⟩
          have := len_mono f4
          omega
        have hval := valOf_own ob
        have HREL := Lib.hid hrel
        have HVAL := Lib.hid hval
        clear oa ob b5 k1 k2 hrel hval HC
        go_wp2
        go_roundw
        case rel => exact HREL.out
        case measure => rw [HVAL.out, hm.out]; omega
    · have hlen : ¬ (2 : Int) < ((limbs q).length : Int) := by omega
      by_cases hq0 : q = 0
      · obtain ⟨px, cx, e1, xl, xm, xn, xp⟩ := t1.rd
        subst hq0
        have e2 : u1 = .slice none 0 0 := t2.nil
        have hgp := t5
        rw [Nat.gcd_zero_right] at hgp
        have T1 := Lib.hid t1
        have T7 := Lib.hid t7
        have HGP := Lib.hid hgp
        rw [e1] at T1
        rw [e1, e2]
        clear t1 t2 t3 t4 t5 t7 e1 e2 xp xn hm HBA T hgp hlen hl hq
        go_wp2
        go_ret
        exact ⟨_, rfl, by rw [← HGP.out]; exact T1.out, T7.out⟩
      · have hqp : 0 < (limbs q).length := List.length_pos_iff.2 (fun h => hq0 ((limbs_nil_iff q).1 h))
        have hqi : (0 : Int) < ((limbs q).length : Int) := by omega
        by_cases hlp : 2 < (limbs p).length
        · have hlpi : (2 : Int) < ((limbs p).length : Int) := by omega
          have HD := Lib.hid (divide_any u0 u1 p q wr t1.rd t2.rd (by omega) (by omega) hq0)
          have T2 := Lib.hid t2
          have T7 := Lib.hid t7
          have HGP := Lib.hid t5
          obtain ⟨px, cx, e1, xl, xm, xn, xp⟩ := t1.rd
          obtain ⟨py, cy, e2, yl, ym, yn, yp⟩ := t2.rd
          rw [e2] at T2
          rw [e1, e2] at HD ⊢
          clear t1 t2 t3 t4 t5 t7 e1 e2 xp yp xn yn hm HBA T
          go_wp2_with fail
          refine HD.out.mono ?_
          rintro e W ⟨vq, vr, rfl, oq, orr, b5⟩
          have T2W := Lib.hid (T2.out.below b5 (Nat.le_refl _))
          have HBW := Lib.hid (T7.out.trans (b5.mono T7.out.size))
          have hg2 : Nat.gcd q (p % q) = Nat.gcd a b := by rw [← HGP.out, Nat.gcd_comm q, ← Nat.gcd_rec, Nat.gcd_comm]
          obtain ⟨Q, hQ⟩ : ∃ Q, p % q = Q := ⟨_, rfl⟩
          rw [hQ] at orr hg2
          have hQq : Q < q := by rw [← hQ]; exact Nat.mod_lt _ (by omega)
          clear HGP
          have HGP := Lib.hid hg2
          by_cases hQ0 : Q = 0
          · subst hQ0
            have e2 : vr = .slice none 0 0 := orr.nil
            have hgp := hg2
            rw [Nat.gcd_zero_right] at hgp
            have HG := Lib.hid hgp
            rw [e2]
            clear oq orr b5 hg2 hQ hgp HD T2 T7 e2
            go_wp2
            go_ret
            exact ⟨_, rfl, by rw [← HG.out]; exact T2W.out, HBW.out⟩
          · have hlQ' := len_mono (Nat.le_of_lt hQq)
            have hQp : 0 < (limbs Q).length := List.length_pos_iff.2 (fun h => hQ0 ((limbs_nil_iff Q).1 h))
            have hlQ : (limbs Q).length ≤ 2 := by omega
            obtain ⟨pz, cz, e3, zl, zm, zn, zp⟩ := orr.rd
            have rQ := orr.rd
            have rP := T2W.out.rd
            rw [e3] at rQ ⊢
            have hQb : (((limbs Q).length : Int) == 0) = false := by rw [beq_eq_false_iff_ne]; omega
            have hlP : (limbs q).length ≤ 2 := by omega
            clear oq orr b5 hg2 hQ HD T2 T7 e3 zp zn T2W hQ0 hlQ' hQq
            have P9 : q < 1000000000000000000 := two_limbs hlP
            have Q9 : Q < 1000000000000000000 := two_limbs hlQ
            have S1 := Lib.hid (small_any _ q W rP hlP)
            have S2 := Lib.hid (small_any _ Q W rQ hlQ)
            clear rP rQ
            go_wp2_with fail
            refine S1.out.mono ?_
            rintro e w' ⟨rfl, rfl⟩
            go_wp2_with fail
            refine S2.out.mono ?_
            rintro e w' ⟨rfl, rfl⟩
            clear S1 S2
            go_wp2
            go_loopw [10, 11] (fun u v wv => GuRel a b w.heap.size w u v wv) (fun _ v _ => (intOf v).toNat)
            case atStart => exact ⟨q, Q, rfl, rfl, P9, Q9, HGP.out, HBW.out⟩
            case round =>
              clear HBW HGP
              obtain ⟨u, v, rfl, rfl, ub, vb, hgc, hbw⟩ := hrel
              have HGC := Lib.hid hgc
              have HBW := Lib.hid hbw
              clear hgc hbw
              by_cases hv : 0 < v
              · have hv0 : ((v : Int) == 0) = false := by rw [beq_eq_false_iff_ne]; omega
                obtain ⟨z, hz⟩ : ∃ z, u % v = z := ⟨_, rfl⟩
                have hze : (u : Int) % v = (z : Int) := by rw [← Int.natCast_emod, hz]
                have hzv : z < v := by rw [← hz]; exact Nat.mod_lt _ hv
                have HZ := Lib.hid hz
                clear hz
                go_wp2
                go_quiet (fail)
                go_wp2
                go_roundw
                case rel => exact ⟨v, z, rfl, congrArg (Value.int .u64) hze, vb, by omega, by rw [← HGC.out, ← HZ.out, Nat.gcd_comm v, ← Nat.gcd_rec, Nat.gcd_comm], HBW.out.trans (Below.of_drewN _ _ _)⟩
                case measure => simp [intOf] <;> omega
              · obtain rfl : v = 0 := by omega
                have hgu := HGC.out
                rw [Nat.gcd_zero_right] at hgu
                have HGU := Lib.hid hgu
                clear hgu HGC
                go_wp2_with fail
                refine (naturalOf_any u _ (by unfold big64; omega)).mono ?_
                rintro e w8 ⟨v8, rfl, o8, b8⟩
                have O8 := Lib.hid o8
                have B8 := Lib.hid b8
                clear o8 b8
                go_wp2
                go_ret
                exact ⟨_, rfl, by rw [← HGU.out]; exact O8.out.base HBW.out.size, HBW.out.trans (B8.out.mono HBW.out.size)⟩
        · have hlpi : ¬ (2 : Int) < ((limbs p).length : Int) := by omega
          have rP := t1.rd
          have rQ := t2.rd
          have HBW := Lib.hid t7
          have HGP := Lib.hid t5
          obtain ⟨px, cx, e1, xl, xm, xn, xp⟩ := t1.rd
          obtain ⟨py, cy, e2, yl, ym, yn, yp⟩ := t2.rd
          rw [e1] at rP
          rw [e2] at rQ
          rw [e1, e2]
          have hQb : (((limbs q).length : Int) == 0) = false := by rw [beq_eq_false_iff_ne]; omega
          have hlP : (limbs p).length ≤ 2 := by omega
          have hlQ : (limbs q).length ≤ 2 := by omega
          clear t1 t2 t3 t4 t5 t7 e1 e2 xp yp xn yn hm HBA T
          have P9 : p < 1000000000000000000 := two_limbs hlP
          have Q9 : q < 1000000000000000000 := two_limbs hlQ
          have S1 := Lib.hid (small_any _ p wr rP hlP)
          have S2 := Lib.hid (small_any _ q wr rQ hlQ)
          clear rP rQ
          go_wp2_with fail
          refine S1.out.mono ?_
          rintro e w' ⟨rfl, rfl⟩
          go_wp2_with fail
          refine S2.out.mono ?_
          rintro e w' ⟨rfl, rfl⟩
          clear S1 S2
          go_wp2
          go_loopw [10, 11] (fun u v wv => GuRel a b w.heap.size w u v wv) (fun _ v _ => (intOf v).toNat)
          case atStart => exact ⟨p, q, rfl, rfl, P9, Q9, HGP.out, HBW.out⟩
          case round =>
            clear HBW HGP
            obtain ⟨u, v, rfl, rfl, ub, vb, hgc, hbw⟩ := hrel
            have HGC := Lib.hid hgc
            have HBW := Lib.hid hbw
            clear hgc hbw
            by_cases hv : 0 < v
            · have hv0 : ((v : Int) == 0) = false := by rw [beq_eq_false_iff_ne]; omega
              obtain ⟨z, hz⟩ : ∃ z, u % v = z := ⟨_, rfl⟩
              have hze : (u : Int) % v = (z : Int) := by rw [← Int.natCast_emod, hz]
              have hzv : z < v := by rw [← hz]; exact Nat.mod_lt _ hv
              have HZ := Lib.hid hz
              clear hz
              go_wp2
              go_quiet (fail)
              go_wp2
              go_roundw
              case rel => exact ⟨v, z, rfl, congrArg (Value.int .u64) hze, vb, by omega, by rw [← HGC.out, ← HZ.out, Nat.gcd_comm v, ← Nat.gcd_rec, Nat.gcd_comm], HBW.out.trans (Below.of_drewN _ _ _)⟩
              case measure => simp [intOf] <;> omega
            · obtain rfl : v = 0 := by omega
              have hgu := HGC.out
              rw [Nat.gcd_zero_right] at hgu
              have HGU := Lib.hid hgu
              clear hgu HGC
              go_wp2_with fail
              refine (naturalOf_any u _ (by unfold big64; omega)).mono ?_
              rintro e w8 ⟨v8, rfl, o8, b8⟩
              have O8 := Lib.hid o8
              have B8 := Lib.hid b8
              clear o8 b8
              go_wp2
              go_ret
              exact ⟨_, rfl, by rw [← HGU.out]; exact O8.out.base HBW.out.size, HBW.out.trans (B8.out.mono HBW.out.size)⟩
set_option maxRecDepth 100000 in
set_option maxHeartbeats 4000000 in
theorem gcd_swap (x y : Value) (a b N : Nat) (w : World) (hx : Rd .u32 w x (limbs a)) (hy : Rd .u32 w y (limbs b)) (hN : N ≤ 1073741820) (ha : (limbs a).length ≤ N) (hb : (limbs b).length ≤ N) (hba : b < a) :
    Calls Tryz.prog 64 #[y, x] w (Out 153 .u32 w (limbs (Nat.gcd a b))) := by
  have H1 := Lib.hid (clone_any y b w hy (by omega))
  have HX := Lib.hid hx
  have HBA := Lib.hid hba
  clear hx hy hba
  go_enter Tryz.func64, Tryz.ntmps64
  go_wp2_with fail
  refine H1.out.mono ?_
  rintro e w1 ⟨v2, rfl, o1, b1⟩
  have H2 := Lib.hid (clone_any x a w1 (HX.out.below b1) (by omega))
  have O1 := Lib.hid o1
  have B1 := Lib.hid b1
  clear o1 b1 H1 HX
  go_wp2_with fail
  refine H2.out.mono ?_
  rintro e w2 ⟨v1, rfl, o2, b2⟩
  have p2 : Own 153 .u32 w.heap.size w2 v2 (limbs b) := O1.out.below b2 (Nat.le_refl _)
  have p1 : Own 153 .u32 w.heap.size w2 v1 (limbs a) := o2.base B1.out.size
  have p3 : ∀ g, v1.ownBlock = some g → v2.ownBlock = some g → False := fun g h1 h2 => by
    have e1 := O1.out.block g h2
    have e2 := o2.block g h1
    omega
  have p4 : Below w.heap.size w w2 := B1.out.trans (b2.mono B1.out.size)
  have H3 := Lib.hid (compare_any v2 v1 b a w2 p2.rd p1.rd (by omega) (by omega))
  have TW : Hid (Two a b N w.heap.size w v1 v2 w2 a b) := ⟨p1, p2, p3, Nat.le_of_lt HBA.out, rfl, ha, p4⟩
  rw [cmpN_lt HBA.out] at H3
  clear p1 p2 p3 p4 o2 b2 O1 B1 H2
  go_wp2_with fail
  refine H3.out.mono ?_
  rintro e w3 ⟨rfl, n3, rfl⟩
  have hini : GcRel a b N w.heap.size w v1 v2 (w2.drewN n3) := by
    obtain ⟨t1, t2, t3, t4, t5, t6, t7⟩ := TW.out
    have hb := Below.of_drewN w2.heap.size w2 n3
    exact ⟨a, b, t1.below hb (Nat.le_refl _), t2.below hb (Nat.le_refl _), t3, t4, t5, t6, t7.trans (Below.of_drewN _ _ _)⟩
  have HI := Lib.hid hini
  clear hini H3 TW
  go_wp2
  go_loopw [0, 1] (fun vx vy wr => GcRel a b N w.heap.size w vx vy wr) (fun _ vy wr => valOf wr vy)
  case atStart => exact HI.out
  case round =>
    clear HI
    obtain ⟨p, q, t1, t2, t3, t4, t5, t6, t7⟩ := hrel
    have hm := Lib.hid (valOf_own t2)
    have hq := len_mono t4
    have T := Lib.hid (show Two a b N w.heap.size w u0 u1 wr p q from ⟨t1, t2, t3, t4, t5, t6, t7⟩)
    by_cases hl : 2 < (limbs q).length
    · have HS := Lib.hid (leadingSteps_any u0 u1 p q wr t1.rd t2.rd (by omega) (by omega) t4)
      have hlen : (2 : Int) < ((limbs q).length : Int) := by omega
      obtain ⟨g1, c1, m1, e1, x1, x2, x3, x4, x5⟩ := t1.open_ (by intro h; rw [h] at hq; simp only [List.length_nil] at hq; omega)
      obtain ⟨g2, c2, m2, e2, y1, y2, y3, y4, y5⟩ := t2.open_ (by intro h; rw [h] at hl; simp at hl)
      have hg : g1 ≠ g2 := fun e => t3 g1 (by rw [e1]; rfl) (by rw [e2, e]; rfl)
      have hq0 : q ≠ 0 := by intro h; rw [h, limbs_zero] at hl; simp at hl
      have HGC := Lib.hid t5
      have HB := Lib.hid t7
      have X5 := Lib.hid x5
      have Y5 := Lib.hid y5
      rw [e1, e2] at HS T ⊢
      clear t1 t2 t3 t4 t5 t7 e1 e2 x5 y5 hm HBA
      have hm : Hid (valOf wr (.slice (some ⟨g2, 0, none⟩) (limbs q).length c2) = q) := valOf_own T.out.2.1
      go_wp2_with fail
      refine HS.out.mono ?_
      rintro e w4 ⟨A, B, C, D, rfl, hok, b4⟩
      obtain ⟨⟨a1, a2, a3, a4⟩, ⟨d1, d2, d3, d4⟩, hB⟩ := hok
      have T4 : Two a b N w.heap.size w (.slice (some ⟨g1, 0, none⟩) (limbs p).length c1) (.slice (some ⟨g2, 0, none⟩) (limbs q).length c2) (w4.alloc (.cells #[.int .i64 A, .int .i64 B, .int .i64 C, .int .i64 D] 156)) p q :=
        T.out.on (Nat.le_refl _) (b4.trans ((Below.refl _ _).alloc b4.size _)) 
      by_cases hB0 : B = 0
      · subst hB0
        obtain ⟨s1, s2, s3, s4, s5, s6, s7⟩ := T4
        have HD := Lib.hid (divide_any _ _ p q _ s1.rd s2.rd (by omega) (by omega) hq0)
        have S2 := Lib.hid s2
        have S7 := Lib.hid s7
        have hlt2 := X5.out.lt
        clear hB s1 s2 s3 s4 s5 s6 s7 HS T
        go_wp2_with fail
        refine HD.out.mono ?_
        rintro e w5 ⟨vq, vr, rfl, oq, orr, b5⟩
        have hrel : GcRel a b N w.heap.size w (.slice (some ⟨g2, 0, none⟩) (limbs q).length c2) vr w5 := by
          refine ⟨q, p % q, S2.out.below b5 (Nat.le_refl _), orr.base S7.out.size, ?_, Nat.le_of_lt (Nat.mod_lt _ (by omega)), ?_, by omega, S7.out.trans (b5.mono S7.out.size)⟩
          · intro g h1 h2
            have e1 := S2.out.block g h1
            have e2 := orr.block g h2
            omega
          · rw [← HGC.out, Nat.gcd_comm q, ← Nat.gcd_rec, Nat.gcd_comm]
        have hval := valOf_own orr
        have HREL := Lib.hid hrel
        have HVAL := Lib.hid hval
        clear oq orr b5 hrel hval HD
        go_wp2
        go_roundw
        case rel => exact HREL.out
        case measure => rw [HVAL.out, hm.out]; exact Nat.mod_lt _ (by omega)
      · obtain ⟨r1, r2, f1, f2, f3, f4, f5⟩ := hB hB0
        have hqv := val_lt (limbs q) (Lo_limbs q)
        rw [val_limbs] at hqv
        have hbe : ((B == 0) : Bool) = false := by rw [beq_eq_false_iff_ne]; exact hB0
        have hb4 : Below wr.heap.size wr (w4.alloc (.cells #[.int .i64 A, .int .i64 B, .int .i64 C, .int .i64 D] 156)) := b4.trans ((Below.refl _ _).alloc b4.size _)
        have HC := Lib.hid (carryOut_any A B C D (limbs p) (limbs q) m1 m2 g1 g2 c1 c2 (limbs p).length w.heap.size r1 r2 _ a1 a2 a3 a4 d1 d2 d3 d4 (Lo_limbs p) (Lo_limbs q) rfl hq (by omega) x3 y3 hg x1 y1 (Nat.le_trans HB.out.size hb4.size)
          (X5.out.below hb4 X5.out.lt) (Y5.out.below hb4 Y5.out.lt) (by rw [val_limbs, val_limbs]; exact f1) (by rw [val_limbs, val_limbs]; exact f2) (by omega) (by omega))
        have HB4 := Lib.hid (HB.out.trans (hb4.mono HB.out.size))
        clear T4 HS T hB hB0 f1 f2 hqv hb4
        go_wp2_with fail
        refine HC.out.mono ?_
        rintro e w5 ⟨v5, v6, rfl, oa, ob, b5, k1, k2⟩
        have hrel : GcRel a b N w.heap.size w v5 v6 w5 := by
          refine ⟨r1, r2, oa, ob, fun g h1 h2 => hg ((k1 g h1).symm.trans (k2 g h2)), by omega, by rw [f5, HGC.out], ?_, HB4.out.trans b5⟩
          have := len_mono f4
          omega
        have hval := valOf_own ob
        have HREL := Lib.hid hrel
        have HVAL := Lib.hid hval
        clear oa ob b5 k1 k2 hrel hval HC
        go_wp2
        go_roundw
        case rel => exact HREL.out
        case measure => rw [HVAL.out, hm.out]; omega
    · have hlen : ¬ (2 : Int) < ((limbs q).length : Int) := by omega
      by_cases hq0 : q = 0
      · obtain ⟨px, cx, e1, xl, xm, xn, xp⟩ := t1.rd
        subst hq0
        have e2 : u1 = .slice none 0 0 := t2.nil
        have hgp := t5
        rw [Nat.gcd_zero_right] at hgp
        have T1 := Lib.hid t1
        have T7 := Lib.hid t7
        have HGP := Lib.hid hgp
        rw [e1] at T1
        rw [e1, e2]
        clear t1 t2 t3 t4 t5 t7 e1 e2 xp xn hm HBA T hgp hlen hl hq
        go_wp2
        go_ret
        exact ⟨_, rfl, by rw [← HGP.out]; exact T1.out, T7.out⟩
      · have hqp : 0 < (limbs q).length := List.length_pos_iff.2 (fun h => hq0 ((limbs_nil_iff q).1 h))
        have hqi : (0 : Int) < ((limbs q).length : Int) := by omega
        by_cases hlp : 2 < (limbs p).length
        · have hlpi : (2 : Int) < ((limbs p).length : Int) := by omega
          have HD := Lib.hid (divide_any u0 u1 p q wr t1.rd t2.rd (by omega) (by omega) hq0)
          have T2 := Lib.hid t2
          have T7 := Lib.hid t7
          have HGP := Lib.hid t5
          obtain ⟨px, cx, e1, xl, xm, xn, xp⟩ := t1.rd
          obtain ⟨py, cy, e2, yl, ym, yn, yp⟩ := t2.rd
          rw [e2] at T2
          rw [e1, e2] at HD ⊢
          clear t1 t2 t3 t4 t5 t7 e1 e2 xp yp xn yn hm HBA T
          go_wp2_with fail
          refine HD.out.mono ?_
          rintro e W ⟨vq, vr, rfl, oq, orr, b5⟩
          have T2W := Lib.hid (T2.out.below b5 (Nat.le_refl _))
          have HBW := Lib.hid (T7.out.trans (b5.mono T7.out.size))
          have hg2 : Nat.gcd q (p % q) = Nat.gcd a b := by rw [← HGP.out, Nat.gcd_comm q, ← Nat.gcd_rec, Nat.gcd_comm]
          obtain ⟨Q, hQ⟩ : ∃ Q, p % q = Q := ⟨_, rfl⟩
          rw [hQ] at orr hg2
          have hQq : Q < q := by rw [← hQ]; exact Nat.mod_lt _ (by omega)
          clear HGP
          have HGP := Lib.hid hg2
          by_cases hQ0 : Q = 0
          · subst hQ0
            have e2 : vr = .slice none 0 0 := orr.nil
            have hgp := hg2
            rw [Nat.gcd_zero_right] at hgp
            have HG := Lib.hid hgp
            rw [e2]
            clear oq orr b5 hg2 hQ hgp HD T2 T7 e2
            go_wp2
            go_ret
            exact ⟨_, rfl, by rw [← HG.out]; exact T2W.out, HBW.out⟩
          · have hlQ' := len_mono (Nat.le_of_lt hQq)
            have hQp : 0 < (limbs Q).length := List.length_pos_iff.2 (fun h => hQ0 ((limbs_nil_iff Q).1 h))
            have hlQ : (limbs Q).length ≤ 2 := by omega
            obtain ⟨pz, cz, e3, zl, zm, zn, zp⟩ := orr.rd
            have rQ := orr.rd
            have rP := T2W.out.rd
            rw [e3] at rQ ⊢
            have hQb : (((limbs Q).length : Int) == 0) = false := by rw [beq_eq_false_iff_ne]; omega
            have hlP : (limbs q).length ≤ 2 := by omega
            clear oq orr b5 hg2 hQ HD T2 T7 e3 zp zn T2W hQ0 hlQ' hQq
            have P9 : q < 1000000000000000000 := two_limbs hlP
            have Q9 : Q < 1000000000000000000 := two_limbs hlQ
            have S1 := Lib.hid (small_any _ q W rP hlP)
            have S2 := Lib.hid (small_any _ Q W rQ hlQ)
            clear rP rQ
            go_wp2_with fail
            refine S1.out.mono ?_
            rintro e w' ⟨rfl, rfl⟩
            go_wp2_with fail
            refine S2.out.mono ?_
            rintro e w' ⟨rfl, rfl⟩
            clear S1 S2
            go_wp2
            go_loopw [10, 11] (fun u v wv => GuRel a b w.heap.size w u v wv) (fun _ v _ => (intOf v).toNat)
            case atStart => exact ⟨q, Q, rfl, rfl, P9, Q9, HGP.out, HBW.out⟩
            case round =>
              clear HBW HGP
              obtain ⟨u, v, rfl, rfl, ub, vb, hgc, hbw⟩ := hrel
              have HGC := Lib.hid hgc
              have HBW := Lib.hid hbw
              clear hgc hbw
              by_cases hv : 0 < v
              · have hv0 : ((v : Int) == 0) = false := by rw [beq_eq_false_iff_ne]; omega
                obtain ⟨z, hz⟩ : ∃ z, u % v = z := ⟨_, rfl⟩
                have hze : (u : Int) % v = (z : Int) := by rw [← Int.natCast_emod, hz]
                have hzv : z < v := by rw [← hz]; exact Nat.mod_lt _ hv
                have HZ := Lib.hid hz
                clear hz
                go_wp2
                go_quiet (fail)
                go_wp2
                go_roundw
                case rel => exact ⟨v, z, rfl, congrArg (Value.int .u64) hze, vb, by omega, by rw [← HGC.out, ← HZ.out, Nat.gcd_comm v, ← Nat.gcd_rec, Nat.gcd_comm], HBW.out.trans (Below.of_drewN _ _ _)⟩
                case measure => simp [intOf] <;> omega
              · obtain rfl : v = 0 := by omega
                have hgu := HGC.out
                rw [Nat.gcd_zero_right] at hgu
                have HGU := Lib.hid hgu
                clear hgu HGC
                go_wp2_with fail
                refine (naturalOf_any u _ (by unfold big64; omega)).mono ?_
                rintro e w8 ⟨v8, rfl, o8, b8⟩
                have O8 := Lib.hid o8
                have B8 := Lib.hid b8
                clear o8 b8
                go_wp2
                go_ret
                exact ⟨_, rfl, by rw [← HGU.out]; exact O8.out.base HBW.out.size, HBW.out.trans (B8.out.mono HBW.out.size)⟩
        · have hlpi : ¬ (2 : Int) < ((limbs p).length : Int) := by omega
          have rP := t1.rd
          have rQ := t2.rd
          have HBW := Lib.hid t7
          have HGP := Lib.hid t5
          obtain ⟨px, cx, e1, xl, xm, xn, xp⟩ := t1.rd
          obtain ⟨py, cy, e2, yl, ym, yn, yp⟩ := t2.rd
          rw [e1] at rP
          rw [e2] at rQ
          rw [e1, e2]
          have hQb : (((limbs q).length : Int) == 0) = false := by rw [beq_eq_false_iff_ne]; omega
          have hlP : (limbs p).length ≤ 2 := by omega
          have hlQ : (limbs q).length ≤ 2 := by omega
          clear t1 t2 t3 t4 t5 t7 e1 e2 xp yp xn yn hm HBA T
          have P9 : p < 1000000000000000000 := two_limbs hlP
          have Q9 : q < 1000000000000000000 := two_limbs hlQ
          have S1 := Lib.hid (small_any _ p wr rP hlP)
          have S2 := Lib.hid (small_any _ q wr rQ hlQ)
          clear rP rQ
          go_wp2_with fail
          refine S1.out.mono ?_
          rintro e w' ⟨rfl, rfl⟩
          go_wp2_with fail
          refine S2.out.mono ?_
          rintro e w' ⟨rfl, rfl⟩
          clear S1 S2
          go_wp2
          go_loopw [10, 11] (fun u v wv => GuRel a b w.heap.size w u v wv) (fun _ v _ => (intOf v).toNat)
          case atStart => exact ⟨p, q, rfl, rfl, P9, Q9, HGP.out, HBW.out⟩
          case round =>
            clear HBW HGP
            obtain ⟨u, v, rfl, rfl, ub, vb, hgc, hbw⟩ := hrel
            have HGC := Lib.hid hgc
            have HBW := Lib.hid hbw
            clear hgc hbw
            by_cases hv : 0 < v
            · have hv0 : ((v : Int) == 0) = false := by rw [beq_eq_false_iff_ne]; omega
              obtain ⟨z, hz⟩ : ∃ z, u % v = z := ⟨_, rfl⟩
              have hze : (u : Int) % v = (z : Int) := by rw [← Int.natCast_emod, hz]
              have hzv : z < v := by rw [← hz]; exact Nat.mod_lt _ hv
              have HZ := Lib.hid hz
              clear hz
              go_wp2
              go_quiet (fail)
              go_wp2
              go_roundw
              case rel => exact ⟨v, z, rfl, congrArg (Value.int .u64) hze, vb, by omega, by rw [← HGC.out, ← HZ.out, Nat.gcd_comm v, ← Nat.gcd_rec, Nat.gcd_comm], HBW.out.trans (Below.of_drewN _ _ _)⟩
              case measure => simp [intOf] <;> omega
            · obtain rfl : v = 0 := by omega
              have hgu := HGC.out
              rw [Nat.gcd_zero_right] at hgu
              have HGU := Lib.hid hgu
              clear hgu HGC
              go_wp2_with fail
              refine (naturalOf_any u _ (by unfold big64; omega)).mono ?_
              rintro e w8 ⟨v8, rfl, o8, b8⟩
              have O8 := Lib.hid o8
              have B8 := Lib.hid b8
              clear o8 b8
              go_wp2
              go_ret
              exact ⟨_, rfl, by rw [← HGU.out]; exact O8.out.base HBW.out.size, HBW.out.trans (B8.out.mono HBW.out.size)⟩
theorem gcd_any (x y : Value) (a b : Nat) (w : World) (hx : Rd .u32 w x (limbs a)) (hy : Rd .u32 w y (limbs b)) (ha : (limbs a).length ≤ 1073741820) (hb : (limbs b).length ≤ 1073741820) :
    Calls Tryz.prog 64 #[x, y] w (Out 153 .u32 w (limbs (Nat.gcd a b))) := by
  rcases Nat.lt_or_ge a b with h | h
  · rw [Nat.gcd_comm]; exact gcd_swap y x b a 1073741820 w hy hx (Nat.le_refl _) hb ha h
  · exact gcd_core x y a b 1073741820 w hx hy (Nat.le_refl _) ha hb h
end Go.Proofs.YtmhmkhdgpfhnfaaGreatDoor
