/- Runs: the program's. -/
import Derived.Test.YtbkalcnblhhjlaaC8
set_option linter.unnecessarySimpa false
set_option linter.unusedVariables false
set_option linter.unusedSimpArgs false
namespace Go.Proofs.Ytbkalcnblhhjlaa
open Go.RowKit

theorem neq_head (q f : Int) (a l : Nat) (w : World) : (binOp .neq 52 (.agg #[.int .i64 q, .int .u8 a]) (.agg #[.int .i64 f, .int .u8 l])).run Try.prog w = .ok (.bool (!((q == f) && ((a : Int) == l)))) w := by
  cases h1 : q == f <;> cases h2 : ((a : Int) == l) <;> simp [go_sem, h1, h2]
theorem guard_head (op : BinOp) (x y : Operand) (xs ys : Array Value) (w : World) : (eqGuard op 52 x y (.agg xs) (.agg ys)).run Try.prog w = .ok () w :=
  run_eqGuard_agg w op 52 x y xs ys (by kernel_rfl)
theorem kin_cellA {W : World} {a : Addr} {v : Value} (h : W.cell? a = some v) (hb : a.block < W.heap.size) (z : Kin W) : z.1.cell? a = some v := (z.2.cell (p := a) hb).trans h
theorem toList_nil {s : ByteArray} (h : s.size = 0) : s.toList = [] := by
  rw [ByteArray.toList_eq]; exact List.eq_nil_of_length_eq_zero (by simpa using h)
theorem toList_ne {s : ByteArray} (h : 0 < s.size) : (s.toList == []) = false := by
  cases hq : s.toList with
  | nil => rw [ByteArray.toList_eq] at hq; have h2 := congrArg List.length hq; rw [Array.length_toList] at h2; have h3 : s.data.size = s.size := rfl; simp only [List.length_nil] at h2; omega
  | cons _ _ => rfl
theorem toList_ne' {s : ByteArray} (h : 0 < s.size) : s.toList.isEmpty = false := by
  cases hq : s.toList with
  | nil => rw [ByteArray.toList_eq] at hq; have h2 := congrArg List.length hq; rw [Array.length_toList] at h2; have h3 : s.data.size = s.size := rfl; simp only [List.length_nil] at h2; omega
  | cons _ _ => rfl
/-- what holds at each round -/
structure RunG (w wr : World) (c q : Int) (s : ByteArray) (v : Value) (es : List Ru) (q2 : Int) (s2 : ByteArray) (l : List Int) (k : Nat) (q' : Int) (s' : ByteArray) : Prop where
  bel : Below w.heap.size w wr
  r0 : Row 37 wr w.heap.size [.int .i64 c, v]
  r1 : Row 39 wr (w.heap.size + 1) [.int .i64 q', .string s']
  r2 : Row 39 wr (w.heap.size + 2) [.int .i64 q2, .string s2]
  run : runP es (q, s) (l.take k) = some (q', s')
  size : s'.size ≤ s.size + 4 * k
theorem RunG.below {w wr wr' : World} {c q : Int} {s : ByteArray} {v : Value} {es : List Ru} {q2 : Int} {s2 : ByteArray} {l : List Int} {k : Nat} {q' : Int} {s' : ByteArray} (h : RunG w wr c q s v es q2 s2 l k q' s') (hb : Below wr.heap.size wr wr') :
    RunG w wr' c q s v es q2 s2 l k q' s' :=
  ⟨h.bel.trans (hb.mono h.bel.size), h.r0.below hb h.r0.lt, h.r1.below hb h.r1.lt, h.r2.below hb h.r2.lt, h.run, h.size⟩
def isRunG (c : Int) (es : List Ru) (q : Int) (s : ByteArray) (q2 : Int) (s2 : ByteArray) (l : List Int) : Bool := (chkP c es q s q2 s2 == 0) && isRunP es (q, s) q2 s2 l
set_option maxRecDepth 100000 in
set_option maxHeartbeats 2000000 in
theorem isRun_any (c q q2 : Int) (v vl : Value) (es : List Ru) (s s2 : ByteArray) (l : List Int) (w : World) (hE : SlR w v es) (hl : SlA w vl (ints l)) (h1 : s.size ≤ 1000000) (h2 : s2.size ≤ 1000000) (hp : ∀ e ∈ es, e.p.size ≤ 4) :
    Calls Try.prog 8 #[.agg #[.int .i64 c, v], .agg #[.int .i64 q, .string s], .agg #[.int .i64 q2, .string s2], vl] w fun r w' => r = .returned (.bool (isRunG c es q s q2 s2 l)) ∧ Below w.heap.size w w' := by
  obtain ⟨p, cap, rfl, hlc, hcm⟩ := hE.len
  obtain ⟨pl, capl, rfl, hll, hlm⟩ := hl.form
  have HE := Lib.hid hE
  have HL := Lib.hid hl
  have HPS := Lib.hid hp
  have HCHK : Hid (∀ w1 g, Below w.heap.size w w1 → Row 39 w1 g [.int .i64 q, .string s, .int .i64 q2, .string s2] → Calls Try.prog 15 #[.agg #[.int .i64 c, .slice p es.length cap], .slice (some ⟨g, 0, none⟩) 2 2] w1 fun e w' => e = .returned (.int .i64 (chkP c es q s q2 s2)) ∧ Below w1.heap.size w1 w') :=
    fun w1 g hb hr => checkConfigs_any g c _ es q q2 s s2 w1 (hE.below hb) (fun e he => by have := hp e he; omega) h1 h2 hr
  clear hE hl hp
  have HB : Hid (Below w.heap.size w ((((w.alloc (.cells #[.int .i64 c, .slice p es.length cap] 37)).alloc (.cells #[.int .i64 q, .string s] 39)).alloc (.cells #[.int .i64 q2, .string s2] 39)).alloc (.cells #[.int .i64 q, .string s, .int .i64 q2, .string s2] 39))) := (((box_below _ _).alloc (by simp) _).alloc (by simp; omega) _).alloc (by simp; omega) _
  have HINIT : Hid (∀ w1, Below ((((w.alloc (.cells #[.int .i64 c, .slice p es.length cap] 37)).alloc (.cells #[.int .i64 q, .string s] 39)).alloc (.cells #[.int .i64 q2, .string s2] 39)).alloc (.cells #[.int .i64 q, .string s, .int .i64 q2, .string s2] 39)).heap.size ((((w.alloc (.cells #[.int .i64 c, .slice p es.length cap] 37)).alloc (.cells #[.int .i64 q, .string s] 39)).alloc (.cells #[.int .i64 q2, .string s2] 39)).alloc (.cells #[.int .i64 q, .string s, .int .i64 q2, .string s2] 39)) w1 → RunG w w1 c q s (.slice p es.length cap) es q2 s2 l 0 q s) := fun w1 hb =>
    ⟨HB.out.trans (hb.mono HB.out.size), ((((row_new _ _ _).alloc _).alloc _).alloc _).below hb (by simp; omega), ((((row_new' _ _ _ _ (by simp)).alloc _).alloc _)).below hb (by simp), ((row_new' _ _ _ _ (by simp)).alloc _).below hb (by simp), rfl, by omega⟩
  obtain ⟨z, hz⟩ : ∃ z, chkP c es q s q2 s2 = z := ⟨_, rfl⟩
  rw [hz] at HCHK
  by_cases hz0 : z = 0
  · subst hz0
    by_cases h0 : 1000 < l.length
    · have HN : Hid (isRunG c es q s q2 s2 l = false) := by
        have h : decide (l.length ≤ 1000) = false := by simp; omega
        show _ = _; unfold isRunG isRunP; rw [h]; simp
      clear hz
      go_enter Try.func8, Try.ntmps8
      go_wp2_with (fail)
      go_at_call 15
      refine (HCHK.out _ _ HB.out (row_new' _ _ _ _ (by simp))).mono ?_
      rintro e w1 ⟨rfl, hb⟩
      have HB1 := Lib.hid hb
      clear hb
      go_wp2_with (fail)
      go_ret
      exact ⟨by rw [HN.out]; rfl, HB.out.trans (HB1.out.mono HB.out.size)⟩
    · have HN : Hid (isRunG c es q s q2 s2 l = (match runP es (q, s) l with | some y => sameC y q2 s2 | none => false)) := by
        have h : decide (l.length ≤ 1000) = true := by simp; omega
        show _ = _; unfold isRunG isRunP; rw [h, hz]; rfl
      have HSMALL : Hid (∀ x : ByteArray, x.size ≤ s.size + 4 * l.length → x.size ≤ 2000000) := fun x hx => by omega
      have hb0 : decide ((1000 : Int) < l.length) = false := by simp; omega
      have hb9 : decide (1000 < l.length) = false := by simp; omega
      clear hz
      go_enter Try.func8, Try.ntmps8
      go_wp2_with (fail)
      go_at_call 15
      refine (HCHK.out _ _ HB.out (row_new' _ _ _ _ (by simp))).mono ?_
      rintro e w1 ⟨rfl, hb⟩
      have HREL0 := Lib.hid (HINIT.out w1 hb)
      clear hb
      go_wp2_with (fail)
      clear HB HINIT
      go_loopw [10, 24] (fun _ i wr => ∃ (k : Nat) (q' : Int) (s' : ByteArray), k ≤ l.length ∧ i = .int .i64 k ∧ RunG w wr c q s (.slice p es.length cap) es q2 s2 l k q' s') (fun _ i _ => l.length - (intOf i).toNat)
      case atStart => exact ⟨0, q, s, Nat.zero_le _, rfl, HREL0.out⟩
      case round =>
        obtain ⟨k, q', s', hk, rfl, hrel⟩ := hrel
        clear HREL0
        by_cases hlt : k < l.length
        · obtain ⟨ad, cap', hv, _, _, hg, hc⟩ := (HL.out.below hrel.bel).int_at k hlt
          cases hv
          obtain ⟨i, hi⟩ : ∃ i, l.getD k 0 = i := ⟨_, rfl⟩
          have hrs := runP_succ es (q, s) l k hlt
          rw [hrel.run, hi] at hrs
          rw [hi] at hc
          have HRS : Hid (runP es (q, s) (l.take (k + 1)) = stepP es q' s' i) := hrs
          have HREL := Lib.hid hrel
          clear hi hrs hrel
          go_wp2
          have HBW : Hid (Below w.heap.size w wr.drew) := HREL.out.bel.drew
          refine wp_region_kin (by kernel_rfl) (by kernel_rfl) ?_
          intro W hW
          rw [← hW] at HBW
          have HWR : Hid (Below wr.heap.size wr W) := hW ▸ (Below.refl wr.heap.size wr).drew
          have hwz : W.heap.size = wr.heap.size := by rw [hW]; rfl
          have HRW := Lib.hid (HREL.out.below HWR.out)
          have b0 := kin_cell (show W.cell? ⟨w.heap.size + 1, 0, none⟩ = some (.int .i64 q') from HRW.out.r1.cell 0) HRW.out.r1.lt
          have b1 := kin_cell (show W.cell? ⟨w.heap.size + 1, 1, none⟩ = some (.string s') from HRW.out.r1.cell 1) HRW.out.r1.lt
          have b2 := kin_cell (show W.cell? ⟨w.heap.size, 0, none⟩ = some (.int .i64 c) from HRW.out.r0.cell 0) HRW.out.r0.lt
          have b3 := kin_cell (show W.cell? ⟨w.heap.size, 1, none⟩ = some (.slice p es.length cap) from HRW.out.r0.cell 1) HRW.out.r0.lt
          have HSTOP : Hid (stepP es q' s' i = none → isRunG c es q s q2 s2 l = false) := fun h => by
            rw [HN.out, runP_stop (k := k + 1) (by rw [HRS.out, h])]
          by_cases g0 : i < 0
          · have k1 : decide (i < 0) = true := decide_eq_true g0
            have HNO : Hid (isRunG c es q s q2 s2 l = false) := HSTOP.out (stepP_out (.inl g0))
            clear g0
            open BigFrame in repeat (go_big_quiet_step (fail))
            refine wpQuiet_nil ?_
            intro z
            have HZB := Lib.hid (HBW.out.trans (z.2.mono HBW.out.size))
            clear b0 b1 b2 b3
            go_wp2
            go_ret
            exact ⟨by rw [HNO.out]; rfl, HZB.out⟩
          have k1 : decide (i < 0) = false := decide_eq_false g0
          by_cases g1 : es.length ≤ i
          · have k2 : decide ((es.length : Int) ≤ i) = true := decide_eq_true g1
            have HNO : Hid (isRunG c es q s q2 s2 l = false) := HSTOP.out (stepP_out (.inr g1))
            clear g1 g0
            open BigFrame in repeat (go_big_quiet_step (fail))
            refine wpQuiet_nil ?_
            intro z
            have HZB := Lib.hid (HBW.out.trans (z.2.mono HBW.out.size))
            clear b0 b1 b2 b3
            go_wp2
            go_ret
            exact ⟨by rw [HNO.out]; rfl, HZB.out⟩
          have k2 : decide ((es.length : Int) ≤ i) = false := decide_eq_false g1
          obtain ⟨m, rfl⟩ : ∃ m : Nat, i = (m : Int) := ⟨i.toNat, by omega⟩
          have hml : m < es.length := by omega
          have k5 : decide (es.length ≤ m) = false := by simp; omega
          obtain ⟨ad2, cap2, e, hv, hg2, hek, d1, d2, d3, d4, d5⟩ := (HE.out.below HBW.out).at_ m hml
          cases hv
          have HST := Lib.hid (stepP_at (q := q') (s := s') hek)
          have HPE := Lib.hid (HPS.out _ (List.mem_of_getElem? hek))
          have hblk : (ad2.add (m * 4)).block < W.heap.size := by rw [block_add]; exact hg2
          replace d2 : W.cell? ⟨(ad2.add (m * 4)).block, (ad2.add (m * 4)).off + 1, none⟩ = some (.int .u8 e.l) := d2
          replace d3 : W.cell? ⟨(ad2.add (m * 4)).block, (ad2.add (m * 4)).off + 2, none⟩ = some (.int .i64 e.t) := d3
          replace d4 : W.cell? ⟨(ad2.add (m * 4)).block, (ad2.add (m * 4)).off + 3, none⟩ = some (.string e.p) := d4
          obtain ⟨f, x, t, y⟩ := e
          dsimp only at d1 d2 d3 d4 d5 HPE
          have a1 := kin_cellA d1 hblk
          have a2 := kin_cellA d2 hblk
          have a3 := kin_cellA d3 hblk
          have a4 := kin_cellA d4 hblk
          clear d1 d2 d3 d4 hek
          by_cases g2 : s'.size = 0
          · have k3 : s'.toList = [] := toList_nil g2
            have HNO : Hid (isRunG c es q s q2 s2 l = false) := HSTOP.out (by rw [HST.out, if_neg]; simp [canP, g2])
            clear g2 g1 g0
            open BigFrame in repeat (go_big_quiet_step (fail))
            refine wpQuiet_nil ?_
            intro z
            have HZB := Lib.hid (HBW.out.trans (z.2.mono HBW.out.size))
            clear b0 b1 b2 b3 a1 a2 a3 a4
            go_wp2
            go_ret
            exact ⟨by rw [HNO.out]; rfl, HZB.out⟩
          have g3 : 0 < s'.size := by omega
          have k3 := toList_ne g3
          have k4 := toList_ne' g3
          have HH1 : Hid (∀ w, Calls Try.prog 16 #[.agg #[.int .i64 q', .string s']] w fun r w' => r = .returned (.agg #[.int .i64 q', .int .u8 (topP s')]) ∧ Below w.heap.size w w') := fun w => by
            have := headC_any q' s' w g3
            have e : topP s' = (s'[0]'g3).toNat := by unfold topP; rw [dif_pos g3]
            rw [e]; exact this
          have HH2 : Hid (∀ w, Calls Try.prog 17 #[.agg #[.int .i64 f, .int .u8 x, .int .i64 t, .string y]] w fun r w' => r = .returned (.agg #[.int .i64 f, .int .u8 x]) ∧ Below w.heap.size w w') := fun w => headR_any ⟨f, x, t, y⟩ w
          have qn := neq_head q' f (topP s') x
          have qg := guard_head
          have HCAN : Hid (canP ⟨f, x, t, y⟩ q' s' = ((q' == f) && ((topP s' : Int) == x))) := by
            show _ = _
            unfold canP
            rw [Bool.eq_iff_iff]
            simp only [Bool.and_eq_true, beq_iff_eq, decide_eq_true_eq]
            constructor
            · rintro ⟨h1, _, h2⟩; exact ⟨h1.symm, by omega⟩
            · rintro ⟨h1, h2⟩; exact ⟨h1.symm, g3, by omega⟩
          obtain ⟨b, hb⟩ : ∃ b, ((q' == f) && ((topP s' : Int) == x)) = b := ⟨_, rfl⟩
          rw [hb] at HCAN
          simp only [hb] at qn
          clear hb g2 g1 g0
          cases b with
          | false =>
            have HNO : Hid (isRunG c es q s q2 s2 l = false) := HSTOP.out (by rw [HST.out, HCAN.out]; rfl)
            open BigFrame in repeat (go_big_quiet_step (first | exact kin_call HH1.out _ | exact kin_call HH2.out _))
            refine wpQuiet_nil ?_
            intro z
            have HZB := Lib.hid (HBW.out.trans (z.2.mono HBW.out.size))
            clear b0 b1 b2 b3 a1 a2 a3 a4 qn qg
            go_wp2
            go_ret
            exact ⟨by rw [HNO.out]; rfl, HZB.out⟩
          | true =>
            have HST2 : Hid (runP es (q, s) (l.take (k + 1)) = some (t, y ++ s'.extract 1 s'.size)) := by show _ = _; rw [HRS.out, HST.out, HCAN.out]; rfl
            open BigFrame in repeat (go_big_quiet_step (first | exact kin_call HH1.out _ | exact kin_call HH2.out _))
            refine wpQuiet_nil ?_
            intro z
            have HZ := Lib.hid (HRW.out.below z.2)
            have HZE := Lib.hid (HBW.out.trans (z.2.mono HBW.out.size))
            have HCELL : Hid (∀ w1, Below z.1.heap.size z.1 w1 → w1.cell? (ad2.add (m * 4)) = some (.int .i64 f) ∧ w1.cell? ⟨(ad2.add (m * 4)).block, (ad2.add (m * 4)).off + 1, none⟩ = some (.int .u8 x) ∧ w1.cell? ⟨(ad2.add (m * 4)).block, (ad2.add (m * 4)).off + 2, none⟩ = some (.int .i64 t) ∧ w1.cell? ⟨(ad2.add (m * 4)).block, (ad2.add (m * 4)).off + 3, none⟩ = some (.string y)) := fun w1 hb =>
              have hlt : (ad2.add (m * 4)).block < z.1.heap.size := Nat.lt_of_lt_of_le hblk z.2.size
              ⟨(hb.cell (p := ad2.add (m * 4)) hlt).trans (a1 z), (hb.cell (p := ⟨(ad2.add (m * 4)).block, (ad2.add (m * 4)).off + 1, none⟩) hlt).trans (a2 z), (hb.cell (p := ⟨(ad2.add (m * 4)).block, (ad2.add (m * 4)).off + 2, none⟩) hlt).trans (a3 z), (hb.cell (p := ⟨(ad2.add (m * 4)).block, (ad2.add (m * 4)).off + 3, none⟩) hlt).trans (a4 z)⟩
            clear a1 a2 a3 a4 b0 b1 b2 b3 qn qg
            go_wp2
            have HSTEP : Hid (∀ w1, Calls Try.prog 18 #[.agg #[.int .i64 f, .int .u8 x, .int .i64 t, .string y], .agg #[.int .i64 q', .string s']] w1 fun r w' => r = .returned (.agg #[.int .i64 t, .string (y ++ s'.extract 1 s'.size)]) ∧ Below w1.heap.size w1 w') :=
              fun w1 => step_any ⟨f, x, t, y⟩ q' s' w1 g3 (HSMALL.out s' (by have := HREL.out.size; omega)) (by have : y.size ≤ 4 := HPE.out; show y.size ≤ 1000; omega)
            refine wp_region_rel_tail (by kernel_rfl) 7 64 rfl (by kernel_rfl) (by kernel_rfl) [.fix (.pointer (some ⟨w.heap.size, 1, none⟩)), .fix (.slice (some ad2) es.length cap), .fix (.int .i64 m), .fix (.pointer (some (ad2.add (m * 4)))), .fix (.agg #[.int .i64 f, .int .u8 x, .int .i64 t, .string y]), .fix (.agg #[.int .i64 q', .string s']), .fix (.agg #[.int .i64 t, .string (y ++ s'.extract 1 s'.size)])] rfl (stays_fix rfl) ?hop ?hQ
            case hop =>
              intro W2 hW2 j o hj vs w1 hb hV
              have hbw : Below z.1.heap.size z.1 w1 := by rw [hW2] at hb; exact ((Below.refl z.1.heap.size z.1).drew).trans hb
              have hr := HZ.out.below hbw
              obtain ⟨a1, a2, a3, a4⟩ := HCELL.out w1 hbw
              have d0 : w1.cell? ⟨w.heap.size, 0, none⟩ = some (.int .i64 c) := hr.r0.cell 0
              have d1 : w1.cell? ⟨w.heap.size, 1, none⟩ = some (.slice (some ad2) es.length cap) := hr.r0.cell 1
              have d2 : w1.cell? ⟨w.heap.size + 1, 0, none⟩ = some (.int .i64 q') := hr.r1.cell 0
              have d3 : w1.cell? ⟨w.heap.size + 1, 1, none⟩ = some (.string s') := hr.r1.cell 1
              clear hW2 hb hbw hr
              simp only [List.take_succ_cons, List.take_zero] at hj
              have hj' : j < 7 := (List.getElem?_eq_some_iff.1 hj).1
              rcases (by omega : j = 0 ∨ j = 1 ∨ j = 2 ∨ j = 3 ∨ j = 4 ∨ j = 5 ∨ j = 6) with rfl | rfl | rfl | rfl | rfl | rfl | rfl
              all_goals
                cases hj
                clear hj'
                refine .inl ⟨rfl, ?_⟩
                simp only [List.take_succ_cons, List.take_zero]
              iterate 6
                ((try simp [predsR, Region.binds, Vk] at hV)
                 simp only [putAll]
                 generalize hR : Res _ _ vs w1 = R
                 go_simp
                 subst hR
                 exact ⟨rfl, Below.refl _ _⟩)
              · (try simp [predsR, Region.binds, Vk] at hV)
                simp only [putAll]
                generalize hR : Res _ _ vs w1 = R
                go_simp
                subst hR
                refine (HSTEP.out _).mono ?_
                rintro e w2 ⟨rfl, hb⟩
                exact ⟨_, rfl, rfl, hb⟩
            case hQ =>
              intro W2 hW2 vs w1 hb hV hD
              have hbw : Below z.1.heap.size z.1 w1 := by rw [hW2] at hb; exact ((Below.refl z.1.heap.size z.1).drew).trans hb
              have v0 : vs 0 = _ := hV 0 (by decide)
              have v1 : vs 1 = _ := hV 1 (by decide)
              have v2 : vs 2 = _ := hV 2 (by decide)
              have v3 : vs 3 = _ := hV 3 (by decide)
              have v4 : vs 4 = _ := hV 4 (by decide)
              have v5 : vs 5 = _ := hV 5 (by decide)
              have v6 : vs 6 = _ := hV 6 (by decide)
              have HR := Lib.hid (HZ.out.below hbw)
              have d2 : w1.cell? ⟨w.heap.size + 1, 0, none⟩ = some (.int .i64 q') := HR.out.r1.cell 0
              have d3 : w1.cell? ⟨w.heap.size + 1, 1, none⟩ = some (.string s') := HR.out.r1.cell 1
              have f2 := HR.out.r1.free 0
              have f3 := HR.out.r1.free 1
              simp only [List.take_succ_cons, List.take_zero, List.drop_succ_cons, List.drop_zero, putAll, v0, v1, v2, v3, v4, v5, v6]
              clear hV hD v0 v1 v2 v3 v4 v5 v6 hb hbw hW2
              have hsz : (y ++ s'.extract 1 s'.size).size ≤ s.size + 4 * (k + 1) := by
                have := HREL.out.size
                have hy : y.size ≤ 4 := HPE.out
                simp only [ByteArray.size_append, ByteArray.size_extract]; omega
              have HNEW : Hid (RunG w ((w1.setCell ⟨w.heap.size + 1, 0, none⟩ (.int .i64 t)).setCell ⟨w.heap.size + 1, 1, none⟩ (.string (y ++ s'.extract 1 s'.size))) c q s (.slice (some ad2) es.length cap) es q2 s2 l (k + 1) t (y ++ s'.extract 1 s'.size)) :=
                ⟨(HR.out.bel.setCell (by simp) _).setCell (by simp) _, (HR.out.r0.other _ (by simp) _).other _ (by simp) _, (HR.out.r1.store 0 _).store 1 _, (HR.out.r2.other _ (by simp) _).other _ (by simp) _, HST2.out, hsz⟩
              clear hsz
              go_wp2
              go_roundw
              case rel => exact ⟨k + 1, _, _, by omega, by go_num, HNEW.out⟩
              case measure => simp [intOf]; omega
        · obtain rfl : k = l.length := by omega
          have hrun := hrel.run
          rw [List.take_length] at hrun
          have HN2 : Hid (isRunG c es q s q2 s2 l = sameC (q', s') q2 s2) := by show _ = _; rw [HN.out, hrun]
          have d2 : wr.cell? ⟨w.heap.size + 1, 0, none⟩ = some (.int .i64 q') := hrel.r1.cell 0
          have d3 : wr.cell? ⟨w.heap.size + 1, 1, none⟩ = some (.string s') := hrel.r1.cell 1
          have d4 : wr.cell? ⟨w.heap.size + 1 + 1, 0, none⟩ = some (.int .i64 q2) := hrel.r2.cell 0
          have d5 : wr.cell? ⟨w.heap.size + 1 + 1, 1, none⟩ = some (.string s2) := hrel.r2.cell 1
          have qe := eql_conf q' q2 s' s2
          have qg := guard_conf
          have HBB := Lib.hid hrel.bel
          obtain ⟨b, hb⟩ : ∃ b, sameC (q', s') q2 s2 = b := ⟨_, rfl⟩
          rw [hb] at HN2
          simp only [hb] at qe
          clear hrel hrun hb
          go_wp2
          go_ret
          exact ⟨by rw [HN2.out]; rfl, HBB.out⟩
  · have HN : Hid (isRunG c es q s q2 s2 l = false) := by
      show _ = _; unfold isRunG
      rw [hz, (beq_eq_false_iff_ne.2 hz0 : (z == 0) = false)]; rfl
    have hz1 : (z != 0) = true := by rw [bne_iff_ne]; exact hz0
    have hz2 : (z == 0) = false := beq_eq_false_iff_ne.2 hz0
    clear hz hz0
    go_enter Try.func8, Try.ntmps8
    go_wp2_with (fail)
    go_at_call 15
    refine (HCHK.out _ _ HB.out (row_new' _ _ _ _ (by simp))).mono ?_
    rintro e w1 ⟨rfl, hb⟩
    have HB1 := Lib.hid hb
    clear hb
    go_wp2_with (fail)
    go_ret
    exact ⟨by rw [HN.out]; rfl, HB.out.trans (HB1.out.mono HB.out.size)⟩
end Go.Proofs.Ytbkalcnblhhjlaa
