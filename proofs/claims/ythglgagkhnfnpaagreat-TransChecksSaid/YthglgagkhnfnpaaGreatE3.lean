/- The program's isValid, and Check. -/
import Derived.Test.YthglgagkhnfnpaaGreatQT
set_option linter.unusedVariables false
set_option linter.unusedSimpArgs false
set_option linter.unnecessarySimpa false
namespace Go.Proofs.YthglgagkhnfnpaaGreat
open Go.RowKit

theorem isWord_is (a : ByteArray) (hs : a.size ≤ 5) (b : Bool) (h : wordP a = b) (w : World) : Calls Tryz.prog 20 #[.string a, .string ⟨#[120, 121]⟩, .int .i64 3] w fun e w' => e = .returned (.bool b) ∧ Below w.heap.size w w' :=
  h ▸ isWord_any a w (by omega)
theorem nil_size {a : ByteArray} (h : a.size = 0) : a.toList = [] := by
  rw [ByteArray.toList_eq]
  exact List.eq_nil_of_length_eq_zero (by simpa using h)
theorem size_nil {a : ByteArray} (h : a.toList = []) : a.size = 0 := by
  rw [ByteArray.toList_eq] at h
  simpa using congrArg List.length h
set_option maxRecDepth 100000 in
set_option maxHeartbeats 4000000 in
theorem isValid_any (v : Value) (s : Int) (es : List Ed) (ns : List En) (b0 : Nat) (w : World) (hm : Mac 57 58 b0 w v s es ns) (he : es.length ≤ 30) (hn : ns.length ≤ 30) (heo : ∀ e ∈ es, e.ok) (hno : ∀ e ∈ ns, e.a.size ≤ 5) :
    Calls Tryz.prog 19 #[v] w fun e w' => e = .returned (.bool (checkP s es ns)) ∧ Below w.heap.size w w' := by
  obtain ⟨vE, vN, rfl, hE, hN⟩ := hm
  obtain ⟨pE, capE, rfl, hE1, hE2⟩ := hE.len
  obtain ⟨pN, capN, rfl, hN1, hN2⟩ := hN.len
  have HE := Lib.hid hE
  have HN := Lib.hid hN
  have HEO := Lib.hid heo
  have HNO := Lib.hid hno
  clear hE hN heo hno
  have hn1000 : ns.length ≤ 1000 := by omega
  by_cases h1 : 5 < ns.length
  · have HB : Hid (checkP s es ns = false) := by
      have h : decide (ns.length ≤ 5) = false := by simp; omega
      show _ = _; simp [checkP, headP, h]
    go_enter Tryz.func19, Tryz.ntmps19
    go_wp2
    go_ret
    exact ⟨by rw [HB.out]; rfl, (Below.refl _ _).alloc (Nat.le_refl _) _⟩
  by_cases h2 : 20 < es.length
  · have HB : Hid (checkP s es ns = false) := by
      have h : decide (es.length ≤ 20) = false := by simp; omega
      show _ = _; simp [checkP, headP, h]
    go_enter Tryz.func19, Tryz.ntmps19
    go_wp2
    go_ret
    exact ⟨by rw [HB.out]; rfl, (Below.refl _ _).alloc (Nat.le_refl _) _⟩
  cases hst : stateP ns.length s
  · have HB : Hid (checkP s es ns = false) := by show _ = _; simp [checkP, headP, hst]
    go_enter Tryz.func19, Tryz.ntmps19
    go_wp2_with (go_at_call 33; refine (isState_any _ _ _ _ _ _ _ hn1000).mono ?_; rintro e w1 ⟨rfl, hb⟩; have HB1 := Lib.hid hb; clear hb)
    go_ret
    exact ⟨by rw [HB.out]; rfl, ((Below.refl _ _).alloc (Nat.le_refl _) _).trans (HB1.out.mono (by simp))⟩
  have HP : Hid (checkP s es ns = (endsTo ns ns.length && upTo ns.length es es.length)) := by
    have e1 : decide (ns.length ≤ 5) = true := by simp; omega
    have e2 : decide (es.length ≤ 20) = true := by simp; omega
    show _ = _
    simp [checkP, headP, e1, e2, hst]
  go_enter Tryz.func19, Tryz.ntmps19
  go_wp2_with (fail)
  go_at_call 33
  refine (isState_any _ _ _ _ _ _ _ hn1000).mono ?_
  rintro e w1 ⟨rfl, hb⟩
  have HR0 := Lib.hid ((row_new 33 w #[.int .i64 s, .slice pE es.length capE, .slice pN ns.length capN]).below hb (by simp))
  have HB0 := Lib.hid (((Below.refl w.heap.size w).alloc (Nat.le_refl _) _).trans (hb.mono (by simp)))
  have c1 : w1.cell? ⟨w.heap.size, 1, none⟩ = some (.slice pE es.length capE) := HR0.out.cell 1
  clear hb
  rw [hst]
  clear hst
  go_wp2_with (fail)
  clear c1
  go_loopw [2, 3, 4, 27] (fun r _ _ i wr => ∃ k : Nat, k ≤ es.length ∧ r = .bool false ∧ i = .int .i64 k ∧ upTo ns.length es k = true ∧ Row 33 wr w.heap.size [.int .i64 s, .slice pE es.length capE, .slice pN ns.length capN] ∧ Below w.heap.size w wr) (fun _ _ _ i _ => es.length - (intOf i).toNat)
  case atStart => exact ⟨0, Nat.zero_le _, rfl, rfl, rfl, HR0.out, HB0.out⟩
  case round =>
    obtain ⟨k, hk, rfl, rfl, hup, hrow, hbel⟩ := hrel
    clear HR0 HB0
    have c1 : wr.cell? ⟨w.heap.size, 1, none⟩ = some (.slice pE es.length capE) := hrow.cell 1
    have c2 : wr.cell? ⟨w.heap.size, 2, none⟩ = some (.slice pN ns.length capN) := hrow.cell 2
    have c3 := hrow.lt
    by_cases hlt : k < es.length
    · obtain ⟨g, cap, e, hv, _, _, hg, _, hek, d1, d2, d3, d4⟩ := ed_at (HE.out.below hbel (Nat.le_refl _)) k hlt
      cases hv
      have HOKE := Lib.hid (HEO.out _ (List.mem_of_getElem? hek))
      obtain ⟨f, l, o, t⟩ := e
      dsimp only at d1 d2 d3 d4
      have HUP := Lib.hid hup
      have HROW := Lib.hid hrow
      have HBEL := Lib.hid hbel
      have HEK := Lib.hid hek
      have HSUCC := Lib.hid (upTo_succ ns.length es k)
      have HFALSE := Lib.hid (@upTo_false ns.length es k hlt)
      have HPREV : Hid (0 < k → ∃ p : Ed, es[k - 1]? = some p ∧ p.ok ∧ wr.cell? ⟨g, (k - 1) * 4, none⟩ = some (.int .i64 p.f) ∧ wr.cell? ⟨g, (k - 1) * 4 + 1, none⟩ = some (.int .u8 p.l) ∧ wr.cell? ⟨g, (k - 1) * 4 + 2, none⟩ = some (.string p.o) ∧ wr.cell? ⟨g, (k - 1) * 4 + 3, none⟩ = some (.int .i64 p.t)) := by
        intro h0
        obtain ⟨g', cap', p, hv', _, _, _, _, hp, q1, q2, q3, q4⟩ := ed_at (HE.out.below hbel (Nat.le_refl _)) (k - 1) (by omega)
        cases hv'
        exact ⟨p, hp, HEO.out _ (List.mem_of_getElem? hp), q1, q2, q3, q4⟩
      clear hup hrow hbel hek
      go_wp2
      refine wp_region_kin (by kernel_rfl) (by kernel_rfl) ?_
      intro W hW
      have HBW : Hid (Below w.heap.size w W) := hW ▸ (HBEL.out.alloc HBEL.out.size _).drew
      have HRW : Hid (Row 33 W w.heap.size [.int .i64 s, .slice (some ⟨g, 0, none⟩) es.length capE, .slice pN ns.length capN]) := hW ▸ (HROW.out.alloc _).drew
      have r1 : Row 57 W wr.heap.size [.int .i64 f, .int .u8 l, .string o, .int .i64 t] := hW ▸ (row_new 57 wr _).drew
      have b0 := kin_cell (show W.cell? ⟨wr.heap.size, 0, none⟩ = some (.int .i64 f) from r1.cell 0) r1.lt
      have b1 := kin_cell (show W.cell? ⟨wr.heap.size, 1, none⟩ = some (.int .u8 l) from r1.cell 1) r1.lt
      have b2 := kin_cell (show W.cell? ⟨wr.heap.size, 2, none⟩ = some (.string o) from r1.cell 2) r1.lt
      have b3 := kin_cell (show W.cell? ⟨wr.heap.size, 3, none⟩ = some (.int .i64 t) from r1.cell 3) r1.lt
      have a0 := kin_cell (show W.cell? ⟨w.heap.size, 0, none⟩ = some (.int .i64 s) from HRW.out.cell 0) HRW.out.lt
      have a1 := kin_cell (show W.cell? ⟨w.heap.size, 1, none⟩ = some (.slice (some ⟨g, 0, none⟩) es.length capE) from HRW.out.cell 1) HRW.out.lt
      have a2 := kin_cell (show W.cell? ⟨w.heap.size, 2, none⟩ = some (.slice pN ns.length capN) from HRW.out.cell 2) HRW.out.lt
      have HPW : Hid (∀ j v, wr.cell? ⟨g, j, none⟩ = some v → ∀ z : Kin W, z.1.cell? ⟨g, j, none⟩ = some v) := fun j v h =>
        kin_cell (by rw [← h]; exact hW ▸ World.cell?_alloc_lt wr _ ⟨g, j, none⟩ hg) (by have := r1.lt; omega)
      clear hW r1 d1 d2 d3 d4 c1 c2
      have HEDGE : Hid (∀ w, Calls Tryz.prog 34 #[.agg #[.int .i64 s, .slice (some ⟨g, 0, none⟩) es.length capE, .slice pN ns.length capN], .agg #[.int .i64 f, .int .u8 l, .string o, .int .i64 t]] w fun r w' => r = .returned (.bool (edgeP ns.length ⟨f, l, o, t⟩)) ∧ Below w.heap.size w w') :=
        fun w => isEdge_any s _ pN ns.length capN ⟨f, l, o, t⟩ w HOKE.out (by omega)
      cases hep : edgeP ns.length ⟨f, l, o, t⟩
      · have HN2 : Hid (checkP s es ns = false) := by
          show _ = _; rw [HP.out, HFALSE.out (okAt_no HEK.out hep), Bool.and_false]
        rw [hep] at HEDGE
        clear hep
        open BigFrame in repeat (go_big_quiet_step (exact kin_call HEDGE.out _))
        refine wpQuiet_nil ?_
        intro z
        go_wp2
        go_ret
        exact ⟨by rw [HN2.out]; rfl, HBW.out.trans (z.2.mono HBW.out.size)⟩
      rw [hep] at HEDGE
      rcases k with _ | q
      · have HN2 : Hid (upTo ns.length es (0 + 1) = true) := by show _ = _; rw [HSUCC.out, HUP.out, okAt_zero HEK.out, hep]; rfl
        clear hep
        have m2 : decide ((0 : Int) < ((0 : Nat) : Int)) = false := by decide
        open BigFrame in repeat (go_big_quiet_step (exact kin_call HEDGE.out _))
        refine wpQuiet_nil ?_
        intro z
        have HZ := Lib.hid z.2
        go_wp2
        go_roundw
        case rel => exact ⟨0 + 1, by omega, rfl, rfl, HN2.out, HRW.out.below HZ.out HRW.out.lt, HBW.out.trans (HZ.out.mono HBW.out.size)⟩
        case measure => simp [intOf]; omega
      · obtain ⟨p, hp, hpo, q1, q2, q3, q4⟩ := HPREV.out (by omega)
        rw [Nat.add_sub_cancel] at hp q1 q2 q3 q4
        obtain ⟨pf, pl, po, pt⟩ := p
        dsimp only at q1 q2 q3 q4
        have q1 := HPW.out _ _ q1
        have q2 := HPW.out _ _ q2
        have q3 := HPW.out _ _ q3
        have q4 := HPW.out _ _ q4
        have HOK := Lib.hid (okAt_pos (n := ns.length) HEK.out (by omega) hp)
        have HCMP : Hid (∀ w, Calls Tryz.prog 35 #[.agg #[.int .i64 pf, .int .u8 pl, .string po, .int .i64 pt], .agg #[.int .i64 f, .int .u8 l, .string o, .int .i64 t]] w fun r w' => r = .returned (.int .i64 (cmpE ⟨pf, pl, po, pt⟩ ⟨f, l, o, t⟩)) ∧ Below w.heap.size w w') :=
          fun w => compareEdges_any ⟨pf, pl, po, pt⟩ ⟨f, l, o, t⟩ w hpo HOKE.out
        have hcl := cmpE_lt ⟨pf, pl, po, pt⟩ ⟨f, l, o, t⟩
        obtain ⟨c, hc⟩ : ∃ c, cmpE ⟨pf, pl, po, pt⟩ ⟨f, l, o, t⟩ = c := ⟨_, rfl⟩
        rw [hc] at HCMP hcl
        have HEP := Lib.hid hep
        clear hp hpo hc hep
        have m1 : IntKind.i64.wrap (((q + 1 : Nat) : Int) - 1) = (q : Int) := by rw [show ((q + 1 : Nat) : Int) - 1 = (q : Int) by omega]; exact IntWalk.i64_in _ (by omega)
        have m2 : decide ((0 : Int) < ((q + 1 : Nat) : Int)) = true := decide_eq_true (by omega)
        have m3 : (q : Int) < (es.length : Int) := by omega
        have m4 : 0 ≤ (q : Int) := by omega
        by_cases hc0 : 0 ≤ c
        · have k0 : decide (0 ≤ c) = true := decide_eq_true hc0
          have HN2 : Hid (checkP s es ns = false) := by
            have hx : decide (c < 0) = false := by simp; omega
            show _ = _; rw [HP.out, HFALSE.out (by rw [HOK.out, ← hcl, hx, Bool.and_false]), Bool.and_false]
          clear hcl
          open BigFrame in repeat (go_big_quiet_step (first | exact kin_call HEDGE.out _ | exact kin_call HCMP.out _))
          refine wpQuiet_nil ?_
          intro z
          have HZ := Lib.hid z.2
          go_wp2
          go_ret
          exact ⟨by rw [HN2.out]; rfl, HBW.out.trans (HZ.out.mono HBW.out.size)⟩
        · have k0 : decide (0 ≤ c) = false := decide_eq_false hc0
          have HN2 : Hid (upTo ns.length es (q + 1 + 1) = true) := by
            have hx : decide (c < 0) = true := by simp; omega
            show _ = _; rw [HSUCC.out, HUP.out, HOK.out, HEP.out, ← hcl, hx]; rfl
          clear hcl
          open BigFrame in repeat (go_big_quiet_step (first | exact kin_call HEDGE.out _ | exact kin_call HCMP.out _))
          refine wpQuiet_nil ?_
          intro z
          have HZ := Lib.hid z.2
          go_wp2
          go_roundw
          case rel => exact ⟨q + 1 + 1, by omega, rfl, by go_num, HN2.out, HRW.out.below HZ.out HRW.out.lt, HBW.out.trans (HZ.out.mono HBW.out.size)⟩
          case measure => simp [intOf]; omega
    · obtain rfl : k = es.length := by omega
      have HROW := Lib.hid hrow
      have HBEL := Lib.hid hbel
      have HQ : Hid (checkP s es ns = endsTo ns ns.length) := by show _ = _; rw [HP.out, hup, Bool.and_true]
      clear hup hrow hbel HP
      obtain ⟨wo, hwo⟩ : ∃ wo : World, wo = wr := ⟨_, rfl⟩
      subst hwo
      go_wp2
      clear c1 c2 c3
      go_loopw [2, 6, 55] (fun r _ i wr => ∃ k : Nat, k ≤ ns.length ∧ r = .bool false ∧ i = .int .i64 k ∧ endsTo ns k = true ∧ Below w.heap.size w wr) (fun _ _ i _ => ns.length - (intOf i).toNat)
      case atStart => exact ⟨0, Nat.zero_le _, rfl, rfl, rfl, HBEL.out⟩
      case round =>
        obtain ⟨k, hk, rfl, rfl, hends, hbel⟩ := hrel
        clear HROW HBEL
        by_cases hlt : k < ns.length
        · obtain ⟨g, cap, e, hv, _, _, hg, _, hek, d1, d2⟩ := en_at (HN.out.below hbel (Nat.le_refl _)) k hlt
          cases hv
          obtain ⟨b, a⟩ := e
          dsimp only at d1 d2
          have hsz : a.size ≤ 5 := HNO.out _ (List.mem_of_getElem? hek)
          have HS := Lib.hid (endsTo_succ ns k _ hek)
          have HF := Lib.hid (@endsTo_false ns k _ hek)
          have HENDS := Lib.hid hends
          have HBEL := Lib.hid hbel
          clear hek hends hbel
          cases ha : wordP a
          · have HO : Hid (∀ w, Calls Tryz.prog 20 #[.string a, .string ⟨#[120, 121]⟩, .int .i64 3] w fun e w' => e = .returned (.bool false) ∧ Below w.heap.size w w') := isWord_is a hsz _ ha
            have HN2 : Hid (checkP s es ns = false) := by
              show _ = _; rw [HQ.out, HF.out (by simp [endP, ha])]
            clear ha
            go_wp2_with (go_at_call 20; refine (HO.out _).mono ?_; rintro e w1 ⟨rfl, hb⟩; have HB1 := Lib.hid hb; clear hb)
            go_ret
            exact ⟨by rw [HN2.out]; rfl, (HBEL.out.alloc HBEL.out.size _).trans (HB1.out.mono (by have := HBEL.out.size; simp; omega))⟩
          have HO : Hid (∀ w, Calls Tryz.prog 20 #[.string a, .string ⟨#[120, 121]⟩, .int .i64 3] w fun e w' => e = .returned (.bool true) ∧ Below w.heap.size w w') := isWord_is a hsz _ ha
          cases b
          · by_cases h0 : a.size = 0
            · have hl1 := nil_size h0
              have hl2 : (!a.toList.isEmpty) = false := by rw [hl1]; rfl
              have HN2 : Hid (endsTo ns (k + 1) = true) := by show _ = _; rw [HS.out, HENDS.out]; simp [endP, ha, h0]
              clear ha h0
              go_wp2_with (go_at_call 20; refine (HO.out _).mono ?_; rintro e w1 ⟨rfl, hb⟩; obtain ⟨hc1, hf1⟩ := bcell hb; have HB1 := Lib.hid hb; clear hb)
              go_roundw
              case rel => exact ⟨k + 1, by omega, rfl, by go_num, HN2.out, (HBEL.out.alloc HBEL.out.size _).trans (HB1.out.mono (by have := HBEL.out.size; simp; omega))⟩
              case measure => simp [intOf]; omega
            · have hl1 : (a.toList == []) = false := by
                rw [beq_eq_false_iff_ne]; exact fun h => h0 (size_nil h)
              have hl2 : (!a.toList.isEmpty) = true := by
                cases hq : a.toList with
                | nil => exact absurd (size_nil hq) h0
                | cons _ _ => rfl
              have hl3 : a.toList ≠ [] := fun h => h0 (size_nil h)
              have HN2 : Hid (checkP s es ns = false) := by
                have : (a.size == 0) = false := by rw [beq_eq_false_iff_ne]; exact h0
                show _ = _; rw [HQ.out, HF.out (by simp [endP, this])]
              clear ha h0
              go_wp2_with (go_at_call 20; refine (HO.out _).mono ?_; rintro e w1 ⟨rfl, hb⟩; obtain ⟨hc1, hf1⟩ := bcell hb; have HB1 := Lib.hid hb; clear hb)
              go_ret
              exact ⟨by rw [HN2.out]; rfl, (HBEL.out.alloc HBEL.out.size _).trans (HB1.out.mono (by have := HBEL.out.size; simp; omega))⟩
          · have HN2 : Hid (endsTo ns (k + 1) = true) := by show _ = _; rw [HS.out, HENDS.out]; simp [endP, ha]
            clear ha
            go_wp2_with (go_at_call 20; refine (HO.out _).mono ?_; rintro e w1 ⟨rfl, hb⟩; obtain ⟨hc1, hf1⟩ := bcell hb; have HB1 := Lib.hid hb; clear hb)
            go_roundw
            case rel => exact ⟨k + 1, by omega, rfl, by go_num, HN2.out, (HBEL.out.alloc HBEL.out.size _).trans (HB1.out.mono (by have := HBEL.out.size; simp; omega))⟩
            case measure => simp [intOf]; omega
        · obtain rfl : k = ns.length := by omega
          have HN2 : Hid (checkP s es ns = true) := by show _ = _; rw [HQ.out]; exact hends
          have HBEL := Lib.hid hbel
          clear hends hbel
          go_wp2
          go_ret
          exact ⟨by rw [HN2.out]; rfl, HBEL.out⟩
theorem tcheck_any (v : Value) (s : Int) (es : List Ed) (ns : List En) (b0 : Nat) (w : World) (hm : Mac 57 58 b0 w v s es ns) (he : es.length ≤ 30) (hn : ns.length ≤ 30) (heo : ∀ e ∈ es, e.ok) (hno : ∀ e ∈ ns, e.a.size ≤ 5) (b : Bool) (hb : checkP s es ns = b) :
    Calls Tryz.prog 6 #[v] w fun e w' => e = .returned (.int .i64 (if b then 0 else 30)) ∧ Below w.heap.size w w' := by
  have hm2 := hm
  obtain ⟨vE, vN, rfl, hE, hN⟩ := hm
  have HM : Hid (∀ w1, Below w.heap.size w w1 → Calls Tryz.prog 19 #[.agg #[.int .i64 s, vE, vN]] w1 fun e w' => e = .returned (.bool b) ∧ Below w1.heap.size w1 w') := fun w1 hb1 => by
    rw [← hb]
    refine isValid_any _ s es ns b0 w1 ⟨vE, vN, rfl, hE.below hb1 (Nat.le_refl _), hN.below hb1 (Nat.le_refl _)⟩ he hn heo hno
  clear hm2 hE hN hb
  cases b
  all_goals
    go_enter Tryz.func6, Tryz.ntmps6
    go_wp2_with (go_at_call 19; refine (HM.out _ ((Below.refl _ _).alloc (Nat.le_refl _) _)).mono ?_; rintro e w1 ⟨rfl, hb⟩; have HB1 := Lib.hid hb; clear hb)
    go_ret
    exact ⟨rfl, ((Below.refl _ _).alloc (Nat.le_refl _) _).trans (HB1.out.mono (by simp))⟩
end Go.Proofs.YthglgagkhnfnpaaGreat
