/- The reference's Check. -/
import Derived.Test.YthglgagkhnfnpaaGreatQT
set_option linter.unusedVariables false
set_option linter.unusedSimpArgs false
set_option linter.unnecessarySimpa false
namespace Go.Proofs.YthglgagkhnfnpaaGreat
open Go.RowKit

theorem output_is (a : ByteArray) (w : World) (hs : a.size ≤ 5) (b : Bool) (h : allOf a.data.toList 120 121 = b) : Calls Tryz.prog 17 #[.string a] w fun e w' => e = .returned (.bool b) ∧ w = w' :=
  h ▸ output_any a w (by unfold maxLen; omega)
theorem nil_of_size {a : ByteArray} (h : a.size = 0) : a.toList = [] := by
  rw [ByteArray.toList_eq]
  exact List.eq_nil_of_length_eq_zero (by simpa using h)
theorem size_of_nil {a : ByteArray} (h : a.toList = []) : a.size = 0 := by
  rw [ByteArray.toList_eq] at h
  simpa using congrArg List.length h
set_option maxRecDepth 100000 in
set_option maxHeartbeats 4000000 in
theorem check_any (v : Value) (s : Int) (es : List Ed) (ns : List En) (b0 : Nat) (w : World) (hm : Mac 52 54 b0 w v s es ns) (he : es.length ≤ 30) (hn : ns.length ≤ 30) (heo : ∀ e ∈ es, e.ok) (hno : ∀ e ∈ ns, e.a.size ≤ 5) :
    Calls Tryz.prog 5 #[v] w fun e w' => e = .returned (.bool (checkP s es ns)) ∧ Below w.heap.size w w' := by
  obtain ⟨vE, vN, rfl, hE, hN⟩ := hm
  obtain ⟨pE, capE, rfl, hE1, hE2⟩ := hE.len
  obtain ⟨pN, capN, rfl, hN1, hN2⟩ := hN.len
  have HE := Lib.hid hE
  have HN := Lib.hid hN
  have HEO := Lib.hid heo
  have HNO := Lib.hid hno
  clear hE hN heo hno
  by_cases hbad : ns.length < 1 ∨ 5 < ns.length ∨ 20 < es.length ∨ s < 0 ∨ (ns.length : Int) ≤ s
  · have HB : Hid (checkP s es ns = false) := by
      show _ = _
      simp only [checkP, headP, stateP]
      rcases hbad with h | h | h | h | h
      · have h1 : decide (s < (ns.length : Int)) = false ∨ decide (0 ≤ s) = false := by simp; omega
        rcases h1 with h1 | h1 <;> simp [h1]
      · have h1 : decide (ns.length ≤ 5) = false := by simp; omega
        simp [h1]
      · have h1 : decide (es.length ≤ 20) = false := by simp; omega
        simp [h1]
      · have h1 : decide (0 ≤ s) = false := by simp; omega
        simp [h1]
      · have h1 : decide (s < (ns.length : Int)) = false := by simp; omega
        simp [h1]
    by_cases h1 : ns.length < 1
    · go_enter Tryz.func5, Tryz.ntmps5
      go_wp2
      go_ret
      exact ⟨by rw [HB.out]; rfl, (Below.refl _ _).alloc (Nat.le_refl _) _⟩
    by_cases h2 : 5 < ns.length
    · go_enter Tryz.func5, Tryz.ntmps5
      go_wp2
      go_ret
      exact ⟨by rw [HB.out]; rfl, (Below.refl _ _).alloc (Nat.le_refl _) _⟩
    by_cases h3 : 20 < es.length
    · go_enter Tryz.func5, Tryz.ntmps5
      go_wp2
      go_ret
      exact ⟨by rw [HB.out]; rfl, (Below.refl _ _).alloc (Nat.le_refl _) _⟩
    by_cases h4 : s < 0
    · go_enter Tryz.func5, Tryz.ntmps5
      go_wp2
      go_ret
      exact ⟨by rw [HB.out]; rfl, (Below.refl _ _).alloc (Nat.le_refl _) _⟩
    · have h5 : (ns.length : Int) ≤ s := by omega
      go_enter Tryz.func5, Tryz.ntmps5
      go_wp2
      go_ret
      exact ⟨by rw [HB.out]; rfl, (Below.refl _ _).alloc (Nat.le_refl _) _⟩
  · have h1 : 1 ≤ ns.length := by omega
    have h2 : ns.length ≤ 5 := by omega
    have h3 : es.length ≤ 20 := by omega
    have h4 : 0 ≤ s := by omega
    have h5 : s < (ns.length : Int) := by omega
    have HP : Hid (checkP s es ns = (endsTo ns ns.length && upTo ns.length es es.length)) := by
      show _ = _
      simp [checkP, headP, stateP, h2, h3, h4, h5]
    clear hbad
    go_enter Tryz.func5, Tryz.ntmps5
    go_wp2
    have HR0 := Lib.hid (row_new 25 w #[.int .i64 s, .slice pE es.length capE, .slice pN ns.length capN])
    go_loopw [2, 4, 5] (fun r i _ wr => ∃ k : Nat, k ≤ ns.length ∧ r = .bool false ∧ i = .int .i64 k ∧ endsTo ns k = true ∧ Row 25 wr w.heap.size [.int .i64 s, .slice pE es.length capE, .slice pN ns.length capN] ∧ Below w.heap.size w wr) (fun _ i _ _ => ns.length - (intOf i).toNat)
    case atStart => exact ⟨0, Nat.zero_le _, rfl, rfl, rfl, HR0.out, (Below.refl _ _).alloc (Nat.le_refl _) _⟩
    case round =>
      obtain ⟨k, hk, rfl, rfl, hends, hrow, hbel⟩ := hrel
      clear HR0
      have c0 : wr.cell? ⟨w.heap.size, 0, none⟩ = some (.int .i64 s) := hrow.cell 0
      have c1 : wr.cell? ⟨w.heap.size, 1, none⟩ = some (.slice pE es.length capE) := hrow.cell 1
      have c2 : wr.cell? ⟨w.heap.size, 2, none⟩ = some (.slice pN ns.length capN) := hrow.cell 2
      have c3 := hrow.lt
      by_cases hlt : k < ns.length
      · obtain ⟨g, cap, e, hv, _, _, hg, _, hek, d1, d2⟩ := en_at (HN.out.below hbel (Nat.le_refl _)) k hlt
        cases hv
        obtain ⟨b, a⟩ := e
        dsimp only at d1 d2
        have hsz : a.size ≤ 5 := HNO.out _ (List.mem_of_getElem? hek)
        have HS := Lib.hid (endsTo_succ ns k _ hek)
        have HF := Lib.hid (@endsTo_false ns k _ hek)
        have HENDS := Lib.hid hends
        have HROW := Lib.hid hrow
        have HBEL := Lib.hid hbel
        clear hek hends hrow hbel
        cases ha : allOf a.data.toList 120 121
        · have HO : Hid (∀ w, Calls Tryz.prog 17 #[.string a] w fun e w' => e = .returned (.bool false) ∧ w = w') := fun w => output_is a w hsz _ ha
          have HN2 : Hid (checkP s es ns = false) := by
            show _ = _; rw [HP.out, HF.out (by simp [endP, wordP, ha])]; rfl
          clear ha
          go_wp2_with (go_at_call 17; refine (HO.out _).mono ?_; rintro e w' ⟨rfl, rfl⟩)
          go_ret
          exact ⟨by rw [HN2.out]; rfl, HBEL.out.alloc HBEL.out.size _⟩
        have HO : Hid (∀ w, Calls Tryz.prog 17 #[.string a] w fun e w' => e = .returned (.bool true) ∧ w = w') := fun w => output_is a w hsz _ ha
        by_cases hs3 : 3 < a.size
        · have HN2 : Hid (checkP s es ns = false) := by
            have hd : decide (a.size ≤ 3) = false := by simp; omega
            show _ = _; rw [HP.out, HF.out (by simp [endP, wordP, hd])]; rfl
          clear ha
          go_wp2_with (go_at_call 17; refine (HO.out _).mono ?_; rintro e w' ⟨rfl, rfl⟩)
          go_ret
          exact ⟨by rw [HN2.out]; rfl, HBEL.out.alloc HBEL.out.size _⟩
        have hd : decide (a.size ≤ 3) = true := by simp; omega
        cases b
        · by_cases h0 : a.size = 0
          · have hl1 := nil_of_size h0
            have hl2 : (!a.toList.isEmpty) = false := by rw [hl1]; rfl
            have HN2 : Hid (endsTo ns (k + 1) = true) := by show _ = _; rw [HS.out, HENDS.out]; simp [endP, wordP, ha, hd, h0]
            have hs4 : a.size ≤ 3 := by omega
            clear ha hd h0 hs3
            go_wp2_with (go_at_call 17; refine (HO.out _).mono ?_; rintro e w' ⟨rfl, rfl⟩)
            go_roundw
            case rel => exact ⟨k + 1, by omega, rfl, by go_num, HN2.out, HROW.out.alloc _, HBEL.out.alloc HBEL.out.size _⟩
            case measure => simp [intOf]; omega
          · have hl1 : (a.toList == []) = false := by
              rw [beq_eq_false_iff_ne]; exact fun h => h0 (size_of_nil h)
            have hl2 : (!a.toList.isEmpty) = true := by
              cases hq : a.toList with
              | nil => exact absurd (size_of_nil hq) h0
              | cons _ _ => rfl
            have hl3 : a.toList ≠ [] := fun h => h0 (size_of_nil h)
            have HN2 : Hid (checkP s es ns = false) := by
              have : (a.size == 0) = false := by rw [beq_eq_false_iff_ne]; exact h0
              show _ = _; rw [HP.out, HF.out (by simp [endP, this])]; rfl
            have hs4 : a.size ≤ 3 := by omega
            clear ha hd h0 hs3
            go_wp2_with (go_at_call 17; refine (HO.out _).mono ?_; rintro e w' ⟨rfl, rfl⟩)
            go_ret
            exact ⟨by rw [HN2.out]; rfl, HBEL.out.alloc HBEL.out.size _⟩
        · have HN2 : Hid (endsTo ns (k + 1) = true) := by show _ = _; rw [HS.out, HENDS.out]; simp [endP, wordP, ha, hd]
          have hs4 : a.size ≤ 3 := by omega
          clear ha hd hs3
          go_wp2_with (go_at_call 17; refine (HO.out _).mono ?_; rintro e w' ⟨rfl, rfl⟩)
          go_roundw
          case rel => exact ⟨k + 1, by omega, rfl, by go_num, HN2.out, HROW.out.alloc _, HBEL.out.alloc HBEL.out.size _⟩
          case measure => simp [intOf]; omega
      · obtain rfl : k = ns.length := by omega
        have HENDS := Lib.hid hends
        have HROW := Lib.hid hrow
        have HBEL := Lib.hid hbel
        have HQ : Hid (checkP s es ns = upTo ns.length es es.length) := by show _ = _; rw [HP.out, HENDS.out]; rfl
        clear hends hrow hbel HP
        obtain ⟨wo, hwo⟩ : ∃ wo : World, wo = wr := ⟨_, rfl⟩
        subst hwo
        go_wp2
        clear c0 c1 c2 c3
        go_loopw [2, 6, 7] (fun r i _ wr => ∃ k : Nat, k ≤ es.length ∧ r = .bool false ∧ i = .int .i64 k ∧ upTo ns.length es k = true ∧ Row 25 wr w.heap.size [.int .i64 s, .slice pE es.length capE, .slice pN ns.length capN] ∧ Below w.heap.size w wr) (fun _ i _ _ => es.length - (intOf i).toNat)
        case atStart => exact ⟨0, Nat.zero_le _, rfl, rfl, rfl, HROW.out, HBEL.out⟩
        case round =>
          obtain ⟨k, hk, rfl, rfl, hup, hrow, hbel⟩ := hrel
          clear HROW HBEL
          have c1 : wr.cell? ⟨w.heap.size, 1, none⟩ = some (.slice pE es.length capE) := hrow.cell 1
          have c3 := hrow.lt
          by_cases hlt : k < es.length
          · obtain ⟨g, cap, e, hv, _, _, hg, _, hek, d1, d2, d3, d4⟩ := ed_at (HE.out.below hbel (Nat.le_refl _)) k hlt
            cases hv
            have hok := HEO.out _ (List.mem_of_getElem? hek)
            obtain ⟨f, l, o, t⟩ := e
            have hl256 := hok.l
            have ho5 := hok.o
            have hf0 := hok.f0
            have hf1 := hok.f1
            have ht0 := hok.t0
            have ht1 := hok.t1
            dsimp only at d1 d2 d3 d4 hl256 ho5 hf0 hf1 ht0 ht1
            have HUP := Lib.hid hup
            have HROW := Lib.hid hrow
            have HBEL := Lib.hid hbel
            have HEK := Lib.hid hek
            have HSUCC := Lib.hid (upTo_succ ns.length es k)
            have HFALSE := Lib.hid (@upTo_false ns.length es k hlt)
            have HPREV : Hid (0 < k → ∃ p : Ed, es[k - 1]? = some p ∧ wr.cell? ⟨g, (k - 1) * 4, none⟩ = some (.int .i64 p.f) ∧ wr.cell? ⟨g, (k - 1) * 4 + 1, none⟩ = some (.int .u8 p.l) ∧ wr.cell? ⟨g, (k - 1) * 4 + 2, none⟩ = some (.string p.o) ∧ wr.cell? ⟨g, (k - 1) * 4 + 3, none⟩ = some (.int .i64 p.t)) := by
              intro h0
              obtain ⟨g', cap', p, hv', _, _, _, _, hp, q1, q2, q3, q4⟩ := ed_at (HE.out.below hbel (Nat.le_refl _)) (k - 1) (by omega)
              cases hv'
              exact ⟨p, hp, q1, q2, q3, q4⟩
            clear hup hrow hbel hek hok
            go_wp2
            refine wp_region_quiet_tail 53 (by kernel_rfl) (by kernel_rfl) ?_
            intro W hW
            simp only [List.take_succ_cons, List.take_zero, List.drop_succ_cons, List.drop_zero]
            have HBW : Hid (Below w.heap.size w W) := hW ▸ (HBEL.out.alloc HBEL.out.size _).drew
            have HRW : Hid (Row 25 W w.heap.size [.int .i64 s, .slice (some ⟨g, 0, none⟩) es.length capE, .slice pN ns.length capN]) := hW ▸ (HROW.out.alloc _).drew
            have r1 : Row 52 W wr.heap.size [.int .i64 f, .int .u8 l, .string o, .int .i64 t] := hW ▸ (row_new 52 wr _).drew
            have b0 : W.cell? ⟨wr.heap.size, 0, none⟩ = some (.int .i64 f) := r1.cell 0
            have b1 : W.cell? ⟨wr.heap.size, 1, none⟩ = some (.int .u8 l) := r1.cell 1
            have b2 : W.cell? ⟨wr.heap.size, 2, none⟩ = some (.string o) := r1.cell 2
            have b3 : W.cell? ⟨wr.heap.size, 3, none⟩ = some (.int .i64 t) := r1.cell 3
            have cw : W.cell? ⟨w.heap.size, 1, none⟩ = some (.slice (some ⟨g, 0, none⟩) es.length capE) := HRW.out.cell 1
            have HPW : Hid (∀ j, W.cell? ⟨g, j, none⟩ = wr.cell? ⟨g, j, none⟩) := fun j => hW ▸ World.cell?_alloc_lt wr _ ⟨g, j, none⟩ hg
            clear hW r1 d1 d2 d3 d4 c1
            by_cases h1 : f < 0
            · have k1 : decide (f < 0) = true := decide_eq_true h1
              have hx : decide (0 ≤ f) = false := by simp; omega
              have HN2 : Hid (checkP s es ns = false) := by
                show _ = _; rw [HQ.out]
                exact HFALSE.out (okAt_no HEK.out (by simp [edgeP, stateP, hx]))
              open BigFrame in repeat (go_big_quiet_step (fail))
              refine wpQuiet_nil ?_
              clear b0 b1 b2 b3 cw
              go_wp2
              go_ret
              exact ⟨by rw [HN2.out]; rfl, HBW.out⟩
            have k1 : decide (f < 0) = false := decide_eq_false h1
            by_cases h2 : (ns.length : Int) ≤ f
            · have k2 : decide ((ns.length : Int) ≤ f) = true := decide_eq_true h2
              have hx : decide (f < (ns.length : Int)) = false := by simp; omega
              have HN2 : Hid (checkP s es ns = false) := by
                show _ = _; rw [HQ.out]
                exact HFALSE.out (okAt_no HEK.out (by simp [edgeP, stateP, hx]))
              open BigFrame in repeat (go_big_quiet_step (fail))
              refine wpQuiet_nil ?_
              clear b0 b1 b2 b3 cw
              go_wp2
              go_ret
              exact ⟨by rw [HN2.out]; rfl, HBW.out⟩
            have k2 : decide ((ns.length : Int) ≤ f) = false := decide_eq_false h2
            by_cases h3 : t < 0
            · have k3 : decide (t < 0) = true := decide_eq_true h3
              have hx : decide (0 ≤ t) = false := by simp; omega
              have HN2 : Hid (checkP s es ns = false) := by
                show _ = _; rw [HQ.out]
                exact HFALSE.out (okAt_no HEK.out (by simp [edgeP, stateP, hx]))
              open BigFrame in repeat (go_big_quiet_step (fail))
              refine wpQuiet_nil ?_
              clear b0 b1 b2 b3 cw
              go_wp2
              go_ret
              exact ⟨by rw [HN2.out]; rfl, HBW.out⟩
            have k3 : decide (t < 0) = false := decide_eq_false h3
            by_cases h4 : (ns.length : Int) ≤ t
            · have k4 : decide ((ns.length : Int) ≤ t) = true := decide_eq_true h4
              have hx : decide (t < (ns.length : Int)) = false := by simp; omega
              have HN2 : Hid (checkP s es ns = false) := by
                show _ = _; rw [HQ.out]
                exact HFALSE.out (okAt_no HEK.out (by simp [edgeP, stateP, hx]))
              open BigFrame in repeat (go_big_quiet_step (fail))
              refine wpQuiet_nil ?_
              clear b0 b1 b2 b3 cw
              go_wp2
              go_ret
              exact ⟨by rw [HN2.out]; rfl, HBW.out⟩
            have k4 : decide ((ns.length : Int) ≤ t) = false := decide_eq_false h4
            by_cases h5 : l ≠ 97 ∧ l ≠ 98
            · have k5 : ((l : Int) == 97) = false := by rw [beq_eq_false_iff_ne]; omega
              have k6 : ((l : Int) != 97) = true := by rw [bne_iff_ne]; omega
              have k7 : ((l : Int) == 98) = false := by rw [beq_eq_false_iff_ne]; omega
              have k8 : ((l : Int) != 98) = true := by rw [bne_iff_ne]; omega
              have hx : (l == 97) = false := by rw [beq_eq_false_iff_ne]; omega
              have hy : (l == 98) = false := by rw [beq_eq_false_iff_ne]; omega
              have HN2 : Hid (checkP s es ns = false) := by
                show _ = _; rw [HQ.out]
                exact HFALSE.out (okAt_no HEK.out (by simp [edgeP, hx, hy]))
              open BigFrame in repeat (go_big_quiet_step (fail))
              refine wpQuiet_nil ?_
              clear b0 b1 b2 b3 cw
              go_wp2
              go_ret
              exact ⟨by rw [HN2.out]; rfl, HBW.out⟩
            have hl97 : (((l : Int) == 97) = true ∧ ((l : Int) != 97) = false) ∨ (((l : Int) == 97) = false ∧ ((l : Int) != 97) = true ∧ ((l : Int) == 98) = true ∧ ((l : Int) != 98) = false) := by
              by_cases h : l = 97
              · subst h; exact .inl ⟨rfl, rfl⟩
              · have : l = 98 := by omega
                subst this; exact .inr ⟨rfl, rfl, rfl, rfl⟩
            have hlok : (l == 97 || l == 98) = true := by simp; omega
            have HLOK := Lib.hid hlok
            clear hlok
            have hst : stateP ns.length f = true ∧ stateP ns.length t = true := by simp [stateP]; omega
            have HST := Lib.hid hst
            clear hst
            rcases hl97 with ⟨k5, k6⟩ | ⟨k5, k6, k7, k8⟩
            all_goals
              cases ha : allOf o.data.toList 120 121
              · have HO : Hid (∀ w, Calls Tryz.prog 17 #[.string o] w fun e w' => e = .returned (.bool false) ∧ w' = w) := fun w => flipC (output_is o w ho5 _ ha)
                have HN2 : Hid (checkP s es ns = false) := by
                  show _ = _; rw [HQ.out]
                  exact HFALSE.out (okAt_no HEK.out (by simp [edgeP, wordP, ha]))
                open BigFrame in repeat (go_big_quiet_step (fail))
                open BigFrame in (go_big_quiet_want; go_big_quiet_op)
                refine ⟨_, HO.out _, ?_⟩
                open BigFrame in go_big_quiet_on
                open BigFrame in repeat (go_big_quiet_step (fail))
                refine wpQuiet_nil ?_
                clear b0 b1 b2 b3 cw
                go_wp2
                go_ret
                exact ⟨by rw [HN2.out]; rfl, HBW.out⟩
              have HO : Hid (∀ w, Calls Tryz.prog 17 #[.string o] w fun e w' => e = .returned (.bool true) ∧ w' = w) := fun w => flipC (output_is o w ho5 _ ha)
              by_cases h6 : 3 < o.size
              · have k9 : decide (3 < (o.size : Int)) = true := decide_eq_true (by omega)
                have HO := HO
                have hx : decide (o.size ≤ 3) = false := by simp; omega
                have HN2 : Hid (checkP s es ns = false) := by
                  show _ = _; rw [HQ.out]
                  exact HFALSE.out (okAt_no HEK.out (by simp [edgeP, wordP, hx]))
                open BigFrame in repeat (go_big_quiet_step (fail))
                open BigFrame in (go_big_quiet_want; go_big_quiet_op)
                refine ⟨_, HO.out _, ?_⟩
                open BigFrame in go_big_quiet_on
                open BigFrame in repeat (go_big_quiet_step (fail))
                refine wpQuiet_nil ?_
                clear b0 b1 b2 b3 cw
                go_wp2
                go_ret
                exact ⟨by rw [HN2.out]; rfl, HBW.out⟩
              have k9 : decide (3 < (o.size : Int)) = false := decide_eq_false (by omega)
              have HEDGE : Hid (edgeP ns.length ⟨f, l, o, t⟩ = true) := by
                have hx : decide (o.size ≤ 3) = true := by simp; omega
                show _ = _; simp only [edgeP, wordP]; rw [HST.out.1, HST.out.2, HLOK.out, hx, ha]; rfl
              clear ha
              rcases k with _ | q
              · have HN2 : Hid (upTo ns.length es (0 + 1) = true) := by show _ = _; rw [HSUCC.out, HUP.out, okAt_zero HEK.out, HEDGE.out]; rfl
                open BigFrame in repeat (go_big_quiet_step (fail))
                open BigFrame in (go_big_quiet_want; go_big_quiet_op)
                refine ⟨_, HO.out _, ?_⟩
                open BigFrame in go_big_quiet_on
                open BigFrame in repeat (go_big_quiet_step (fail))
                refine wpQuiet_nil ?_
                clear b0 b1 b2 b3 cw
                go_wp2
                go_roundw
                case rel => exact ⟨0 + 1, by omega, rfl, rfl, HN2.out, HRW.out, HBW.out⟩
                case measure => simp [intOf]; omega
              · obtain ⟨p, hp, q1, q2, q3, q4⟩ := HPREV.out (by omega)
                rw [Nat.add_sub_cancel] at hp q1 q2 q3 q4
                obtain ⟨pf, pl, po, pt⟩ := p
                dsimp only at q1 q2 q3 q4
                rw [← HPW.out] at q1 q2 q3 q4
                have HOK := Lib.hid (okAt_pos (n := ns.length) HEK.out (by omega) hp)
                clear hp
                have m1 : IntKind.i64.wrap (((q + 1 : Nat) : Int) - 1) = (q : Int) := by rw [show ((q + 1 : Nat) : Int) - 1 = (q : Int) by omega]; exact IntWalk.i64_in _ (by omega)
                have m2 : decide ((0 : Int) < ((q + 1 : Nat) : Int)) = true := decide_eq_true (by omega)
                have m3 : (q : Int) < (es.length : Int) := by omega
                have m4 : 0 ≤ (q : Int) := by omega
                have HLESS : Hid (∀ w, Calls Tryz.prog 18 #[.agg #[.int .i64 pf, .int .u8 pl, .string po, .int .i64 pt], .agg #[.int .i64 f, .int .u8 l, .string o, .int .i64 t]] w fun r w' => r = .returned (.bool (lessE ⟨pf, pl, po, pt⟩ ⟨f, l, o, t⟩)) ∧ Below w.heap.size w w') := fun w => less_any ⟨pf, pl, po, pt⟩ ⟨f, l, o, t⟩ w
                cases hle : lessE ⟨pf, pl, po, pt⟩ ⟨f, l, o, t⟩
                · have HN2 : Hid (checkP s es ns = false) := by show _ = _; rw [HQ.out]; exact HFALSE.out (by rw [HOK.out, hle]; simp)
                  rw [hle] at HLESS
                  clear hle
                  open BigFrame in repeat (go_big_quiet_step (fail))
                  open BigFrame in (go_big_quiet_want; go_big_quiet_op)
                  refine ⟨_, HO.out _, ?_⟩
                  open BigFrame in go_big_quiet_on
                  open BigFrame in repeat (go_big_quiet_step (fail))
                  refine wpQuiet_nil ?_
                  clear b0 b1 b2 b3 cw
                  go_wp2_with (go_at_call 18; refine (HLESS.out _).mono ?_; rintro e w5 ⟨rfl, hb5⟩; have HB5 := Lib.hid hb5; clear hb5)
                  go_ret
                  exact ⟨by rw [HN2.out]; rfl, HBW.out.trans (HB5.out.mono HBW.out.size)⟩
                · have HN2 : Hid (upTo ns.length es (q + 1 + 1) = true) := by show _ = _; rw [HSUCC.out, HUP.out, HOK.out, HEDGE.out, hle]; rfl
                  rw [hle] at HLESS
                  clear hle
                  open BigFrame in repeat (go_big_quiet_step (fail))
                  open BigFrame in (go_big_quiet_want; go_big_quiet_op)
                  refine ⟨_, HO.out _, ?_⟩
                  open BigFrame in go_big_quiet_on
                  open BigFrame in repeat (go_big_quiet_step (fail))
                  refine wpQuiet_nil ?_
                  clear b0 b1 b2 b3 cw
                  go_wp2_with (go_at_call 18; refine (HLESS.out _).mono ?_; rintro e w5 ⟨rfl, hb5⟩; have HB5 := Lib.hid hb5; clear hb5)
                  go_roundw
                  case rel => exact ⟨q + 1 + 1, by omega, rfl, by go_num, HN2.out, HRW.out.below HB5.out HRW.out.lt, HBW.out.trans (HB5.out.mono HBW.out.size)⟩
                  case measure => simp [intOf]; omega
          · obtain rfl : k = es.length := by omega
            have HN2 : Hid (checkP s es ns = true) := by show _ = _; rw [HQ.out]; exact hup
            have HBEL := Lib.hid hbel
            clear hup hrow hbel
            go_wp2
            go_ret
            exact ⟨by rw [HN2.out]; rfl, HBEL.out⟩
end Go.Proofs.YthglgagkhnfnpaaGreat
