/- The reference's Apply. -/
import Derived.Test.YtllhejjcmfiebaaDoorS33
import Derived.Test.YtllhejjcmfiebaaDoorQR
set_option linter.unusedVariables false
set_option linter.unusedSimpArgs false
set_option linter.unnecessarySimpa false
namespace Go.Proofs.YtllhejjcmfiebaaDoor
open Go.RowKit Go.Shelf

theorem rmoved_int (v : Value) (n tn : Nat) (t : Int) (p : List Int) (w : World) (hp : SlA w v (ints p)) (hw : PosW n p) (hn9 : n ≤ 9) (ht : tn < n) (e : t = (tn : Int)) :
    Calls Tryd.prog 41 #[v, .int .i64 t] w fun e w' => ∃ v', e = .returned v' ∧ Own 3 w.heap.size w' v' (ints (movedL p tn)) ∧ Below w.heap.size w w' := by
  subst e
  exact rmoved_go v n tn p w hp hw hn9 ht
set_option maxRecDepth 100000 in
set_option maxHeartbeats 1000000 in
theorem rapply_go (ve vp vm : Value) (n0 : Int) (N : Nat) (l : Ps) (p m : List Int) (w : World) (hl : SlP w ve l) (hp : SlA w vp (ints p)) (hm : SlA w vm (ints m)) (hw : PosW N p) (hn9 : N ≤ 9)
    (hok : ∀ j, j < l.length → okAt N l j = true) (hE : Lt (toE l) N) (hm40 : m.length ≤ 1000) :
    Calls Tryd.prog 37 #[.int .i64 n0, ve, vp, vm] w fun e w' => ∃ v', e = .returned (.tuple #[v', .int .i64 ((applyL (toE l) p m).2 : Nat)]) ∧ SlA w' v' (ints (applyL (toE l) p m).1) ∧ Below w.heap.size w w' := by
  have HNR := Lib.hid (fun W (hb : Below w.heap.size w W) a t => rnear_go ve N a t l W (hl.below hb) hn9 hok)
  obtain ⟨pe, ce, rfl, hce1, hce2⟩ := hl.len
  obtain ⟨pp, cp, rfl, hcp1, hcp2⟩ := hp.form
  have HM := Lib.hid hm
  have HP := Lib.hid hp
  have HW0 := Lib.hid hw
  have HE := Lib.hid hE
  obtain ⟨pm, cm, rfl, hcm1, hcm2⟩ := hm.form
  clear hl hp hm hw hok hE
  go_enter Tryd.func37, Tryd.ntmps37
  go_wp2
  go_loopw [2, 10] (fun pv i wr => ∃ (k : Nat) (q : List Int), k ≤ m.length ∧ i = .int .i64 k ∧ SlA wr pv (ints q) ∧ PosW N q ∧ AtMove (toE l) p m k q ∧ Below w.heap.size w wr) (fun _ i _ => m.length - (intOf i).toNat)
  case atStart => exact ⟨0, p, Nat.zero_le _, rfl, HP.out, HW0.out, AtMove.start _ _ _, Below.refl _ _⟩
  case round =>
    obtain ⟨k, q, hk, rfl, hq, hwq, hat, hbel⟩ := hrel
    clear HP HW0
    obtain ⟨pq, cq, rfl, hcq1, hcq2⟩ := hq.form
    have HQ := Lib.hid hq
    have HW := Lib.hid hwq
    have HAT := Lib.hid hat
    have HB := Lib.hid hbel
    by_cases hlt : k < m.length
    · obtain ⟨adm, cm', hv, _, _, hadm, hcm⟩ := (HM.out.below hbel).int_at k hlt
      cases hv
      obtain ⟨t, ht⟩ : ∃ t, m.getD k 0 = t := ⟨_, rfl⟩
      rw [ht] at hcm
      have HT := Lib.hid ht
      have HADM := Lib.hid hadm
      have HCM := Lib.hid hcm
      obtain ⟨wo, hwo⟩ : ∃ wo : World, wo = wr := ⟨_, rfl⟩
      subst hwo
      have HHOLE := Lib.hid (fun W (hb : Below wo.heap.size wo W) => rhole_go _ N q W (hq.below hb) hwq hn9)
      obtain ⟨h, hh⟩ : ∃ h, holeL q = h := ⟨_, rfl⟩
      have HNEAR := Lib.hid (fun W (hb : Below wo.heap.size wo W) => HNR.out W (hbel.trans (hb.mono hbel.size)) h t)
      rw [hh] at HHOLE
      have gk : (k : Int) < (m.length : Int) := by omega
      clear hq hwq hat hbel ht hadm hcm
      cases hB : nearB (toE l) h t with
      | true =>
        rw [hB] at HNEAR
        have HBB : Hid (nearB (toE l) (holeL q) t = true) := by show _ = _; rw [hh]; exact hB
        clear hh hB
        obtain ⟨tn, htn0, htn⟩ := nearB_lt HE.out HBB.out
        have HNX := Lib.hid (HAT.out.next hlt (by rw [HT.out]; exact HBB.out))
        have HWN := Lib.hid (HW.out.moved htn)
        rw [HT.out, show t.toNat = tn by omega] at HNX
        have HMOVED := Lib.hid (fun W u (hu : SlA W u (ints q)) => rmoved_int u N tn t q W hu HW.out hn9 htn htn0)
        clear htn htn0
        go_wp2
        refine wp_region_rel (by kernel_rfl) 37 rfl (by kernel_rfl) [.fix (.slice pe l.length ce), .fix (.slice pq q.length cq), .fix (.int .i64 (h : Nat)), .fix (.slice (some adm) m.length cm), .fix (.int .i64 (k : Nat)), .fix (.pointer (some (adm.add k))), .fix (.int .i64 t), .fix (.bool true), .fix (.bool false)] rfl (stays_fix rfl) ?hop ?hQ
        case hop =>
          intro W hW j o hj vs w1 hb hV
          have hbw : Below wo.heap.size wo w1 := by rw [hW] at hb; exact ((Below.refl wo.heap.size wo).drew).trans hb
          have hcm : w1.cell? (adm.add k) = some (.int .i64 t) := (hbw.cell (p := adm.add k) (by rw [block_add]; exact HADM.out)).trans HCM.out
          clear hW hb
          have hj' : j < 9 := (List.getElem?_eq_some_iff.1 hj).1
          rcases (by omega : j = 0 ∨ j = 1 ∨ j = 2 ∨ j = 3 ∨ j = 4 ∨ j = 5 ∨ j = 6 ∨ j = 7 ∨ j = 8) with rfl | rfl | rfl | rfl | rfl | rfl | rfl | rfl | rfl
          · cases hj
            clear hj'
            refine .inl ⟨rfl, ?_⟩
            (try simp [predsR, Region.binds, Vk] at hV)
            simp only [putAll]
            generalize hR : Res _ _ vs w1 = R
            go_simp
            subst hR
            exact ⟨rfl, Below.refl _ _⟩
          · cases hj
            clear hj'
            refine .inl ⟨rfl, ?_⟩
            (try simp [predsR, Region.binds, Vk] at hV)
            simp only [putAll]
            generalize hR : Res _ _ vs w1 = R
            go_simp
            subst hR
            exact ⟨rfl, Below.refl _ _⟩
          · cases hj
            clear hj'
            refine .inl ⟨rfl, ?_⟩
            generalize hG : relUpon _ _ _ = G
            have q1 : vs 1 = _ := hV 1 (by decide)
            clear hV
            subst hG
            simp only [putAll]
            generalize hR : Res _ _ vs w1 = R
            go_simp
            subst hR
            refine (HHOLE.out w1 hbw).mono ?_
            rintro e w2 ⟨rfl, hb⟩
            exact ⟨_, rfl, rfl, hb⟩
          · cases hj
            clear hj'
            refine .inl ⟨rfl, ?_⟩
            (try simp [predsR, Region.binds, Vk] at hV)
            simp only [putAll]
            generalize hR : Res _ _ vs w1 = R
            go_simp
            subst hR
            exact ⟨rfl, Below.refl _ _⟩
          · cases hj
            clear hj'
            refine .inl ⟨rfl, ?_⟩
            (try simp [predsR, Region.binds, Vk] at hV)
            simp only [putAll]
            generalize hR : Res _ _ vs w1 = R
            go_simp
            subst hR
            exact ⟨rfl, Below.refl _ _⟩
          · cases hj
            clear hj'
            refine .inl ⟨rfl, ?_⟩
            generalize hG : relUpon _ _ _ = G
            have q3 : vs 3 = _ := hV 3 (by decide)
            have q4 : vs 4 = _ := hV 4 (by decide)
            clear hV
            subst hG
            simp only [putAll]
            generalize hR : Res _ _ vs w1 = R
            go_simp
            subst hR
            exact ⟨rfl, Below.refl _ _⟩
          · cases hj
            clear hj'
            refine .inl ⟨rfl, ?_⟩
            generalize hG : relUpon _ _ _ = G
            have q5 : vs 5 = _ := hV 5 (by decide)
            clear hV
            subst hG
            simp only [putAll]
            generalize hR : Res _ _ vs w1 = R
            go_simp
            subst hR
            exact ⟨rfl, Below.refl _ _⟩
          · cases hj
            clear hj'
            refine .inl ⟨rfl, ?_⟩
            generalize hG : relUpon _ _ _ = G
            have q0 : vs 0 = _ := hV 0 (by decide)
            have q2 : vs 2 = _ := hV 2 (by decide)
            have q6 : vs 6 = _ := hV 6 (by decide)
            clear hV
            subst hG
            simp only [putAll]
            generalize hR : Res _ _ vs w1 = R
            go_simp
            subst hR
            refine (HNEAR.out w1 hbw).mono ?_
            rintro e w2 ⟨rfl, hb⟩
            exact ⟨_, rfl, rfl, hb⟩
          · cases hj
            clear hj'
            refine .inl ⟨rfl, ?_⟩
            generalize hG : relUpon _ _ _ = G
            have q7 : vs 7 = _ := hV 7 (by decide)
            clear hV
            subst hG
            simp only [putAll]
            generalize hR : Res _ _ vs w1 = R
            go_simp
            subst hR
            exact ⟨rfl, Below.refl _ _⟩
        case hQ =>
          intro W hW vs w1 hb hV hD
          have hbw : Below wo.heap.size wo w1 := by rw [hW] at hb; exact ((Below.refl wo.heap.size wo).drew).trans hb
          have hcm : w1.cell? (adm.add k) = some (.int .i64 t) := (hbw.cell (p := adm.add k) (by rw [block_add]; exact HADM.out)).trans HCM.out
          have v0 : vs 0 = _ := hV 0 (by decide)
          have v1 : vs 1 = _ := hV 1 (by decide)
          have v2 : vs 2 = _ := hV 2 (by decide)
          have v3 : vs 3 = _ := hV 3 (by decide)
          have v4 : vs 4 = _ := hV 4 (by decide)
          have v5 : vs 5 = _ := hV 5 (by decide)
          have v6 : vs 6 = _ := hV 6 (by decide)
          have v7 : vs 7 = _ := hV 7 (by decide)
          have v8 : vs 8 = _ := hV 8 (by decide)
          generalize hKK : Exit.then _ _ = KK
          simp only [putAll, v0, v1, v2, v3, v4, v5, v6, v7, v8]
          go_simp
          subst hKK
          have HB1 := Lib.hid (HB.out.trans (hbw.mono HB.out.size))
          have HQ1 := Lib.hid (HQ.out.below hbw)
          clear hV hD v0 v1 v2 v3 v4 v5 v6 v7 v8 hb hbw hW HHOLE HNEAR HADM HCM
          go_wp2_with (first | (go_at_call 41; refine (HMOVED.out _ _ HQ1.out).mono ?_; rintro e w2 ⟨v2, rfl, ho2, hb2⟩; have HQ2 := Lib.hid ho2.sl.toA; have HB2 := Lib.hid (HB1.out.trans (hb2.mono HB1.out.size)); clear ho2 hb2))
          go_roundw
          case rel => exact ⟨k + 1, _, by omega, by go_num, HQ2.out, HWN.out, HNX.out, HB2.out⟩
          case measure => simp [intOf]; omega
      | false =>
        rw [hB] at HNEAR
        have HBB : Hid (nearB (toE l) (holeL q) t = false) := by show _ = _; rw [hh]; exact hB
        clear hh hB
        have HST := Lib.hid (HAT.out.stop hlt (by rw [HT.out]; exact HBB.out))
        go_wp2
        refine wp_region_rel (by kernel_rfl) 37 rfl (by kernel_rfl) [.fix (.slice pe l.length ce), .fix (.slice pq q.length cq), .fix (.int .i64 (h : Nat)), .fix (.slice (some adm) m.length cm), .fix (.int .i64 (k : Nat)), .fix (.pointer (some (adm.add k))), .fix (.int .i64 t), .fix (.bool false), .fix (.bool true)] rfl (stays_fix rfl) ?hop ?hQ
        case hop =>
          intro W hW j o hj vs w1 hb hV
          have hbw : Below wo.heap.size wo w1 := by rw [hW] at hb; exact ((Below.refl wo.heap.size wo).drew).trans hb
          have hcm : w1.cell? (adm.add k) = some (.int .i64 t) := (hbw.cell (p := adm.add k) (by rw [block_add]; exact HADM.out)).trans HCM.out
          clear hW hb
          have hj' : j < 9 := (List.getElem?_eq_some_iff.1 hj).1
          rcases (by omega : j = 0 ∨ j = 1 ∨ j = 2 ∨ j = 3 ∨ j = 4 ∨ j = 5 ∨ j = 6 ∨ j = 7 ∨ j = 8) with rfl | rfl | rfl | rfl | rfl | rfl | rfl | rfl | rfl
          · cases hj
            clear hj'
            refine .inl ⟨rfl, ?_⟩
            (try simp [predsR, Region.binds, Vk] at hV)
            simp only [putAll]
            generalize hR : Res _ _ vs w1 = R
            go_simp
            subst hR
            exact ⟨rfl, Below.refl _ _⟩
          · cases hj
            clear hj'
            refine .inl ⟨rfl, ?_⟩
            (try simp [predsR, Region.binds, Vk] at hV)
            simp only [putAll]
            generalize hR : Res _ _ vs w1 = R
            go_simp
            subst hR
            exact ⟨rfl, Below.refl _ _⟩
          · cases hj
            clear hj'
            refine .inl ⟨rfl, ?_⟩
            generalize hG : relUpon _ _ _ = G
            have q1 : vs 1 = _ := hV 1 (by decide)
            clear hV
            subst hG
            simp only [putAll]
            generalize hR : Res _ _ vs w1 = R
            go_simp
            subst hR
            refine (HHOLE.out w1 hbw).mono ?_
            rintro e w2 ⟨rfl, hb⟩
            exact ⟨_, rfl, rfl, hb⟩
          · cases hj
            clear hj'
            refine .inl ⟨rfl, ?_⟩
            (try simp [predsR, Region.binds, Vk] at hV)
            simp only [putAll]
            generalize hR : Res _ _ vs w1 = R
            go_simp
            subst hR
            exact ⟨rfl, Below.refl _ _⟩
          · cases hj
            clear hj'
            refine .inl ⟨rfl, ?_⟩
            (try simp [predsR, Region.binds, Vk] at hV)
            simp only [putAll]
            generalize hR : Res _ _ vs w1 = R
            go_simp
            subst hR
            exact ⟨rfl, Below.refl _ _⟩
          · cases hj
            clear hj'
            refine .inl ⟨rfl, ?_⟩
            generalize hG : relUpon _ _ _ = G
            have q3 : vs 3 = _ := hV 3 (by decide)
            have q4 : vs 4 = _ := hV 4 (by decide)
            clear hV
            subst hG
            simp only [putAll]
            generalize hR : Res _ _ vs w1 = R
            go_simp
            subst hR
            exact ⟨rfl, Below.refl _ _⟩
          · cases hj
            clear hj'
            refine .inl ⟨rfl, ?_⟩
            generalize hG : relUpon _ _ _ = G
            have q5 : vs 5 = _ := hV 5 (by decide)
            clear hV
            subst hG
            simp only [putAll]
            generalize hR : Res _ _ vs w1 = R
            go_simp
            subst hR
            exact ⟨rfl, Below.refl _ _⟩
          · cases hj
            clear hj'
            refine .inl ⟨rfl, ?_⟩
            generalize hG : relUpon _ _ _ = G
            have q0 : vs 0 = _ := hV 0 (by decide)
            have q2 : vs 2 = _ := hV 2 (by decide)
            have q6 : vs 6 = _ := hV 6 (by decide)
            clear hV
            subst hG
            simp only [putAll]
            generalize hR : Res _ _ vs w1 = R
            go_simp
            subst hR
            refine (HNEAR.out w1 hbw).mono ?_
            rintro e w2 ⟨rfl, hb⟩
            exact ⟨_, rfl, rfl, hb⟩
          · cases hj
            clear hj'
            refine .inl ⟨rfl, ?_⟩
            generalize hG : relUpon _ _ _ = G
            have q7 : vs 7 = _ := hV 7 (by decide)
            clear hV
            subst hG
            simp only [putAll]
            generalize hR : Res _ _ vs w1 = R
            go_simp
            subst hR
            exact ⟨rfl, Below.refl _ _⟩
        case hQ =>
          intro W hW vs w1 hb hV hD
          have hbw : Below wo.heap.size wo w1 := by rw [hW] at hb; exact ((Below.refl wo.heap.size wo).drew).trans hb
          have hcm : w1.cell? (adm.add k) = some (.int .i64 t) := (hbw.cell (p := adm.add k) (by rw [block_add]; exact HADM.out)).trans HCM.out
          have v0 : vs 0 = _ := hV 0 (by decide)
          have v1 : vs 1 = _ := hV 1 (by decide)
          have v2 : vs 2 = _ := hV 2 (by decide)
          have v3 : vs 3 = _ := hV 3 (by decide)
          have v4 : vs 4 = _ := hV 4 (by decide)
          have v5 : vs 5 = _ := hV 5 (by decide)
          have v6 : vs 6 = _ := hV 6 (by decide)
          have v7 : vs 7 = _ := hV 7 (by decide)
          have v8 : vs 8 = _ := hV 8 (by decide)
          generalize hKK : Exit.then _ _ = KK
          simp only [putAll, v0, v1, v2, v3, v4, v5, v6, v7, v8]
          go_simp
          subst hKK
          have HB1 := Lib.hid (HB.out.trans (hbw.mono HB.out.size))
          have HQ1 := Lib.hid (HQ.out.below hbw)
          clear hV hD v0 v1 v2 v3 v4 v5 v6 v7 v8 hb hbw hW HHOLE HNEAR HADM HCM
          go_wp2
          go_ret2
          have hst := HST.out
          rw [hst]
          exact ⟨.slice pq q.length cq, rfl, HQ1.out, HB1.out⟩
    · obtain rfl : k = m.length := by omega
      have HDN := Lib.hid hat.done
      clear hq hwq hat hbel
      go_wp2
      go_ret2
      have hst := HDN.out
      rw [hst]
      exact ⟨.slice pq q.length cq, rfl, HQ.out, HB.out⟩
end Go.Proofs.YtllhejjcmfiebaaDoor
