/- given, with any number of lists that are positions. -/
import Derived.Test.YtllhejjcmfiebaaDoorND
import Derived.Test.YtllhejjcmfiebaaDoorS38
import Derived.Test.YtllhejjcmfiebaaDoorBW
import Derived.Test.YtllhejjcmfiebaaDoorMT
import Derived.Test.YtllhejjcmfiebaaDoorQR
set_option linter.unusedVariables false
set_option linter.unusedSimpArgs false
set_option linter.unnecessarySimpa false
namespace Go.Proofs.YtllhejjcmfiebaaDoor
open Go.RowKit Go.Shelf
set_option maxRecDepth 100000 in
set_option maxHeartbeats 4000000 in
theorem given_many (v : Value) (vs : List Value) (g N : Nat) (l : Ps) (qs : List (List Int)) (w : World) (hl : SlP w v l) (ht : Tab w) (hvs : vs.length = qs.length) (h9 : N ≤ 9) (hn : qs.length ≤ 1000)
  (hrow : Row 23 w g vs) (hqs : ∀ (i : Nat) (u : Value) (q : List Int), vs[i]? = some u → qs[i]? = some q → SlA w u (ints q) ∧ posE (N : Int) q = 0) (h : checkB (N : Int) l = 0) :
  Calls Tryd.prog 49 #[.int .i64 (N : Nat), v, .slice (some ⟨g, 0, none⟩) qs.length qs.length] w fun e w' => ∃ (b : Nat) (ps : Value), e = .returned (.tuple #[.pointer (some ⟨b, 0, none⟩), ps, .int .i64 0]) ∧ BoardR w' b N (toE l) ∧
   OwnK 82 9 w.heap.size w' ps qs.length (posC qs) ∧ Below w.heap.size w w' := by
 have HN := Lib.hid (new_go v N l w hl ht)
 have HP := Lib.hid (fun (i : Nat) (u : Value) (q : List Int) (h1 : vs[i]? = some u) (h2 : qs[i]? = some q) => show (∀ W, Below w.heap.size w W → Calls Tryd.prog 51 #[.int .i64 (N : Nat), u] W fun e W' => e = .returned (.bool true) ∧ Below W.heap.size W W') ∧ (∀ W, Below w.heap.size w W → Calls Tryd.prog 52 #[u] W fun e W' => e = .returned (nineV (posF q q.length)) ∧ Below W.heap.size W W') ∧ ∃ pq cq, u = .slice pq q.length cq by
  obtain ⟨hq, hp⟩ := hqs i u q h1 h2
  obtain ⟨N', hN', h2', _, hlen, hr⟩ := posE_zero hp
  obtain rfl : N = N' := by omega
  have hpb := posB_of hp
  rw [Int.toNat_natCast] at hpb
  refine ⟨fun W hb => ?_, fun W hb => newPos_go u N q W (hq.below hb) h9 hlen hr, ?_⟩
  ·have := isPos_go u N q W (hq.below hb) (by omega) (by omega)
   rwa [hpb] at this
  ·obtain ⟨pq, cq, e, _, _⟩ := hq.form
   exact ⟨pq, cq, e⟩)
 have HR := Lib.hid (fun W (hb : Below w.heap.size w W) => hrow.below hb hrow.lt)
 rw [h, Int.toNat_natCast] at HN
 obtain ⟨p, cap, rfl, hl1, hl2⟩ := hl.len
 have HVS := Lib.hid hvs
 clear hl ht h hrow hqs hvs
 go_enter Tryd.func49, Tryd.ntmps49
 go_wp2_with (first | (go_at_call 67; refine (HN.out).mono ?_; rintro e w1 ⟨-, he, hb1⟩; obtain ⟨b, rfl, hbb, hbr⟩ := he rfl; have HB1 := Lib.hid hb1; have HBR := Lib.hid hbr; clear he hb1 hbr))
 go_loopw [11, 25] (fun ps iv wr => ∃ i : Nat, i ≤ qs.length ∧ iv = .int .i64 (i : Nat) ∧ OwnK 82 9 w.heap.size wr ps i (posC (qs.take i)) ∧ BoardR wr b N (toE l) ∧ Below w.heap.size w wr) (fun _ i _ => qs.length - (intOf i).toNat)
 case atStart => exact ⟨0, Nat.zero_le _, rfl, World.ownsRow_nil _ _ _ _, HBR.out, HB1.out⟩
 case round =>
  obtain ⟨i, hi, rfl, hown, hbr, hbel⟩ := hrel
  have HBD := Lib.hid hbr
  have HB := Lib.hid hbel
  clear HBR HB1
  by_cases hlt : i < qs.length
  ·have HVV := HVS.out
   obtain ⟨u, hu⟩ : ∃ u, vs[i]? = some u := ⟨_, List.getElem?_eq_getElem (by omega)⟩
   obtain ⟨q, hq⟩ : ∃ q, qs[i]? = some q := ⟨_, List.getElem?_eq_getElem hlt⟩
   obtain ⟨hp1, hp2, pq, cq, rfl⟩ := HP.out i u q hu hq
   have k0 := (HR.out _ hbel).cell i
   rw [hu] at k0
   have hgi : (i : Int) < (qs.length : Int) := by omega
   have HS : Hid (posC (qs.take (i + 1)) = posC (qs.take i) ++ nineL (posF q q.length)) := by
    show _ = _
    rw [List.take_succ_eq_append_getElem hlt, posC_snoc]
    rw [List.getElem?_eq_getElem hlt] at hq
    rw [Option.some.inj hq]
   obtain ⟨F, hF⟩ : ∃ F, posF q q.length = F := ⟨_, rfl⟩
   rw [hF] at hp2 HS
   unfold nineV at hp2
   have HP1 := Lib.hid hp1
   have HP2 := Lib.hid hp2
   have HO := Lib.hid hown
   have gwi : IntKind.i64.wrap ((i : Int) + 1) = (i : Int) + 1 := by rw [show (i : Int) + 1 = ((i + 1 : Nat) : Int) by omega]; exact IntWalk.i64_in _ (by omega)
   obtain ⟨po, co, ho, _, _⟩ := hown.len
   subst ho
   clear hbel hbr hp1 hp2 hown hF hu hq HVV
   go_wp2_with (first
    | (go_at_call 51; refine (HP1.out _ HB.out).mono ?_; rintro e w2 ⟨rfl, hb2⟩; have HB2 := Lib.hid (HB.out.trans (hb2.mono HB.out.size)); have HBD2 := Lib.hid (Row.below HBD.out hb2 (Row.lt HBD.out)); have HO2 := Lib.hid (HO.out.below hb2 (Nat.le_refl _)); clear hb2)
    | (go_at_call 52; refine (HP2.out _ HB2.out).mono ?_; rintro e w3 ⟨rfl, hb3⟩; have HB3 := Lib.hid (HB2.out.trans (hb3.mono HB2.out.size)); have HBD3 := Lib.hid (Row.below HBD2.out hb3 (Row.lt HBD2.out)); have HO3 := Lib.hid (HO2.out.below hb3 (Nat.le_refl _)); clear hb3)
    | (at_builtin; refine wpList_append_boxK w3 rfl (.tmp 33) (.tmp 36) 76 rfl 82 _ 9 9 Tryd.underlying76 Tryd.infoPos rfl (by omega) (by omega) w.heap.size (.slice po i co) i (posC (qs.take i)) rfl HO3.out _ ?c9 _ rfl ?c0 ?c1 ?c2 ?c3 ?_))
   try (case c9 => rfl)
   case c0 => rfl
   case c1 => simp [Value.oneCell']
   case c2 => omega
   case c3 => exact HB3.out.size
   intro v1 w4 ho hb hkp hrp
   have HO4 := Lib.hid ho
   have HBD4 := Lib.hid (hrp _ _ _ (by decide) HBD3.out)
   have HB4 := Lib.hid (HB3.out.trans hb)
   clear ho hb hkp hrp
   go_wp2
   go_roundw
   case rel => exact ⟨i + 1, by omega, by go_num, by rw [HS.out]; exact HO4.out, HBD4.out, HB4.out⟩
   case measure => simp [intOf]; omega
  ·have hie : i = qs.length := by omega
   rw [hie, List.take_length] at hown
   have HO := Lib.hid hown
   clear hown hbel hbr
   subst hie
   go_wp2
   go_ret3
   exact ⟨b, _, rfl, HBD.out, HO.out, HB.out⟩
end Go.Proofs.YtllhejjcmfiebaaDoor
namespace Go.Proofs.YtllhejjcmfiebaaDoor
open Go.RowKit Go.Shelf
set_option maxRecDepth 100000 in
set_option maxHeartbeats 1000000 in
theorem rapply_big (ve vp vm : Value) (n0 : Int) (N : Nat) (l : Ps) (p m : List Int) (w : World) (hl : SlP w ve l) (hp : SlA w vp (ints p)) (hm : SlA w vm (ints m)) (hw : PosW N p) (hn9 : N ≤ 9)
  (hok : ∀ j, j < l.length → okAt N l j = true) (hE : Lt (toE l) N) (hm40 : m.length ≤ 1000000) :
  Calls Tryd.prog 37 #[.int .i64 n0, ve, vp, vm] w fun e w' => ∃ v', e = .returned (.tuple #[v', .int .i64 ((applyL (toE l) p m).2 : Nat)]) ∧ SlA w' v' (ints (applyL (toE l) p m).1) ∧ Below w.heap.size w w' := by
 have HNR := Lib.hid (fun W (hb : Below w.heap.size w W) a t => rnear_go ve N a t l W (hl.below hb) hn9 hok)
 obtain ⟨pe, ce, rfl, hce1, hce2⟩ := hl.len
 obtain ⟨pp, cp, rfl, hcp1, hcp2⟩ := hp.form
 have HM := Lib.hid hm
 have HP := Lib.hid hp
 have HW0 := Lib.hid hw
 have HE := Lib.hid hE
 obtain ⟨pm, cm, rfl, hcm1, hcm2⟩ := hm.form
 clear hl hp hm hw hok hE
 go_enter Tryd.func37, Tryd.ntmps37
 go_wp2
 go_loopw [2, 10] (fun pv i wr => ∃ (k : Nat) (q : List Int), k ≤ m.length ∧ i = .int .i64 k ∧ SlA wr pv (ints q) ∧ PosW N q ∧ AtMove (toE l) p m k q ∧ Below w.heap.size w wr) (fun _ i _ => m.length - (intOf i).toNat)
 case atStart => exact ⟨0, p, Nat.zero_le _, rfl, HP.out, HW0.out, AtMove.start _ _ _, Below.refl _ _⟩
 case round =>
  obtain ⟨k, q, hk, rfl, hq, hwq, hat, hbel⟩ := hrel
  clear HP HW0
  obtain ⟨pq, cq, rfl, hcq1, hcq2⟩ := hq.form
  have HQ := Lib.hid hq
  have HW := Lib.hid hwq
  have HAT := Lib.hid hat
  have HB := Lib.hid hbel
  by_cases hlt : k < m.length
  ·obtain ⟨adm, cm', hv, _, _, hadm, hcm⟩ := (HM.out.below hbel).int_at k hlt
   cases hv
   obtain ⟨t, ht⟩ : ∃ t, m.getD k 0 = t := ⟨_, rfl⟩
   rw [ht] at hcm
   have HT := Lib.hid ht
   have HADM := Lib.hid hadm
   have HCM := Lib.hid hcm
   obtain ⟨wo, hwo⟩ : ∃ wo : World, wo = wr := ⟨_, rfl⟩
   subst hwo
   have HHOLE := Lib.hid (fun W (hb : Below wo.heap.size wo W) => rhole_go _ N q W (hq.below hb) hwq hn9)
   obtain ⟨h, hh⟩ : ∃ h, holeL q = h := ⟨_, rfl⟩
   have HNEAR := Lib.hid (fun W (hb : Below wo.heap.size wo W) => HNR.out W (hbel.trans (hb.mono hbel.size)) h t)
   rw [hh] at HHOLE
   have gk : (k : Int) < (m.length : Int) := by omega
   clear hq hwq hat hbel ht hadm hcm
   cases hB : nearB (toE l) h t with
   | true =>
    rw [hB] at HNEAR
    have HBB : Hid (nearB (toE l) (holeL q) t = true) := by show _ = _; rw [hh]; exact hB
    clear hh hB
    obtain ⟨tn, htn0, htn⟩ := nearB_lt HE.out HBB.out
    have HNX := Lib.hid (HAT.out.next hlt (by rw [HT.out]; exact HBB.out))
    have HWN := Lib.hid (HW.out.moved htn)
    rw [HT.out, show t.toNat = tn by omega] at HNX
    have HMOVED := Lib.hid (fun W u (hu : SlA W u (ints q)) => rmoved_int u N tn t q W hu HW.out hn9 htn htn0)
    clear htn htn0
    go_wp2
    refine wp_region_rel (by kernel_rfl) 37 rfl (by kernel_rfl) [.fix (.slice pe l.length ce), .fix (.slice pq q.length cq), .fix (.int .i64 (h : Nat)), .fix (.slice (some adm) m.length cm), .fix (.int .i64 (k : Nat)), .fix (.pointer (some (adm.add k))), .fix (.int .i64 t), .fix (.bool true), .fix (.bool false)] rfl (stays_fix rfl) ?hop ?hQ
    case hop =>
     intro W hW j o hj vs w1 hb hV
     have hbw : Below wo.heap.size wo w1 := by rw [hW] at hb; exact ((Below.refl wo.heap.size wo).drew).trans hb
     have hcm : w1.cell? (adm.add k) = some (.int .i64 t) := (hbw.cell (p := adm.add k) (by rw [block_add]; exact HADM.out)).trans HCM.out
     clear hW hb
     have hj' : j < 9 := (List.getElem?_eq_some_iff.1 hj).1
     rcases (by omega : j = 0 ∨ j = 1 ∨ j = 2 ∨ j = 3 ∨ j = 4 ∨ j = 5 ∨ j = 6 ∨ j = 7 ∨ j = 8) with rfl | rfl | rfl | rfl | rfl | rfl | rfl | rfl | rfl
     ·cases hj
      clear hj'
      refine .inl ⟨rfl, ?_⟩
      (try simp [predsR, Region.binds, Vk] at hV)
      simp only [putAll]
      generalize hR : Res _ _ vs w1 = R
      go_simp
      subst hR
      exact ⟨rfl, Below.refl _ _⟩
     ·cases hj
      clear hj'
      refine .inl ⟨rfl, ?_⟩
      (try simp [predsR, Region.binds, Vk] at hV)
      simp only [putAll]
      generalize hR : Res _ _ vs w1 = R
      go_simp
      subst hR
      exact ⟨rfl, Below.refl _ _⟩
     ·cases hj
      clear hj'
      refine .inl ⟨rfl, ?_⟩
      generalize hG : relUpon _ _ _ = G
      have q1 : vs 1 = _ := hV 1 (by decide)
      clear hV
      subst hG
      simp only [putAll]
      generalize hR : Res _ _ vs w1 = R
      go_simp
      subst hR
      refine (HHOLE.out w1 hbw).mono ?_
      rintro e w2 ⟨rfl, hb⟩
      exact ⟨_, rfl, rfl, hb⟩
     ·cases hj
      clear hj'
      refine .inl ⟨rfl, ?_⟩
      (try simp [predsR, Region.binds, Vk] at hV)
      simp only [putAll]
      generalize hR : Res _ _ vs w1 = R
      go_simp
      subst hR
      exact ⟨rfl, Below.refl _ _⟩
     ·cases hj
      clear hj'
      refine .inl ⟨rfl, ?_⟩
      (try simp [predsR, Region.binds, Vk] at hV)
      simp only [putAll]
      generalize hR : Res _ _ vs w1 = R
      go_simp
      subst hR
      exact ⟨rfl, Below.refl _ _⟩
     ·cases hj
      clear hj'
      refine .inl ⟨rfl, ?_⟩
      generalize hG : relUpon _ _ _ = G
      have q3 : vs 3 = _ := hV 3 (by decide)
      have q4 : vs 4 = _ := hV 4 (by decide)
      clear hV
      subst hG
      simp only [putAll]
      generalize hR : Res _ _ vs w1 = R
      go_simp
      subst hR
      exact ⟨rfl, Below.refl _ _⟩
     ·cases hj
      clear hj'
      refine .inl ⟨rfl, ?_⟩
      generalize hG : relUpon _ _ _ = G
      have q5 : vs 5 = _ := hV 5 (by decide)
      clear hV
      subst hG
      simp only [putAll]
      generalize hR : Res _ _ vs w1 = R
      go_simp
      subst hR
      exact ⟨rfl, Below.refl _ _⟩
     ·cases hj
      clear hj'
      refine .inl ⟨rfl, ?_⟩
      generalize hG : relUpon _ _ _ = G
      have q0 : vs 0 = _ := hV 0 (by decide)
      have q2 : vs 2 = _ := hV 2 (by decide)
      have q6 : vs 6 = _ := hV 6 (by decide)
      clear hV
      subst hG
      simp only [putAll]
      generalize hR : Res _ _ vs w1 = R
      go_simp
      subst hR
      refine (HNEAR.out w1 hbw).mono ?_
      rintro e w2 ⟨rfl, hb⟩
      exact ⟨_, rfl, rfl, hb⟩
     ·cases hj
      clear hj'
      refine .inl ⟨rfl, ?_⟩
      generalize hG : relUpon _ _ _ = G
      have q7 : vs 7 = _ := hV 7 (by decide)
      clear hV
      subst hG
      simp only [putAll]
      generalize hR : Res _ _ vs w1 = R
      go_simp
      subst hR
      exact ⟨rfl, Below.refl _ _⟩
    case hQ =>
     intro W hW vs w1 hb hV hD
     have hbw : Below wo.heap.size wo w1 := by rw [hW] at hb; exact ((Below.refl wo.heap.size wo).drew).trans hb
     have hcm : w1.cell? (adm.add k) = some (.int .i64 t) := (hbw.cell (p := adm.add k) (by rw [block_add]; exact HADM.out)).trans HCM.out
     have v0 : vs 0 = _ := hV 0 (by decide)
     have v1 : vs 1 = _ := hV 1 (by decide)
     have v2 : vs 2 = _ := hV 2 (by decide)
     have v3 : vs 3 = _ := hV 3 (by decide)
     have v4 : vs 4 = _ := hV 4 (by decide)
     have v5 : vs 5 = _ := hV 5 (by decide)
     have v6 : vs 6 = _ := hV 6 (by decide)
     have v7 : vs 7 = _ := hV 7 (by decide)
     have v8 : vs 8 = _ := hV 8 (by decide)
     generalize hKK : Exit.then _ _ = KK
     simp only [putAll, v0, v1, v2, v3, v4, v5, v6, v7, v8]
     go_simp
     subst hKK
     have HB1 := Lib.hid (HB.out.trans (hbw.mono HB.out.size))
     have HQ1 := Lib.hid (HQ.out.below hbw)
     clear hV hD v0 v1 v2 v3 v4 v5 v6 v7 v8 hb hbw hW HHOLE HNEAR HADM HCM
     go_wp2_with (first | (go_at_call 41; refine (HMOVED.out _ _ HQ1.out).mono ?_; rintro e w2 ⟨v2, rfl, ho2, hb2⟩; have HQ2 := Lib.hid ho2.sl.toA; have HB2 := Lib.hid (HB1.out.trans (hb2.mono HB1.out.size)); clear ho2 hb2))
     go_roundw
     case rel => exact ⟨k + 1, _, by omega, by go_num, HQ2.out, HWN.out, HNX.out, HB2.out⟩
     case measure => simp [intOf]; omega
   | false =>
    rw [hB] at HNEAR
    have HBB : Hid (nearB (toE l) (holeL q) t = false) := by show _ = _; rw [hh]; exact hB
    clear hh hB
    have HST := Lib.hid (HAT.out.stop hlt (by rw [HT.out]; exact HBB.out))
    go_wp2
    refine wp_region_rel (by kernel_rfl) 37 rfl (by kernel_rfl) [.fix (.slice pe l.length ce), .fix (.slice pq q.length cq), .fix (.int .i64 (h : Nat)), .fix (.slice (some adm) m.length cm), .fix (.int .i64 (k : Nat)), .fix (.pointer (some (adm.add k))), .fix (.int .i64 t), .fix (.bool false), .fix (.bool true)] rfl (stays_fix rfl) ?hop ?hQ
    case hop =>
     intro W hW j o hj vs w1 hb hV
     have hbw : Below wo.heap.size wo w1 := by rw [hW] at hb; exact ((Below.refl wo.heap.size wo).drew).trans hb
     have hcm : w1.cell? (adm.add k) = some (.int .i64 t) := (hbw.cell (p := adm.add k) (by rw [block_add]; exact HADM.out)).trans HCM.out
     clear hW hb
     have hj' : j < 9 := (List.getElem?_eq_some_iff.1 hj).1
     rcases (by omega : j = 0 ∨ j = 1 ∨ j = 2 ∨ j = 3 ∨ j = 4 ∨ j = 5 ∨ j = 6 ∨ j = 7 ∨ j = 8) with rfl | rfl | rfl | rfl | rfl | rfl | rfl | rfl | rfl
     ·cases hj
      clear hj'
      refine .inl ⟨rfl, ?_⟩
      (try simp [predsR, Region.binds, Vk] at hV)
      simp only [putAll]
      generalize hR : Res _ _ vs w1 = R
      go_simp
      subst hR
      exact ⟨rfl, Below.refl _ _⟩
     ·cases hj
      clear hj'
      refine .inl ⟨rfl, ?_⟩
      (try simp [predsR, Region.binds, Vk] at hV)
      simp only [putAll]
      generalize hR : Res _ _ vs w1 = R
      go_simp
      subst hR
      exact ⟨rfl, Below.refl _ _⟩
     ·cases hj
      clear hj'
      refine .inl ⟨rfl, ?_⟩
      generalize hG : relUpon _ _ _ = G
      have q1 : vs 1 = _ := hV 1 (by decide)
      clear hV
      subst hG
      simp only [putAll]
      generalize hR : Res _ _ vs w1 = R
      go_simp
      subst hR
      refine (HHOLE.out w1 hbw).mono ?_
      rintro e w2 ⟨rfl, hb⟩
      exact ⟨_, rfl, rfl, hb⟩
     ·cases hj
      clear hj'
      refine .inl ⟨rfl, ?_⟩
      (try simp [predsR, Region.binds, Vk] at hV)
      simp only [putAll]
      generalize hR : Res _ _ vs w1 = R
      go_simp
      subst hR
      exact ⟨rfl, Below.refl _ _⟩
     ·cases hj
      clear hj'
      refine .inl ⟨rfl, ?_⟩
      (try simp [predsR, Region.binds, Vk] at hV)
      simp only [putAll]
      generalize hR : Res _ _ vs w1 = R
      go_simp
      subst hR
      exact ⟨rfl, Below.refl _ _⟩
     ·cases hj
      clear hj'
      refine .inl ⟨rfl, ?_⟩
      generalize hG : relUpon _ _ _ = G
      have q3 : vs 3 = _ := hV 3 (by decide)
      have q4 : vs 4 = _ := hV 4 (by decide)
      clear hV
      subst hG
      simp only [putAll]
      generalize hR : Res _ _ vs w1 = R
      go_simp
      subst hR
      exact ⟨rfl, Below.refl _ _⟩
     ·cases hj
      clear hj'
      refine .inl ⟨rfl, ?_⟩
      generalize hG : relUpon _ _ _ = G
      have q5 : vs 5 = _ := hV 5 (by decide)
      clear hV
      subst hG
      simp only [putAll]
      generalize hR : Res _ _ vs w1 = R
      go_simp
      subst hR
      exact ⟨rfl, Below.refl _ _⟩
     ·cases hj
      clear hj'
      refine .inl ⟨rfl, ?_⟩
      generalize hG : relUpon _ _ _ = G
      have q0 : vs 0 = _ := hV 0 (by decide)
      have q2 : vs 2 = _ := hV 2 (by decide)
      have q6 : vs 6 = _ := hV 6 (by decide)
      clear hV
      subst hG
      simp only [putAll]
      generalize hR : Res _ _ vs w1 = R
      go_simp
      subst hR
      refine (HNEAR.out w1 hbw).mono ?_
      rintro e w2 ⟨rfl, hb⟩
      exact ⟨_, rfl, rfl, hb⟩
     ·cases hj
      clear hj'
      refine .inl ⟨rfl, ?_⟩
      generalize hG : relUpon _ _ _ = G
      have q7 : vs 7 = _ := hV 7 (by decide)
      clear hV
      subst hG
      simp only [putAll]
      generalize hR : Res _ _ vs w1 = R
      go_simp
      subst hR
      exact ⟨rfl, Below.refl _ _⟩
    case hQ =>
     intro W hW vs w1 hb hV hD
     have hbw : Below wo.heap.size wo w1 := by rw [hW] at hb; exact ((Below.refl wo.heap.size wo).drew).trans hb
     have hcm : w1.cell? (adm.add k) = some (.int .i64 t) := (hbw.cell (p := adm.add k) (by rw [block_add]; exact HADM.out)).trans HCM.out
     have v0 : vs 0 = _ := hV 0 (by decide)
     have v1 : vs 1 = _ := hV 1 (by decide)
     have v2 : vs 2 = _ := hV 2 (by decide)
     have v3 : vs 3 = _ := hV 3 (by decide)
     have v4 : vs 4 = _ := hV 4 (by decide)
     have v5 : vs 5 = _ := hV 5 (by decide)
     have v6 : vs 6 = _ := hV 6 (by decide)
     have v7 : vs 7 = _ := hV 7 (by decide)
     have v8 : vs 8 = _ := hV 8 (by decide)
     generalize hKK : Exit.then _ _ = KK
     simp only [putAll, v0, v1, v2, v3, v4, v5, v6, v7, v8]
     go_simp
     subst hKK
     have HB1 := Lib.hid (HB.out.trans (hbw.mono HB.out.size))
     have HQ1 := Lib.hid (HQ.out.below hbw)
     clear hV hD v0 v1 v2 v3 v4 v5 v6 v7 v8 hb hbw hW HHOLE HNEAR HADM HCM
     go_wp2
     go_ret2
     have hst := HST.out
     rw [hst]
     exact ⟨.slice pq q.length cq, rfl, HQ1.out, HB1.out⟩
  ·obtain rfl : k = m.length := by omega
   have HDN := Lib.hid hat.done
   clear hq hwq hat hbel
   go_wp2
   go_ret2
   have hst := HDN.out
   rw [hst]
   exact ⟨.slice pq q.length cq, rfl, HQ.out, HB.out⟩
end Go.Proofs.YtllhejjcmfiebaaDoor
namespace Go.Proofs.YtllhejjcmfiebaaDoor
open Go.RowKit Go.Shelf
def SolL (E : Es) (N : Nat) (p q m : List Int) (bo : Bool) : Prop :=
 (bo = true ∧ DistIs E N p m.length q ∧ applyL E p m = (q, m.length)) ∨ (bo = false ∧ m = [] ∧ ∀ d, ¬ Way (nbrL E N) p d q)
def SFr (N g B : Nat) (p : List Int) (u : Value) (W : World) : Prop :=
 ∃ sg m sb, u = .pointer (some ⟨sg, 0, none⟩) ∧ B ≤ sg ∧ B ≤ m ∧ B ≤ sb ∧ SrchR W sg g m (.slice (some ⟨sb, 0, none⟩) 1 1) ∧ MapAt N W m [(p, p)] ∧ Row 82 W sb (nineL (posF p p.length))
theorem SFr.below {N g B : Nat} {p : List Int} {u : Value} {W W' : World} (h : SFr N g B p u W) (hb : Below W.heap.size W W') : SFr N g B p u W' := by
 obtain ⟨sg, m, sb, a, b, c, d, e, f, i⟩ := h
 exact ⟨sg, m, sb, a, b, c, d, Row.below e hb (Row.lt e), f.below hb, i.below hb i.lt⟩
theorem SFr.at_ {E : Es} {N g B sg m sb : Nat} {p : List Int} {W : World} (hr : SrchR W sg g m (.slice (some ⟨sb, 0, none⟩) 1 1)) (hm : MapAt N W m [(p, p)]) (hw : Row 82 W sb (nineL (posF p p.length))) (hg : g < B) (hsb : B ≤ sb) : SearchAt E N p sg g m 0 W := by
 have hno : sb ≠ sg ∧ sb ≠ m ∧ sb ≠ g := by
  refine ⟨fun e => ?_, fun e => ?_, by omega⟩
  ·subst e
   exact absurd (Row.only hw ⟨_, hr⟩) (by decide)
  ·obtain ⟨D, ⟨es, clock, hh, _⟩, _⟩ := hm
   unfold Row at hw
   rw [e, hh] at hw; cases hw
 have hown : OwnK 82 9 0 W (.slice (some ⟨sb, 0, none⟩) 1 1) (lv E N p 0).2.length (posC (lv E N p 0).2) := by
  refine OwnK.of_row (more := []) (n := 1) (cap := 1) ?_ (Nat.zero_le _) (by decide) (by decide) rfl rfl
  have : posC (lv E N p 0).2 = nineL (posF p p.length) := by show nineL _ ++ [] = _; simp
  rw [this, List.append_nil]; exact hw
 exact ⟨[(p, p)], _, hr, hm, rfl, ParOK.start, hown, fun b hb => by
  have : sb = b := by simpa [Value.ownBlock] using hb
  rw [← this]; exact hno⟩
theorem MapAt.ne {N m m' : Nat} {p q : List Int} {W : World} (hN9 : N ≤ 9) (hq : PosP N q) (hpq : p ≠ q) (h : MapAt N W m [(p, p)]) (h' : MapAt N W m' [(q, q)]) : m ≠ m' := fun e => by
 subst e
 have a := h.look hN9 hq
 have b := h'.look hN9 hq
 rw [a] at b
 have hd : decide (q ∈ keysP [(p, p)]) = false := decide_eq_false (by show ¬ q ∈ [p]; simp; exact fun e => hpq e.symm)
 have hd' : decide (q ∈ keysP [(q, q)]) = true := decide_eq_true (by show q ∈ [q]; simp)
 rw [hd, hd'] at b
 injection b with b _
 injection b with b
 have := congrArg Array.toList b
 simp at this
theorem SrchR.map {W : World} {sg g m m' : Nat} {nv nv' : Value} (h : SrchR W sg g m nv) (h' : SrchR W sg g m' nv') : m = m' := by
 unfold SrchR Row at h h'
 rw [h] at h'
 have h1 := Option.some.inj h'
 injection h1 with h2 _
 have := congrArg Array.toList h2
 simp at this
 exact this.1
theorem dist_few {E : Es} {N d : Nat} {p x : List Int} (hp : PosP N p) (hN9 : N ≤ 9) (h : DistIs E N p d x) : d ≤ 362880 := by
 have h1 := lv_bound (E := E) hp (k := d) fun e => by have := lv_dist.2 h; rw [e] at this; cases this
 have h2 := fact_mono hN9
 rw [fact9] at h2
 omega
theorem back_len (par : List (List Int × List Int)) (d : Nat) (q : List Int) : (holesL (backL par d q)).length = d + 1 := by
 obtain ⟨t, h1, h2⟩ := backL_head par d q
 unfold holesL
 rw [List.length_map, h1, List.length_cons, h2]
theorem Sl.tail1 {w : World} {g n c : Nat} {xs : List Value} (h : Sl w (.slice (some ⟨g, 0, none⟩) (n + 1) (c + 1)) xs) : Sl w (.slice (if c = 0 then some ⟨g, 0, none⟩ else some ⟨g, 1, none⟩) n c) (xs.drop 1) := by
 have h2 := Sl.drop h 1 (by omega)
 rw [Nat.zero_add, Nat.add_sub_cancel, Nat.add_sub_cancel] at h2
 by_cases hc : c = 0
 ·subst hc
  rw [if_pos rfl]
  obtain ⟨p', cap', hv, hl, hm, hn, hp⟩ := h2
  injection hv with e1 e2 e3
  subst e3
  have h0 : (xs.drop 1).length = 0 := by omega
  exact ⟨some ⟨g, 0, none⟩, 0, by rw [h0, ← h0, ← e2], hl, hm, (fun h => by cases h), fun h => by omega⟩
 ·rw [if_neg hc]; exact h2
theorem own_tail {base n : Nat} {w : World} {v : Value} {L : List Int} (h : Own 3 base w v (ints L)) (hl : L.length = n + 1) :
  ∃ g c, v = .slice (some ⟨g, 0, none⟩) (n + 1) (c + 1) ∧ base ≤ g ∧ Sl w (.slice (if c = 0 then some ⟨g, 0, none⟩ else some ⟨g, 1, none⟩) n c) (ints L.tail) := by
 obtain ⟨g, c, hv, h1, h2, h3, h4, _⟩ := OwnK.at_ h (by rw [ints_length]; omega)
 rw [ints_length, hl] at hv h1
 obtain ⟨c', rfl⟩ : ∃ c', c = c' + 1 := ⟨c - 1, by omega⟩
 refine ⟨g, c', hv, h4, ?_⟩
 have hs := h.sl
 rw [hv] at hs
 have := hs.tail1
 have e : (ints L).drop 1 = ints L.tail := by unfold ints; rw [← List.map_drop, List.drop_one]
 rwa [e] at this
theorem sol_of {E : Es} {N a b : Nat} {p q x : List Int} {par par' : List (List Int × List Int)} (h : ParOK E N p par) (h' : ParOK E N q par') (hp : PosP N p) (hq : PosP N q) (h0 : 0 < N)
  (hx : x ∈ keysP par) (hx' : x ∈ keysP par') (ha : DistIs E N p a x) (hb : DistIs E N q b x) (hd : DistIs E N p (a + b) q) :
  SolL E N p q ((holesL (backL par a x)).reverse.tail ++ (holesL (backL par' b x)).tail) true := by
 have hl : ((holesL (backL par a x)).reverse.tail ++ (holesL (backL par' b x)).tail).length = a + b := by
  rw [List.length_append, List.length_tail, List.length_reverse, List.length_tail, back_len, back_len]; omega
 refine .inl ⟨rfl, by rw [hl]; exact hd, ?_⟩
 rw [hl]
 have := meet_apply h h' hp hq h0 hx hx' ha hb
 rw [← this]
 unfold holesL
 rw [← List.map_reverse, List.map_tail, List.map_tail]
set_option maxRecDepth 100000 in
set_option maxHeartbeats 8000000 in
theorem solution_go (N g : Nat) (E : Es) (p q : List Int) (w : World) (hp : PosP N p) (hq : PosP N q) (hN2 : 2 ≤ N) (hN9 : N ≤ 9) (hE : Lt E N) (hne : Ne2 E) (hb : BoardR w g N E) (hT : Tab w) :
  Calls Tryd.prog 59 #[.pointer (some ⟨g, 0, none⟩), nineV (posF p p.length), nineV (posF q q.length)] w fun e w' => ∃ v m bo, e = .returned (.tuple #[v, .bool bo]) ∧ Own 3 w.heap.size w' v (ints m) ∧ SolL E N p q m bo ∧ Below w.heap.size w w' := by
 obtain ⟨P0, hP0⟩ : ∃ P0, posF p p.length = P0 := ⟨_, rfl⟩
 obtain ⟨Q0, hQ0⟩ : ∃ Q0, posF q q.length = Q0 := ⟨_, rfl⟩
 obtain ⟨B, hB⟩ : ∃ B, w.heap.size = B := ⟨_, rfl⟩
 have hr1 := row_new 82 w (nineL P0).toArray
 have hb1 := below_alloc_refl w (.cells (nineL P0).toArray 82)
 have hr2 := row_new 82 (w.alloc (.cells (nineL P0).toArray 82)) (nineL Q0).toArray
 have hb2 := below_alloc_refl (w.alloc (.cells (nineL P0).toArray 82)) (.cells (nineL Q0).toArray 82)
 have hr1' := hr1.below hb2 hr1.lt
 have hbW2 : Below w.heap.size w ((w.alloc (.cells (nineL P0).toArray 82)).alloc (.cells (nineL Q0).toArray 82)) := hb1.trans (hb2.mono (by simp))
 obtain ⟨W2, hW2⟩ : ∃ W2, (w.alloc (.cells (nineL P0).toArray 82)).alloc (.cells (nineL Q0).toArray 82) = W2 := ⟨_, rfl⟩
 have hW2' : (w.alloc (.cells #[.int .i8 (P0 0), .int .i8 (P0 1), .int .i8 (P0 2), .int .i8 (P0 3), .int .i8 (P0 4), .int .i8 (P0 5), .int .i8 (P0 6), .int .i8 (P0 7), .int .i8 (P0 8)] 82)).alloc (.cells #[.int .i8 (Q0 0), .int .i8 (Q0 1), .int .i8 (Q0 2), .int .i8 (Q0 3), .int .i8 (Q0 4), .int .i8 (Q0 5), .int .i8 (Q0 6), .int .i8 (Q0 7), .int .i8 (Q0 8)] 82) = W2 := hW2
 rw [hW2] at hr1' hr2 hbW2
 simp only [World.size_alloc, hB] at hr1' hr2
 have hW2s : W2.heap.size = B + 2 := by rw [← hW2]; simp [hB]
 have hBW2 : B ≤ W2.heap.size := by omega
 have hgl : g < B := by rw [← hB]; exact Row.lt hb
 have hee := equal9 P0 Q0 W2
 have heq : eq9 P0 Q0 = decide (p = q) := by rw [← hP0, ← hQ0]; exact eq9_pos hN9 hp hq
 rw [heq] at hee
 have hfp := fun W => from_go N g p W hN9 hp
 have hfq := fun W => from_go N g q W hN9 hq
 rw [hP0] at hfp
 rw [hQ0] at hfq
 unfold nineV at hfp hfq hee
 have HFP := Lib.hid hfp
 have HFQ := Lib.hid hfq
 clear hfp hfq
 have HR1 := Lib.hid hr1'
 have HR2 := Lib.hid hr2
 have HBW := Lib.hid hbW2
 have HB := Lib.hid hB
 have HP0 := Lib.hid hP0
 have HQ0 := Lib.hid hQ0
 have HP := Lib.hid hp
 have HQ := Lib.hid hq
 have HME := Lib.hid (fun (s1 m1 s2 m2 : Nat) (W : World) (hbl : Below w.heap.size w W) (h1 : SearchAt E N p s1 g m1 0 W) (h2 : SearchAt E N q s2 g m2 0 W) (hpq : p ≠ q) (hs : s1 ≠ s2) (hm : m1 ≠ m2) => meeting_go N g s1 m1 s2 m2 E p q W hp hq hN2 hN9 hE hne (Row.below hb hbl (Row.lt hb)) (hT.below hbl hT.lt) h1 h2 hpq hs hm)
 rw [hP0, hQ0]
 obtain ⟨a0, a1, a2, a3, a4, a5, a6, a7, a8⟩ := nine_cells hr1'
 obtain ⟨b0, b1, b2, b3, b4, b5, b6, b7, b8⟩ := nine_cells hr2
 clear hr1 hb1 hr2 hb2 hr1' hbW2 hW2 hp hq hE hne hb hT heq hP0 hQ0
 unfold nineV
 rw [hB]
 go_enter Tryd.func59, Tryd.ntmps59
 by_cases hpq : p = q
 ·have hdt : decide (p = q) = true := decide_eq_true hpq
  rw [hdt] at hee
  have HPQ := Lib.hid hpq
  clear hpq hdt
  go_wp2_with fail
  go_ret2
  exact ⟨_, [], true, rfl, World.ownsRow_nil _ _ _ _, .inl ⟨rfl, by rw [← HPQ.out]; exact dist_zero, by rw [← HPQ.out]; rfl⟩, by rw [← HB.out]; exact HBW.out⟩
 ·have hdt : decide (p = q) = false := decide_eq_false hpq
  rw [hdt] at hee
  have HPQ := Lib.hid hpq
  clear hpq hdt
  go_wp2_with fail
  clear a0 a1 a2 a3 a4 a5 a6 a7 a8 b0 b1 b2 b3 b4 b5 b6 b7 b8 hee hW2'
  refine wp_region_rel (by kernel_rfl) 45 rfl (by kernel_rfl) [.fix (.pointer (some ⟨g, 0, none⟩)), .fix (.agg #[.int .i8 (P0 0), .int .i8 (P0 1), .int .i8 (P0 2), .int .i8 (P0 3), .int .i8 (P0 4), .int .i8 (P0 5), .int .i8 (P0 6), .int .i8 (P0 7), .int .i8 (P0 8)]), .mem (fun u W => SFr N g B p u W), .fix (.pointer (some ⟨g, 0, none⟩)), .fix (.agg #[.int .i8 (Q0 0), .int .i8 (Q0 1), .int .i8 (Q0 2), .int .i8 (Q0 3), .int .i8 (Q0 4), .int .i8 (Q0 5), .int .i8 (Q0 6), .int .i8 (Q0 7), .int .i8 (Q0 8)]), .mem (fun u W => SFr N g B q u W), .mem (fun u W => SFr N g B p u W), .mem (fun u W => SFr N g B q u W)] rfl (stays_of (fun i M hk v w' w'' h hb => by rcases i with _ | _ | _ | _ | _ | _ | _ | _ | i <;> simp at hk <;> subst hk <;> exact SFr.below h hb) (fun j b k T n => by rcases j with _ | _ | _ | _ | _ | _ | _ | _ | j <;> simp)) ?hop ?hQ
  case hop =>
   intro W hW j0 o hj vs0 wz hb hV
   have hbw : Below W2.heap.size W2 wz := by rw [hW] at hb; exact ((Below.refl W2.heap.size W2).drew).trans hb
   have hwB : B ≤ wz.heap.size := Nat.le_trans hBW2 hbw.size
   clear hW hb
   have hj' : j0 < 8 := (List.getElem?_eq_some_iff.1 hj).1
   rcases (by omega : j0 = 0 ∨ j0 = 1 ∨ j0 = 2 ∨ j0 = 3 ∨ j0 = 4 ∨ j0 = 5 ∨ j0 = 6 ∨ j0 = 7) with rfl | rfl | rfl | rfl | rfl | rfl | rfl | rfl
   ·cases hj
    clear hj'
    refine .inl ⟨rfl, ?_⟩
    (try simp [predsR, Region.binds, Vk] at hV)
    simp only [putAll]
    generalize hR : Res _ _ vs0 wz = R
    go_simp
    subst hR
    exact ⟨rfl, Below.refl _ _⟩
   ·cases hj
    clear hj'
    refine .inl ⟨rfl, ?_⟩
    (try simp [predsR, Region.binds, Vk] at hV)
    generalize hX : Sem.run _ (execOp _ _) _ = r9
    simp only [putAll] at hX
    rw [exec_load9 (HR1.out.below hbw HR1.out.lt) rfl (by go_simp)] at hX
    subst hX
    exact ⟨rfl, Below.refl _ _⟩
   ·cases hj
    clear hj'
    refine .inl ⟨rfl, ?_⟩
    generalize hG : relUpon _ _ _ = G
    have q0_ : vs0 0 = _ := hV 0 (by decide)
    have q1_ : vs0 1 = _ := hV 1 (by decide)
    clear hV
    subst hG
    simp only [putAll]
    generalize hR : Res _ _ vs0 wz = R
    go_simp
    subst hR
    refine (HFP.out wz).mono ?_
    rintro e w4 ⟨sg, m, sb, rfl, k1, k2, k3, k4, k5, k6, k7⟩
    exact ⟨_, rfl, ⟨sg, m, sb, rfl, Nat.le_trans hwB k1, Nat.le_trans hwB k2, Nat.le_trans hwB k3, k4, k5, by rw [HP0.out]; exact k6⟩, k7⟩
   ·cases hj
    clear hj'
    refine .inl ⟨rfl, ?_⟩
    (try simp [predsR, Region.binds, Vk] at hV)
    simp only [putAll]
    generalize hR : Res _ _ vs0 wz = R
    go_simp
    subst hR
    exact ⟨rfl, Below.refl _ _⟩
   ·cases hj
    clear hj'
    refine .inl ⟨rfl, ?_⟩
    (try simp [predsR, Region.binds, Vk] at hV)
    generalize hX : Sem.run _ (execOp _ _) _ = r9
    simp only [putAll] at hX
    rw [exec_load9 (HR2.out.below hbw HR2.out.lt) rfl (by go_simp)] at hX
    subst hX
    exact ⟨rfl, Below.refl _ _⟩
   ·cases hj
    clear hj'
    refine .inl ⟨rfl, ?_⟩
    generalize hG : relUpon _ _ _ = G
    have q3_ : vs0 3 = _ := hV 3 (by decide)
    have q4_ : vs0 4 = _ := hV 4 (by decide)
    clear hV
    subst hG
    simp only [putAll]
    generalize hR : Res _ _ vs0 wz = R
    go_simp
    subst hR
    refine (HFQ.out wz).mono ?_
    rintro e w4 ⟨sg, m, sb, rfl, k1, k2, k3, k4, k5, k6, k7⟩
    exact ⟨_, rfl, ⟨sg, m, sb, rfl, Nat.le_trans hwB k1, Nat.le_trans hwB k2, Nat.le_trans hwB k3, k4, k5, by rw [HQ0.out]; exact k6⟩, k7⟩
   ·cases hj
    clear hj'
    refine .inl ⟨rfl, ?_⟩
    generalize hG : relUpon _ _ _ = G
    have q2_ : SFr N g B p (vs0 2) wz := hV 2 (by decide)
    clear hV
    subst hG
    simp only [putAll]
    generalize hR : Res _ _ vs0 wz = R
    go_simp
    subst hR
    exact ⟨q2_, Below.refl _ _⟩
   ·cases hj
    clear hj'
    refine .inl ⟨rfl, ?_⟩
    generalize hG : relUpon _ _ _ = G
    have q5_ : SFr N g B q (vs0 5) wz := hV 5 (by decide)
    clear hV
    subst hG
    simp only [putAll]
    generalize hR : Res _ _ vs0 wz = R
    go_simp
    subst hR
    exact ⟨q5_, Below.refl _ _⟩
  case hQ =>
   intro W hW vs0 wz hb hV hD
   have hbw : Below W2.heap.size W2 wz := by rw [hW] at hb; exact ((Below.refl W2.heap.size W2).drew).trans hb
   have e0_ : vs0 0 = _ := hV 0 (by decide)
   have e1_ : vs0 1 = _ := hV 1 (by decide)
   have e3_ : vs0 3 = _ := hV 3 (by decide)
   have e4_ : vs0 4 = _ := hV 4 (by decide)
   have f6 : SFr N g B p (vs0 6) wz := hV 6 (by decide)
   have f7 : SFr N g B q (vs0 7) wz := hV 7 (by decide)
   obtain ⟨s1, m1, sb1, v6_, i1, i2, i3, i4, i5, i6⟩ := f6
   obtain ⟨s2, m2, sb2, v7_, j1, j2, j3, j4, j5, j6⟩ := f7
   generalize hKK : Exit.then _ _ = KK
   simp only [putAll, e0_, e1_, e3_, e4_, v6_, v7_]
   go_simp
   subst hKK
   clear hV hD hb hW e0_ e1_ e3_ e4_
   obtain ⟨y2, hy2⟩ : ∃ y2, vs0 2 = y2 := ⟨_, rfl⟩
   obtain ⟨y5, hy5⟩ : ∃ y5, vs0 5 = y5 := ⟨_, rfl⟩
   rw [hy2, hy5]
   have hmm : m1 ≠ m2 := MapAt.ne hN9 HQ.out HPQ.out i5 j5
   have hss : s1 ≠ s2 := fun e => hmm (by subst e; exact SrchR.map i4 j4)
   have hbz : Below w.heap.size w wz := HBW.out.trans (hbw.mono HBW.out.size)
   have hs1 := SFr.at_ (E := E) i4 i5 i6 hgl i3
   have hs2 := SFr.at_ (E := E) j4 j5 j6 hgl j3
   have HMM := Lib.hid (HME.out s1 m1 s2 m2 wz hbz hs1 hs2 HPQ.out hss hmm)
   have HBZ := Lib.hid hbz
   clear hy2 hy5 v6_ v7_ i3 i4 i5 i6 j3 j4 j5 j6 hmm hss hbz hs1 hs2 hbw
   go_wp2_with fail
   refine (HMM.out).mono ?_
   rintro e w4 ⟨F, bo, rfl, hme⟩
   have HMT := Lib.hid hme
   clear hme
   unfold nineV
   have hb4 : Below B w w4 := by
    have h1 := HMT.out.1
    have h2 := HBZ.out
    rw [HB.out] at h2
    exact ⟨h1.os.trans h2.os, h1.tape.trans h2.tape, h1.output.trans h2.output, Nat.le_trans h2.size h1.size, fun b hb => (h1.block b (Nat.lt_of_lt_of_le hb (by rw [← HB.out]; exact h2.size)) ⟨by omega, by omega, by omega, by omega⟩).trans (h2.block b hb)⟩
   have HB4 := Lib.hid hb4
   clear hb4
   rcases HMT.out.2 with ⟨rfl, x, a, b, hF, hxP, ⟨par1, nv1, k1, k2, k3, k4, k5⟩, ⟨par2, nv2, l1, l2, l3, l4, l5⟩, hdd⟩ | ⟨rfl, hF, hno⟩
   ·have ha6 := dist_few HP.out hN9 k5
    have hb6 := dist_few HQ.out hN9 l5
    have HF : Hid (posF x x.length = F) := hF.symm
    obtain ⟨mb, hmb⟩ : ∃ mb, w4.heap.size = mb := ⟨_, rfl⟩
    have r5 := row_new 82 w4 (nineL F).toArray
    have b5 := below_alloc_refl w4 (.cells (nineL F).toArray 82)
    obtain ⟨W5, hW5⟩ : ∃ W5, w4.alloc (.cells (nineL F).toArray 82) = W5 := ⟨_, rfl⟩
    have hW5' : w4.alloc (.cells #[.int .i8 (F 0), .int .i8 (F 1), .int .i8 (F 2), .int .i8 (F 3), .int .i8 (F 4), .int .i8 (F 5), .int .i8 (F 6), .int .i8 (F 7), .int .i8 (F 8)] 82) = W5 := hW5
    rw [hW5] at r5 b5
    rw [hmb] at r5
    have hW5s : W5.heap.size = mb + 1 := by rw [← hW5, World.size_alloc, hmb]
    have HB5 : Hid (Below B w W5) := HB4.out.trans (b5.mono (by have := HB4.out.size; have := HB.out; omega))
    have e1 : SrchR W5 s1 g m1 nv1 := Row.below k1 b5 (Row.lt k1)
    have e2 : MapAt N W5 m1 par1 := k2.below b5
    have e3 : SrchR W5 s2 g m2 nv2 := Row.below l1 b5 (Row.lt l1)
    have e4 : MapAt N W5 m2 par2 := l2.below b5
    have r5x : Row 82 W5 mb (nineL (posF x x.length)) := by rw [HF.out]; exact r5
    have HBK1 := Lib.hid (back_go N s1 g m1 mb a E p x par1 nv1 W5 e1 e2 hN9 (by omega) k3 HP.out k4 k5 r5x ha6)
    have HBK2 := Lib.hid (fun (W : World) (h1 : SrchR W s2 g m2 nv2) (h2 : MapAt N W m2 par2) (h3 : Row 82 W mb (nineL (posF x x.length))) => back_go N s2 g m2 mb b E q x par2 nv2 W h1 h2 hN9 (by omega) l3 HQ.out l4 l5 h3 hb6)
    have HSOL := Lib.hid (sol_of k3 l3 HP.out HQ.out (by omega) k4 l4 k5 l5 hdd)
    obtain ⟨L1, hL1⟩ : ∃ L1, holesL (backL par1 a x) = L1 := ⟨_, rfl⟩
    obtain ⟨L2, hL2⟩ : ∃ L2, holesL (backL par2 b x) = L2 := ⟨_, rfl⟩
    have hl1 : L1.length = a + 1 := by rw [← hL1]; exact back_len _ _ _
    have hl2 : L2.length = b + 1 := by rw [← hL2]; exact back_len _ _ _
    rw [hL1] at HBK1 HSOL
    rw [hL2] at HBK2 HSOL
    have HL1 := Lib.hid hl1
    have HL2 := Lib.hid hl2
    have HE3 := Lib.hid e3
    have HE4 := Lib.hid e4
    have HR5 := Lib.hid r5x
    have hm2l : m2 < mb + 1 := by rw [← hW5s]; exact e4.lt
    have hs2l : s2 < mb + 1 := by rw [← hW5s]; exact Row.lt e3
    clear hF hxP k1 k2 k3 k4 k5 l1 l2 l3 l4 l5 hdd r5 b5 hW5 e1 e2 e3 e4 r5x hL1 hL2 hl1 hl2
    go_wp2_with fail
    refine (HBK1.out).mono ?_
    rintro e w6 ⟨v6, rfl, ho6, hb6'⟩
    obtain ⟨g6, c6, hv6, h61, h62, h63, h64, hc6⟩ := OwnK.at_ ho6 (by rw [ints_length, HL1.out]; omega)
    rw [ints_length] at hv6
    rw [ints_length] at h61
    rw [hv6] at ho6
    have hrv := reverse_own W5.heap.size _ c6 L1 w6 (by rw [HL1.out]; omega) ho6 (by rw [HL1.out]; omega)
    rw [HL1.out] at hrv h61
    obtain ⟨c7, hc7⟩ : ∃ c7, c6 = c7 + 1 := ⟨c6 - 1, by omega⟩
    rw [HL1.out, hc7] at hv6
    subst hc7
    subst hv6
    have HRV := Lib.hid hrv
    have HB6 := Lib.hid hb6'
    have HR6 := Lib.hid (HR5.out.below hb6' HR5.out.lt)
    have HE36 := Lib.hid (Row.below HE3.out hb6' (Row.lt HE3.out))
    have HE46 := Lib.hid (HE4.out.below hb6')
    clear ho6 hrv hb6' hc6 h62 HR5 HE3 HE4 HBK1
    go_wp2_with fail
    refine (HRV.out).mono ?_
    rintro e w7 ⟨⟨u7, rfl⟩, ho7, hs7⟩
    have hs7' : Same (fun b => b ≠ g6) w6 w7 := hs7.mono fun y _ hy e => hy (by simpa [Value.ownBlock] using e.symm)
    have HR7 := Lib.hid (hs7'.row HR6.out (by omega))
    have HE37 := Lib.hid (hs7'.row HE36.out (by omega))
    have HE47 := Lib.hid (HE46.out.same hs7' (by omega))
    have hO7 : Own 3 W5.heap.size w7 (.slice (some ⟨g6, 0, none⟩) (a + 1) (c7 + 1)) (ints L1.reverse) := ho7
    have HS7 : Hid (Sl w7 (.slice (if c7 = 0 then some ⟨g6, 0, none⟩ else some ⟨g6, 1, none⟩) a c7) (ints L1.reverse.tail)) := by
     show Sl _ _ _
     have h9 := hO7.sl.tail1
     have e : (ints L1.reverse).drop 1 = ints L1.reverse.tail := by
      unfold ints
      rw [← List.map_drop, List.drop_one]
     rwa [e] at h9
    have HB7 : Hid (Below B w w7) := by
     have h1 := HB5.out.trans (HB6.out.mono (by have := HB5.out.size; have := HB.out; omega))
     have h2 := HB.out
     exact ⟨hs7'.os.trans h1.os, hs7'.tape.trans h1.tape, hs7'.output.trans h1.output, Nat.le_trans h1.size hs7'.size, fun y hy => (hs7'.block y (Nat.lt_of_lt_of_le hy (by rw [← h2]; exact h1.size)) (by omega)).trans (h1.block y hy)⟩
    have hBw7 : B ≤ w7.heap.size := by rw [← HB.out]; exact HB7.out.size
    have hia : (1 : Int) ≤ (a : Int) + 1 := by omega
    have hib : (1 : Int) ≤ (b : Int) + 1 := by omega
    have HONE : Hid (∀ l ∈ [ints L1.reverse.tail, ints L2.tail], ∀ u ∈ l, u.oneCell' = true) := fun l hl u hu => by
     have : ∃ z : List Int, l = ints z := by
      simp only [List.mem_cons, List.not_mem_nil, or_false] at hl
      rcases hl with h | h
      ·exact ⟨_, h⟩
      ·exact ⟨_, h⟩
     obtain ⟨z, rfl⟩ := this
     unfold ints at hu
     obtain ⟨y, _, rfl⟩ := List.mem_map.1 hu
     rfl
    have HFLE : Hid ([ints L1.reverse.tail, ints L2.tail].flatten = ints (L1.reverse.tail ++ L2.tail)) := by show _ = _; rw [ints_append]; simp
    have HFLL : Hid ([ints L1.reverse.tail, ints L2.tail].flatten.length ≤ 1000000) := by
     show _ ≤ _
     rw [HFLE.out, ints_length, List.length_append, List.length_tail, List.length_tail, List.length_reverse, HL1.out, HL2.out]
     omega
    clear ho7 hs7 hs7' hO7 h63 h64
    go_wp2
    refine wp_region_rel (by kernel_rfl) 45 rfl (by kernel_rfl) [.fix (.slice (some ⟨g6, 0, none⟩) (a + 1) (c7 + 1)), .fix (.slice (if c7 = 0 then some ⟨g6, 0, none⟩ else some ⟨g6, 1, none⟩) a c7), .fix (.func (.func 80) #[] #[.pointer (some ⟨mb, 0, none⟩)]), .fix (.pointer (some ⟨s2, 0, none⟩)), .mem (fun u W => Own 3 w7.heap.size W u (ints L2)), .mem (fun u W => Sl W u (ints L2.tail)), .mem (fun u W => Lists W u [ints L1.reverse.tail, ints L2.tail]), .mem (fun u W => Own 3 B W u (ints (L1.reverse.tail ++ L2.tail))), .mem (fun u W => Own 3 B W u (ints (L1.reverse.tail ++ L2.tail))), .fix (.bool true)] rfl (stays_of (fun i M hk v w' w'' h hb => by rcases i with _ | _ | _ | _ | _ | _ | _ | _ | _ | _ | i <;> simp at hk <;> subst hk <;> first | exact Own.below h hb (Nat.le_refl _) | exact Sl.below h hb | exact Lists.below h hb) (fun j b k T n => by rcases j with _ | _ | _ | _ | _ | _ | _ | _ | _ | _ | j <;> simp)) ?hop ?hQ
    case hop =>
     intro W hW j0 o hj vs0 wz hb hV
     have hbw : Below w7.heap.size w7 wz := by rw [hW] at hb; exact ((Below.refl w7.heap.size w7).drew).trans hb
     clear hW hb
     have hj' : j0 < 10 := (List.getElem?_eq_some_iff.1 hj).1
     rcases (by omega : j0 = 0 ∨ j0 = 1 ∨ j0 = 2 ∨ j0 = 3 ∨ j0 = 4 ∨ j0 = 5 ∨ j0 = 6 ∨ j0 = 7 ∨ j0 = 8 ∨ j0 = 9) with rfl | rfl | rfl | rfl | rfl | rfl | rfl | rfl | rfl | rfl
     ·cases hj
      clear hj'
      refine .inl ⟨rfl, ?_⟩
      (try simp [predsR, Region.binds, Vk] at hV)
      simp only [putAll]
      generalize hR : Res _ _ vs0 wz = R
      go_simp
      subst hR
      exact ⟨rfl, Below.refl _ _⟩
     ·cases hj
      clear hj'
      refine .inl ⟨rfl, ?_⟩
      generalize hG : relUpon _ _ _ = G
      have q0_ : vs0 0 = _ := hV 0 (by decide)
      clear hV
      subst hG
      simp only [putAll]
      generalize hR : Res _ _ vs0 wz = R
      go_simp
      subst hR
      exact ⟨rfl, Below.refl _ _⟩
     ·cases hj
      clear hj'
      refine .inl ⟨rfl, ?_⟩
      (try simp [predsR, Region.binds, Vk] at hV)
      simp only [putAll]
      generalize hR : Res _ _ vs0 wz = R
      go_simp
      subst hR
      exact ⟨rfl, Below.refl _ _⟩
     ·cases hj
      clear hj'
      refine .inl ⟨rfl, ?_⟩
      (try simp [predsR, Region.binds, Vk] at hV)
      simp only [putAll]
      generalize hR : Res _ _ vs0 wz = R
      go_simp
      subst hR
      exact ⟨rfl, Below.refl _ _⟩
     ·cases hj
      clear hj'
      refine .inl ⟨rfl, ?_⟩
      generalize hG : relUpon _ _ _ = G
      have q2_ : vs0 2 = _ := hV 2 (by decide)
      have q3_ : vs0 3 = _ := hV 3 (by decide)
      clear hV
      subst hG
      simp only [putAll]
      generalize hR : Res _ _ vs0 wz = R
      go_simp
      subst hR
      refine (HBK2.out wz (Row.below HE37.out hbw (Row.lt HE37.out)) (HE47.out.below hbw) (HR7.out.below hbw HR7.out.lt)).mono ?_
      rintro e w8 ⟨v8, rfl, ho8, hb8⟩
      exact ⟨_, rfl, ho8.base hbw.size, hb8⟩
     ·cases hj
      clear hj'
      refine .inl ⟨rfl, ?_⟩
      generalize hG : relUpon _ _ _ = G
      have q4_ : Own 3 w7.heap.size wz (vs0 4) (ints L2) := hV 4 (by decide)
      clear hV
      obtain ⟨g8, c8, e8, _, hs8⟩ := own_tail q4_ HL2.out
      have HSL8 := Lib.hid hs8
      clear hs8 q4_
      subst hG
      simp only [putAll]
      generalize hR : Res _ _ vs0 wz = R
      go_simp
      subst hR
      exact ⟨HSL8.out, Below.refl _ _⟩
     ·cases hj
      clear hj'
      refine .inl ⟨rfl, ?_⟩
      generalize hG : relUpon _ _ _ = G
      have q1_ : vs0 1 = _ := hV 1 (by decide)
      have q5_ : Sl wz (vs0 5) (ints L2.tail) := hV 5 (by decide)
      clear hV
      have Q5 := Lib.hid q5_
      obtain ⟨p5, c5, e5, hx5⟩ := q5_
      clear hx5
      obtain ⟨t5, ht5⟩ : ∃ t5, (ints L2.tail).length = t5 := ⟨_, rfl⟩
      rw [ht5] at e5
      have Q6 : Hid (Sl wz (.slice p5 t5 c5) (ints L2.tail)) := by show Sl _ _ _; rw [← e5]; exact Q5.out
      clear ht5
      subst hG
      simp only [putAll]
      generalize hR : Res _ _ vs0 wz = R
      go_simp
      subst hR
      exact ⟨lists2 (HS7.out.below hbw) Q6.out, below_alloc_refl _ _⟩
     ·cases hj
      clear hj'
      refine .inl ⟨rfl, ?_⟩
      generalize hG : relUpon _ _ _ = G
      have q6_ : Lists wz (vs0 6) [ints L1.reverse.tail, ints L2.tail] := hV 6 (by decide)
      clear hV
      subst hG
      simp only [putAll]
      generalize hR : Res _ _ vs0 wz = R
      go_simp
      subst hR
      refine (concat_go _ _ wz q6_ (by simp) HFLL.out HONE.out).mono ?_
      rintro e w8 ⟨v8, rfl, ho8, hb8⟩
      refine ⟨_, rfl, ?_, hb8⟩
      rw [HFLE.out] at ho8
      exact ho8.base (Nat.le_trans hBw7 hbw.size)
     ·cases hj
      clear hj'
      refine .inl ⟨rfl, ?_⟩
      generalize hG : relUpon _ _ _ = G
      have q7_ : Own 3 B wz (vs0 7) (ints (L1.reverse.tail ++ L2.tail)) := hV 7 (by decide)
      clear hV
      subst hG
      simp only [putAll]
      generalize hR : Res _ _ vs0 wz = R
      go_simp
      subst hR
      exact ⟨q7_, Below.refl _ _⟩
     ·cases hj
      clear hj'
      refine .inl ⟨rfl, ?_⟩
      (try simp [predsR, Region.binds, Vk] at hV)
      simp only [putAll]
      generalize hR : Res _ _ vs0 wz = R
      go_simp
      subst hR
      exact ⟨rfl, Below.refl _ _⟩
    case hQ =>
     intro W hW vs0 wz hb hV hD
     have hbw : Below w7.heap.size w7 wz := by rw [hW] at hb; exact ((Below.refl w7.heap.size w7).drew).trans hb
     have e0_ : vs0 0 = _ := hV 0 (by decide)
     have e2_ : vs0 2 = _ := hV 2 (by decide)
     have e3_ : vs0 3 = _ := hV 3 (by decide)
     have e9_ : vs0 9 = _ := hV 9 (by decide)
     have f8 : Own 3 B wz (vs0 8) (ints (L1.reverse.tail ++ L2.tail)) := hV 8 (by decide)
     generalize hKK : Exit.then _ _ = KK
     simp only [putAll, e0_, e2_, e3_, e9_]
     go_simp
     subst hKK
     clear hV hD hb hW e0_ e2_ e3_ e9_
     obtain ⟨y4, hy4⟩ : ∃ y4, vs0 4 = y4 := ⟨_, rfl⟩
     obtain ⟨y5x, hy5⟩ : ∃ y5x, vs0 5 = y5x := ⟨_, rfl⟩
     obtain ⟨y6, hy6⟩ : ∃ y6, vs0 6 = y6 := ⟨_, rfl⟩
     obtain ⟨y7, hy7⟩ : ∃ y7, vs0 7 = y7 := ⟨_, rfl⟩
     obtain ⟨y8, hy8⟩ : ∃ y8, vs0 8 = y8 := ⟨_, rfl⟩
     rw [hy8] at f8
     obtain ⟨y1, hy1⟩ : ∃ y1, vs0 1 = y1 := ⟨_, rfl⟩
     rw [hy1, hy4, hy5, hy6, hy7, hy8]
     clear hy1 hy4 hy5 hy6 hy7 hy8
     have F8 := Lib.hid f8
     have HBZ7 : Hid (Below B w wz) := HB7.out.trans (hbw.mono hBw7)
     clear f8 hbw
     go_wp2
     go_ret2
     exact ⟨y8, L1.reverse.tail ++ L2.tail, true, rfl, F8.out, HSOL.out, HBZ7.out⟩
   ·have HNO := Lib.hid hno
    clear hF hno
    go_wp2_with fail
    go_ret2
    exact ⟨_, [], false, rfl, World.ownsRow_nil _ _ _ _, .inr ⟨rfl, rfl, HNO.out⟩, HB4.out.alloc (by have := HB4.out.size; have := HB.out; omega) _⟩
end Go.Proofs.YtllhejjcmfiebaaDoor
namespace Go.Proofs.YtllhejjcmfiebaaDoor
open Go.RowKit Go.Shelf
theorem ordN_posP (l : List Int) (n : Nat) : PosP n (ordN l n) := ⟨ordN_nodup l n, ordN_mem l n⟩
theorem posE_of {n : Nat} {p : List Int} (hn2 : 2 ≤ n) (hn9 : n ≤ 9) (h : PosP n p) : posE n p = 0 := by
 have hlen := h.len
 have hb : posB n p = true := by
  unfold posB
  simp only [Bool.and_eq_true, decide_eq_true_eq]
  refine ⟨⟨hlen, List.all_eq_true.2 fun j hj => ?_⟩, ?_⟩
  ·have := h.at_ (List.mem_range.1 hj)
   unfold rngAt
   rw [Bool.and_eq_true, decide_eq_true_eq, decide_eq_true_eq]
   exact this
  ·refine Nat.eq_of_testBit_eq fun b => ?_
   have h1 := mask_bit p b n
   have h2 := all_bit n b
   cases hm : (mask p n).testBit b with
   | true =>
    obtain ⟨j, hj, hjb⟩ := h1.1 hm
    have := h.at_ hj
    exact (h2.2 (by omega)).symm
   | false =>
    cases hall : (2 ^ n - 1).testBit b with
    | false => rfl
    | true =>
     have hbn := h2.1 hall
     have hin := (h.mem (b : Int)).2 ⟨by omega, by omega⟩
     obtain ⟨j, hj⟩ := List.getElem?_of_mem hin
     have hjl := (List.getElem?_eq_some_iff.1 hj).1
     have : (mask p n).testBit b = true := h1.2 ⟨j, by omega, by rw [List.getD_eq_getElem?_getD, hj]; simp⟩
     rw [hm] at this; cases this
 have hs : sizeB (n : Int) = true := by
  simp only [sizeB, Bool.and_eq_true, decide_eq_true_eq]; omega
 unfold posE posR
 rw [hs, Int.toNat_natCast, hb]; rfl
theorem SolL.bool {E : Es} {N : Nat} {p q m m' : List Int} {bo bo' : Bool} (h : SolL E N p q m bo) (h' : SolL E N p q m' bo') : bo = bo' := by
 rcases h with ⟨rfl, h1, _⟩ | ⟨rfl, _, h1⟩ <;> rcases h' with ⟨rfl, h2, _⟩ | ⟨rfl, _, h2⟩
 ·rfl
 ·exact absurd h1.1 (h2 _)
 ·exact absurd h2.1 (h1 _)
 ·rfl
theorem solve_steps {E : Es} {N c M La : Nat} {p q F m : List Int} {bo : Bool} (hq : PosP N q) (hF : FarOK E N p F c M La) (hs : SolL E N p q m bo) :
  (bo = true ∧ F.getD (rankL q) 0 = (m.length : Int) ∧ applyL E p m = (q, m.length)) ∨ (bo = false ∧ F.getD (rankL q) 0 = -1 ∧ m = []) := by
 obtain ⟨k, hne, hnil, _, _, _, hok⟩ := hF.ex
 rcases hs with ⟨rfl, h1, h2⟩ | ⟨rfl, rfl, h1⟩
 ·refine .inl ⟨rfl, ?_, h2⟩
  obtain ⟨i, hi, hw⟩ := lvl_end hnil h1.1
  obtain ⟨d, hd, hdd⟩ := (hok.2 q hq).1 (known_iff.2 ⟨i, by omega, hw⟩)
  rw [hd, hdd.uniq h1]
 ·refine .inr ⟨rfl, (hok.2 q hq).2 fun hm => ?_, rfl⟩
  obtain ⟨j, _, hw⟩ := known_iff.1 hm
  exact h1 j hw
def SolT (E : Es) (N : Nat) (p q : List Int) (B : Nat) (u : Value) (W : World) : Prop := ∃ v' m bo, u = .tuple #[v', .bool bo] ∧ Own 3 B W v' (ints m) ∧ SolL E N p q m bo
def SolV (E : Es) (N : Nat) (p q : List Int) (B : Nat) (u : Value) (W : World) : Prop := ∃ m bo, Own 3 B W u (ints m) ∧ SolL E N p q m bo
def SolB (E : Es) (N : Nat) (p q : List Int) (u : Value) (W : World) : Prop := ∃ m bo, u = .bool bo ∧ SolL E N p q m bo
theorem SolT.below {E : Es} {N : Nat} {p q : List Int} {B : Nat} {u : Value} {W W' : World} (h : SolT E N p q B u W) (hb : Below W.heap.size W W') : SolT E N p q B u W' := by
 obtain ⟨a, b, c, d, e, f⟩ := h
 exact ⟨a, b, c, d, e.below hb (Nat.le_refl _), f⟩
theorem SolV.below {E : Es} {N : Nat} {p q : List Int} {B : Nat} {u : Value} {W W' : World} (h : SolV E N p q B u W) (hb : Below W.heap.size W W') : SolV E N p q B u W' := by
 obtain ⟨b, c, e, f⟩ := h
 exact ⟨b, c, e.below hb (Nat.le_refl _), f⟩
set_option maxRecDepth 100000 in
set_option maxHeartbeats 4000000 in
theorem ssolve_go (v vp vq : Value) (N : Nat) (l : Ps) (p q : List Int) (w : World) (hl : SlP w v l) (ht : Tab w) (hp : SlA w vp (ints p)) (hq : SlA w vq (ints q)) (hch : checkB (N : Int) l = 0) (hN2 : 2 ≤ N) (hN9 : N ≤ 9) (hP : PosP N p) (hQ : PosP N q) :
  Calls Tryd.prog 25 #[.int .i64 (N : Nat), v, vp, vq] w fun e w' => ∃ v' m bo, e = .returned (.tuple #[v', .bool bo, .int .i64 0]) ∧ Own 3 w.heap.size w' v' (ints m) ∧ SolL (toE l) N p q m bo ∧ Below w.heap.size w w' := by
 obtain ⟨N', hN'', _, _, hE⟩ := check_lt hch
 obtain rfl : N = N' := by omega
 have hne := ne2_of hN9 hch
 have hpe := posE_of hN2 hN9 hP
 have hqe := posE_of hN2 hN9 hQ
 obtain ⟨pp, cp, rfl, hcp1, hcp2⟩ := hp.form
 obtain ⟨pq, cq, rfl, hcq1, hcq2⟩ := hq.form
 have hb0 := (Below.refl w.heap.size w).alloc (Nat.le_refl _) (.cells #[.slice pp p.length cp, .slice pq q.length cq] 23)
 have HG := Lib.hid (given_many v [.slice pp p.length cp, .slice pq q.length cq] w.heap.size N l [p, q] _ (hl.below hb0) (ht.below hb0 ht.lt) rfl hN9 (by simp) (row_new 23 w #[.slice pp p.length cp, .slice pq q.length cq]) (fun i u x h1 h2 => by
  rcases i with _ | _ | i
  ·cases h1; cases h2; exact ⟨hp.below hb0, hpe⟩
  ·cases h1; cases h2; exact ⟨hq.below hb0, hqe⟩
  ·simp at h1) hch)
 have HB0 := Lib.hid hb0
 have HSO := Lib.hid (fun (b : Nat) W (hb : Below w.heap.size w W) (hbr : BoardR W b N (toE l)) => solution_go N b (toE l) p q W hP hQ hN2 hN9 hE hne hbr (ht.below hb ht.lt))
 obtain ⟨P, hPP⟩ : ∃ P, posF p p.length = P := ⟨_, rfl⟩
 obtain ⟨R, hRR⟩ : ∃ R, posF q q.length = R := ⟨_, rfl⟩
 have hpc : ∀ r, r < 9 → (posC [p, q])[r]? = some (.int .i8 (P r)) ∧ (posC [p, q])[9 + r]? = some (.int .i8 (R r)) := fun r hr => by
  have h1 := posC_get [p, q] 0 p r rfl hr
  have h2 := posC_get [p, q] 1 q r rfl hr
  rw [Nat.zero_mul, Nat.zero_add, hPP] at h1
  rw [Nat.one_mul, hRR] at h2
  exact ⟨h1, h2⟩
 have hpl : (posC [p, q]).length = 18 := by rw [posC_len]; rfl
 have HPC := Lib.hid hpc
 have HPL := Lib.hid hpl
 rw [hPP, hRR] at HSO
 unfold nineV at HSO
 obtain ⟨pl, cl, rfl, hl1, hl2⟩ := hl.len
 obtain ⟨C, hC⟩ : ∃ C, posC [p, q] = C := ⟨_, rfl⟩
 rw [hC] at HG HPC HPL
 clear hl ht hp hq hch hpe hqe hb0 hPP hRR hP hQ hne hE hN'' hpc hpl hC
 go_enter Tryd.func25, Tryd.ntmps25
 go_wp2_with (first
  | (go_at_call 49; refine (HG.out).mono ?_; rintro e w1 ⟨b, ps, rfl, hbr, hown, hb1⟩; have HB1 := Lib.hid (HB0.out.trans (hb1.mono HB0.out.size)); have HBR := Lib.hid hbr; obtain ⟨g2, c2, rfl, hg21, hg22, hg23, hg24, hcells⟩ := hown.at_ (by show 0 < 2; omega); have HCE := Lib.hid hcells; have HROW := Lib.hid hg22; have HG3 := Lib.hid hg23; have HG4 := Lib.hid hg24; clear hb1 hbr hown hcells hg21 hg22 hg23 hg24))
 refine wp_region_rel (by kernel_rfl) 42 rfl (by kernel_rfl) [.fix (.pointer (some ⟨b, 0, none⟩)), .fix (.slice (some ⟨g2, 0, none⟩) 2 c2), .fix (.pointer (some ⟨g2, 0, none⟩)), .fix (.agg #[.int .i8 (P 0), .int .i8 (P 1), .int .i8 (P 2), .int .i8 (P 3), .int .i8 (P 4), .int .i8 (P 5), .int .i8 (P 6), .int .i8 (P 7), .int .i8 (P 8)]), .fix (.slice (some ⟨g2, 0, none⟩) 2 c2), .fix (.pointer (some ⟨g2, 9, none⟩)), .fix (.agg #[.int .i8 (R 0), .int .i8 (R 1), .int .i8 (R 2), .int .i8 (R 3), .int .i8 (R 4), .int .i8 (R 5), .int .i8 (R 6), .int .i8 (R 7), .int .i8 (R 8)]), .mem (fun u W => SolT (toE l) N p q w.heap.size u W), .mem (fun u W => SolT (toE l) N p q w.heap.size u W), .mem (fun u W => SolV (toE l) N p q w.heap.size u W), .mem (fun u W => SolB (toE l) N p q u W), .mem (fun u W => SolV (toE l) N p q w.heap.size u W), .mem (fun u W => SolB (toE l) N p q u W)] rfl (stays_of (fun i M hk v w' w'' h hb => by rcases i with _ | _ | _ | _ | _ | _ | _ | _ | _ | _ | _ | _ | _ | i <;> simp at hk <;> subst hk <;> first | exact SolT.below h hb | exact SolV.below h hb | exact h) (fun j b k T n => by rcases j with _ | _ | _ | _ | _ | _ | _ | _ | _ | _ | _ | _ | _ | j <;> simp)) ?hop ?hQ
 case hop =>
  intro W hW j0 o hj vs0 wz hb hV
  have hbw : Below w1.heap.size w1 wz := by rw [hW] at hb; exact ((Below.refl w1.heap.size w1).drew).trans hb
  have HCW : Hid (∀ j, j < 18 → wz.cell? ⟨g2, j, none⟩ = C[j]?) := fun j hj => (hbw.cell (p := ⟨g2, j, none⟩) HG3.out).trans (HCE.out j hj)
  clear hW hb
  have hj' : j0 < 13 := (List.getElem?_eq_some_iff.1 hj).1
  rcases (by omega : j0 = 0 ∨ j0 = 1 ∨ j0 = 2 ∨ j0 = 3 ∨ j0 = 4 ∨ j0 = 5 ∨ j0 = 6 ∨ j0 = 7 ∨ j0 = 8 ∨ j0 = 9 ∨ j0 = 10 ∨ j0 = 11 ∨ j0 = 12) with rfl | rfl | rfl | rfl | rfl | rfl | rfl | rfl | rfl | rfl | rfl | rfl | rfl
  ·cases hj
   clear hj'
   refine .inl ⟨rfl, ?_⟩
   (try simp [predsR, Region.binds, Vk] at hV)
   simp only [putAll]
   generalize hR : Res _ _ vs0 wz = R
   go_simp
   subst hR
   exact ⟨rfl, Below.refl _ _⟩
  ·cases hj
   clear hj'
   refine .inl ⟨rfl, ?_⟩
   (try simp [predsR, Region.binds, Vk] at hV)
   simp only [putAll]
   generalize hR : Res _ _ vs0 wz = R
   go_simp
   subst hR
   exact ⟨rfl, Below.refl _ _⟩
  ·cases hj
   clear hj'
   refine .inl ⟨rfl, ?_⟩
   generalize hG : relUpon _ _ _ = G
   have q1_ : vs0 1 = _ := hV 1 (by decide)
   clear hV
   subst hG
   simp only [putAll]
   generalize hR : Res _ _ vs0 wz = R
   go_simp
   subst hR
   exact ⟨rfl, Below.refl _ _⟩
  ·cases hj
   clear hj'
   refine .inl ⟨rfl, ?_⟩
   generalize hG : relUpon _ _ _ = G
   have q2_ : vs0 2 = _ := hV 2 (by decide)
   clear hV
   have d0 := (HCW.out 0 (by decide)).trans (HPC.out 0 (by decide)).1
   have d1 := (HCW.out 1 (by decide)).trans (HPC.out 1 (by decide)).1
   have d2 := (HCW.out 2 (by decide)).trans (HPC.out 2 (by decide)).1
   have d3 := (HCW.out 3 (by decide)).trans (HPC.out 3 (by decide)).1
   have d4 := (HCW.out 4 (by decide)).trans (HPC.out 4 (by decide)).1
   have d5 := (HCW.out 5 (by decide)).trans (HPC.out 5 (by decide)).1
   have d6 := (HCW.out 6 (by decide)).trans (HPC.out 6 (by decide)).1
   have d7 := (HCW.out 7 (by decide)).trans (HPC.out 7 (by decide)).1
   have d8 := (HCW.out 8 (by decide)).trans (HPC.out 8 (by decide)).1
   subst hG
   simp only [putAll]
   generalize hR : Res _ _ vs0 wz = R
   go_simp
   subst hR
   exact ⟨rfl, Below.refl _ _⟩
  ·cases hj
   clear hj'
   refine .inl ⟨rfl, ?_⟩
   (try simp [predsR, Region.binds, Vk] at hV)
   simp only [putAll]
   generalize hR : Res _ _ vs0 wz = R
   go_simp
   subst hR
   exact ⟨rfl, Below.refl _ _⟩
  ·cases hj
   clear hj'
   refine .inl ⟨rfl, ?_⟩
   generalize hG : relUpon _ _ _ = G
   have q4_ : vs0 4 = _ := hV 4 (by decide)
   clear hV
   subst hG
   simp only [putAll]
   generalize hR : Res _ _ vs0 wz = R
   go_simp
   subst hR
   exact ⟨rfl, Below.refl _ _⟩
  ·cases hj
   clear hj'
   refine .inl ⟨rfl, ?_⟩
   generalize hG : relUpon _ _ _ = G
   have q5_ : vs0 5 = _ := hV 5 (by decide)
   clear hV
   have d0 := (HCW.out 9 (by decide)).trans (HPC.out 0 (by decide)).2
   have d1 := (HCW.out 10 (by decide)).trans (HPC.out 1 (by decide)).2
   have d2 := (HCW.out 11 (by decide)).trans (HPC.out 2 (by decide)).2
   have d3 := (HCW.out 12 (by decide)).trans (HPC.out 3 (by decide)).2
   have d4 := (HCW.out 13 (by decide)).trans (HPC.out 4 (by decide)).2
   have d5 := (HCW.out 14 (by decide)).trans (HPC.out 5 (by decide)).2
   have d6 := (HCW.out 15 (by decide)).trans (HPC.out 6 (by decide)).2
   have d7 := (HCW.out 16 (by decide)).trans (HPC.out 7 (by decide)).2
   have d8 := (HCW.out 17 (by decide)).trans (HPC.out 8 (by decide)).2
   subst hG
   simp only [putAll]
   generalize hR : Res _ _ vs0 wz = R
   go_simp
   subst hR
   exact ⟨rfl, Below.refl _ _⟩
  ·cases hj
   clear hj'
   refine .inl ⟨rfl, ?_⟩
   generalize hG : relUpon _ _ _ = G
   have q0_ : vs0 0 = _ := hV 0 (by decide)
   have q3_ : vs0 3 = _ := hV 3 (by decide)
   have q6_ : vs0 6 = _ := hV 6 (by decide)
   clear hV
   subst hG
   simp only [putAll]
   generalize hR : Res _ _ vs0 wz = R
   go_simp
   subst hR
   refine (HSO.out b wz (HB1.out.trans (hbw.mono HB1.out.size)) (Row.below HBR.out hbw (Row.lt HBR.out))).mono ?_
   rintro e w4 ⟨v', m, bo, rfl, ho, hs, hb4⟩
   exact ⟨_, rfl, ⟨v', m, bo, rfl, ho.base (Nat.le_trans HB1.out.size hbw.size), hs⟩, hb4⟩
  ·cases hj
   clear hj'
   refine .inl ⟨rfl, ?_⟩
   generalize hG : relUpon _ _ _ = G
   have q7_ : SolT (toE l) N p q w.heap.size (vs0 7) wz := hV 7 (by decide)
   clear hV
   subst hG
   simp only [putAll]
   generalize hR : Res _ _ vs0 wz = R
   go_simp
   subst hR
   exact ⟨q7_, Below.refl _ _⟩
  ·cases hj
   clear hj'
   refine .inl ⟨rfl, ?_⟩
   generalize hG : relUpon _ _ _ = G
   have q8_ : SolT (toE l) N p q w.heap.size (vs0 8) wz := hV 8 (by decide)
   clear hV
   obtain ⟨v', m, bo, e8, ho, hs⟩ := q8_
   have HO := Lib.hid ho
   have HS := Lib.hid hs
   clear ho hs
   subst hG
   simp only [putAll]
   generalize hR : Res _ _ vs0 wz = R
   go_simp
   subst hR
   exact ⟨⟨m, bo, HO.out, HS.out⟩, Below.refl _ _⟩
  ·cases hj
   clear hj'
   refine .inl ⟨rfl, ?_⟩
   generalize hG : relUpon _ _ _ = G
   have q8_ : SolT (toE l) N p q w.heap.size (vs0 8) wz := hV 8 (by decide)
   clear hV
   obtain ⟨v', m, bo, e8, ho, hs⟩ := q8_
   have HO := Lib.hid ho
   have HS := Lib.hid hs
   clear ho hs
   subst hG
   simp only [putAll]
   generalize hR : Res _ _ vs0 wz = R
   go_simp
   subst hR
   exact ⟨⟨m, bo, rfl, HS.out⟩, Below.refl _ _⟩
  ·cases hj
   clear hj'
   refine .inl ⟨rfl, ?_⟩
   generalize hG : relUpon _ _ _ = G
   have q9_ : SolV (toE l) N p q w.heap.size (vs0 9) wz := hV 9 (by decide)
   clear hV
   subst hG
   simp only [putAll]
   generalize hR : Res _ _ vs0 wz = R
   go_simp
   subst hR
   exact ⟨q9_, Below.refl _ _⟩
  ·cases hj
   clear hj'
   refine .inl ⟨rfl, ?_⟩
   generalize hG : relUpon _ _ _ = G
   have q10_ : SolB (toE l) N p q (vs0 10) wz := hV 10 (by decide)
   clear hV
   subst hG
   simp only [putAll]
   generalize hR : Res _ _ vs0 wz = R
   go_simp
   subst hR
   exact ⟨q10_, Below.refl _ _⟩
 case hQ =>
  intro W hW vs0 wz hb hV hD
  have hbw : Below w1.heap.size w1 wz := by rw [hW] at hb; exact ((Below.refl w1.heap.size w1).drew).trans hb
  have e0_ : vs0 0 = _ := hV 0 (by decide)
  have e1_ : vs0 1 = _ := hV 1 (by decide)
  have e2_ : vs0 2 = _ := hV 2 (by decide)
  have e3_ : vs0 3 = _ := hV 3 (by decide)
  have e4_ : vs0 4 = _ := hV 4 (by decide)
  have e5_ : vs0 5 = _ := hV 5 (by decide)
  have e6_ : vs0 6 = _ := hV 6 (by decide)
  have f11 : SolV (toE l) N p q w.heap.size (vs0 11) wz := hV 11 (by decide)
  have f12 : SolB (toE l) N p q (vs0 12) wz := hV 12 (by decide)
  obtain ⟨m1, bo1, ho1, hs1⟩ := f11
  obtain ⟨m2, bo2, e12, hs2⟩ := f12
  generalize hKK : Exit.then _ _ = KK
  simp only [putAll, e0_, e1_, e2_, e3_, e4_, e5_, e6_, e12]
  go_simp
  subst hKK
  clear hV hD hb hW e0_ e1_ e2_ e3_ e4_ e5_ e6_
  obtain ⟨y7, hy7⟩ : ∃ y7, vs0 7 = y7 := ⟨_, rfl⟩
  obtain ⟨y8, hy8⟩ : ∃ y8, vs0 8 = y8 := ⟨_, rfl⟩
  obtain ⟨y9, hy9⟩ : ∃ y9, vs0 9 = y9 := ⟨_, rfl⟩
  obtain ⟨y10, hy10⟩ : ∃ y10, vs0 10 = y10 := ⟨_, rfl⟩
  obtain ⟨y11, hy11⟩ : ∃ y11, vs0 11 = y11 := ⟨_, rfl⟩
  rw [hy11] at ho1
  rw [hy7, hy8, hy9, hy10, hy11]
  have hbb := hs2.bool hs1
  subst hbb
  have HO1 := Lib.hid ho1
  have HS1 := Lib.hid hs1
  have HBZ : Hid (Below w.heap.size w wz) := HB1.out.trans (hbw.mono HB1.out.size)
  clear ho1 hs1 hs2 hy7 hy8 hy9 hy10 hy11 e12 hbw
  go_wp2
  go_ret3
  exact ⟨y11, m1, bo2, rfl, HO1.out, HS1.out, HBZ.out⟩
end Go.Proofs.YtllhejjcmfiebaaDoor
