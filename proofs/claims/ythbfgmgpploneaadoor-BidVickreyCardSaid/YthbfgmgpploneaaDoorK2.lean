/- The program's isCore and IsCore, given what isBlocked answers. -/
/- The program's isBlocked. -/
import Derived.Test.YthbfgmgpploneaaDoorG3
import Derived.Test.YthbfgmgpploneaaDoorQG
import Derived.Test.YthbfgmgpploneaaDoorK0
set_option linter.unusedVariables false
set_option linter.unusedSimpArgs false
set_option linter.unnecessarySimpa false
namespace Go.Proofs.YthbfgmgpploneaaDoor
open Go.RowKit

/-- the bidders of a set are worth more alone than what they get and pay, and the others pay -/
def blockedP (K : Nat) (bids : List (List Int)) (p : List Int) (set : Nat) : Bool := decide (ownTo bids (bestP K bids) set bids.length + restTo p set bids.length < worthP K bids set)
/-- isBlocked, at payments from 0 to what is offered -/
def SpecBlocked : Prop := ∀ (v fv pv : Value) (K : Nat) (bids : List (List Int)) (p : List Int) (set : Nat) (w : World), Mat w v bids → Sl w fv (ints (offP bids (bestP K bids))) → Sl w pv (ints p) → K ≤ 6 → 1 ≤ bids.length → bids.length ≤ 6 → Offers K bids →
  p.length = bids.length → (∀ i, i < bids.length → 0 ≤ p.getD i 0 ∧ p.getD i 0 ≤ 1000000) → set < 2 ^ bids.length →
  Calls Tryd.prog 79 #[.agg #[.int .i64 ((2 ^ K - 1 : Nat) : Int), v], .int .i64 set, fv, pv] w fun e w' => e = .returned (.bool (blockedP K bids p set)) ∧ Below w.heap.size w w'
theorem core_no1 {K : Nat} {bids : List (List Int)} {p : List Int} {i : Nat} (hi : i < bids.length) (h : p.getD i 0 < 0 ∨ (offP bids (bestP K bids)).getD i 0 < p.getD i 0) : coreP K bids p = false := by
  rw [offP_get _ _ _ (by rw [bestP_len]; exact hi)] at h
  unfold offAt at h
  unfold coreP
  rw [Bool.and_eq_false_iff]
  left
  rw [List.all_eq_false]
  refine ⟨i, List.mem_range.2 hi, ?_⟩
  rw [Bool.and_eq_true, decide_eq_true_eq, decide_eq_true_eq]
  omega
theorem core_no2 {K : Nat} {bids : List (List Int)} {p : List Int} {set : Nat} (hi : set < 2 ^ bids.length) (h : blockedP K bids p set = true) : coreP K bids p = false := by
  unfold blockedP at h
  rw [decide_eq_true_eq] at h
  unfold coreP
  rw [Bool.and_eq_false_iff]
  right
  rw [List.all_eq_false]
  refine ⟨set, List.mem_range.2 hi, ?_⟩
  rw [decide_eq_true_eq]
  omega
theorem core_yes {K : Nat} {bids : List (List Int)} {p : List Int} (h : ∀ i, i < bids.length → 0 ≤ p.getD i 0 ∧ p.getD i 0 ≤ (offP bids (bestP K bids)).getD i 0) (h2 : ∀ set, set < 2 ^ bids.length → blockedP K bids p set = false) : coreP K bids p = true := by
  unfold coreP
  rw [Bool.and_eq_true]
  constructor
  · rw [List.all_eq_true]
    intro i hi
    rw [List.mem_range] at hi
    have := h i hi
    rw [offP_get _ _ _ (by rw [bestP_len]; exact hi)] at this
    unfold offAt at this
    rw [Bool.and_eq_true, decide_eq_true_eq, decide_eq_true_eq]
    exact this
  · rw [List.all_eq_true]
    intro s hs
    rw [List.mem_range] at hs
    have := h2 s hs
    unfold blockedP at this
    rw [decide_eq_false_iff_not] at this
    rw [decide_eq_true_eq]
    omega
set_option maxRecDepth 100000 in
set_option maxHeartbeats 4000000 in
theorem isCore_go (B : SpecBlocked) (v pv : Value) (m : Nat) (bids : List (List Int)) (q : List Int) (w : World) (hl : Mat w v bids) (hq : Sl w pv (ints q)) (hm : m ≤ 6) (hn : bids.length ≤ 6) (hn1 : 1 ≤ bids.length) (ho : Offers m bids) (hql : q.length = bids.length) :
    Calls Tryd.prog 57 #[.agg #[.int .i64 ((2 ^ m - 1 : Nat) : Int), v], pv] w fun e w' => e = .returned (.bool (coreP m bids q)) ∧ Below w.heap.size w w' := by
  obtain ⟨p, cap, rfl, hlc, hcm⟩ := hl.form_
  unfold maxLen at hcm
  obtain ⟨qp, qc, rfl, hqlc, hqcm⟩ := hq.form
  have HQ0 : Hid (Sl w (.slice qp bids.length qc) (ints q)) := by rw [← hql]; exact hq
  rw [hql] at hqlc ⊢
  have HQL := Lib.hid hql
  have hr0 := row_new 73 w #[.int .i64 ((2 ^ m - 1 : Nat) : Int), .slice p bids.length cap]
  have hb0 := (Below.refl w.heap.size w).alloc (Nat.le_refl _) (.cells #[.int .i64 ((2 ^ m - 1 : Nat) : Int), .slice p bids.length cap] 73)
  have HFIRST : Hid (∀ W, Below w.heap.size w W → Calls Tryd.prog 47 #[.agg #[.int .i64 ((2 ^ m - 1 : Nat) : Int), .slice p bids.length cap]] W fun e w' => ∃ v', e = .returned v' ∧ Sl w' v' (ints (bestP m bids)) ∧ Below W.heap.size W w') := fun W hb => (first_go _ m bids W (hl.below hb) hm (by omega) hn1 ho).mono fun e w' ⟨v', h1, h2, h3⟩ => ⟨v', h1, h2.sl, h3⟩
  have HOFF : Hid (∀ W lv, Below w.heap.size w W → Sl W lv (ints (bestP m bids)) → Calls Tryd.prog 49 #[.agg #[.int .i64 ((2 ^ m - 1 : Nat) : Int), .slice p bids.length cap], lv] W fun e w' => ∃ v', e = .returned v' ∧ Sl w' v' (ints (offP bids (bestP m bids))) ∧ Below W.heap.size W w') := fun W lv hb hs => (offered_go _ _ lv bids _ W (hl.below hb) hs (by omega) (best_deals ho)).mono fun e w' ⟨v', h1, h2, h3⟩ => ⟨v', h1, h2.sl, h3⟩
  have HBL : Hid (∀ (W : World) (fv : Value) (s : Nat), Below w.heap.size w W → Sl W fv (ints (offP bids (bestP m bids))) → (∀ i, i < bids.length → 0 ≤ q.getD i 0 ∧ q.getD i 0 ≤ (offP bids (bestP m bids)).getD i 0) → s < 2 ^ bids.length →
      Calls Tryd.prog 79 #[.agg #[.int .i64 ((2 ^ m - 1 : Nat) : Int), .slice p bids.length cap], .int .i64 s, fv, .slice qp bids.length qc] W fun e w' => e = .returned (.bool (blockedP m bids q s)) ∧ Below W.heap.size W w') := fun W fv s hb hf ha hs => by
    have hx : ∀ i, i < bids.length → 0 ≤ q.getD i 0 ∧ q.getD i 0 ≤ 1000000 := fun i hi => by
      have h1 := ha i hi
      have h2 := (offP_bd ho (bestP m bids) i).2
      exact ⟨h1.1, Int.le_trans h1.2 h2⟩
    exact B (.slice p bids.length cap) fv (.slice qp bids.length qc) m bids q s W (hl.below hb) hf (HQ0.out.below hb) hm hn1 hn ho hql hx hs
  have HNO1 := Lib.hid (fun i => @core_no1 m bids q i)
  have HNO2 := Lib.hid (fun s => @core_no2 m bids q s)
  have HYES := Lib.hid (@core_yes m bids q)
  have HOL : Hid ((offP bids (bestP m bids)).length = bids.length) := by show _ = _; rw [offP_len, bestP_len]
  have hM := wrap_pow bids.length (by omega)
  have hM64 := pow_le64 hn
  have hM0 := pow_pos2 bids.length
  obtain ⟨M, hMM⟩ : ∃ M, 2 ^ bids.length = M := ⟨_, rfl⟩
  rw [hMM] at hM hM64 hM0 HBL HNO2 HYES
  obtain ⟨N, hN⟩ : ∃ N : Nat, 2 ^ m - 1 = N := ⟨_, rfl⟩
  rw [hN] at hr0 hb0 HFIRST HOFF HBL ⊢
  obtain ⟨F, hF⟩ : ∃ F, offP bids (bestP m bids) = F := ⟨_, rfl⟩
  rw [hF] at HOFF HBL HNO1 HYES HOL
  obtain ⟨GL, hG⟩ : ∃ GL, bestP m bids = GL := ⟨_, rfl⟩
  rw [hG] at HFIRST HOFF
  obtain ⟨CP, hCP⟩ : ∃ CP, coreP m bids q = CP := ⟨_, rfl⟩
  rw [hCP] at HNO1 HNO2 HYES ⊢
  obtain ⟨BP, hBP⟩ : ∃ BP, blockedP m bids q = BP := ⟨_, rfl⟩
  rw [hBP] at HNO2 HYES HBL
  have HR0 := Lib.hid hr0
  have HB0 := Lib.hid hb0
  obtain ⟨W0, hW0⟩ : ∃ W0, w.alloc (.cells #[.int .i64 N, .slice p bids.length cap] 73) = W0 := ⟨_, rfl⟩
  rw [hW0] at HR0 HB0
  clear hl ho hm hr0 hb0 hN hF hG hMM hCP hBP hq hql
  have hl0 : (0 : Int) ≤ (bids.length : Int) := by omega
  go_enter Tryd.func57, Tryd.ntmps57
  go_wp2
  clear hW0
  refine wp_region_rel (by kernel_rfl) 44 rfl (by kernel_rfl) [.fix (.agg #[.int .i64 (N : Nat), .slice p bids.length cap]), .fix (.agg #[.int .i64 (N : Nat), .slice p bids.length cap]), .mem (fun u W => Sl W u (ints GL)), .mem (fun u W => Sl W u (ints F)), .mem (fun u W => Sl W u (ints F))] rfl (stays_of (fun i M hk v w w' h hb => by rcases i with _ | _ | _ | _ | _ | i <;> simp at hk <;> subst hk <;> exact Sl.below h hb) (fun j b k T n => by rcases j with _ | _ | _ | _ | _ | j <;> simp)) ?hop ?hQ
  case hop =>
    intro W hW j o hj vs w1 hb hV
    have hbw : Below W0.heap.size W0 w1 := by rw [hW] at hb; exact ((Below.refl W0.heap.size W0).drew).trans hb
    have d0 : w1.cell? ⟨w.heap.size, 0, none⟩ = some (.int .i64 (N : Nat)) := (HR0.out.below hbw HR0.out.lt).cell 0
    have d1 : w1.cell? ⟨w.heap.size, 1, none⟩ = some (.slice p bids.length cap) := (HR0.out.below hbw HR0.out.lt).cell 1
    clear hW hb
    have hj' : j < 5 := (List.getElem?_eq_some_iff.1 hj).1
    rcases (by omega : j = 0 ∨ j = 1 ∨ j = 2 ∨ j = 3 ∨ j = 4) with rfl | rfl | rfl | rfl | rfl
    · cases hj
      clear hj'
      refine .inl ⟨rfl, ?_⟩
      (try simp [predsR, Region.binds, Vk] at hV)
      simp only [putAll]
      generalize hR : Res _ _ vs w1 = R
      go_simp
      subst hR
      exact ⟨rfl, Below.refl _ _⟩
    · cases hj
      clear hj'
      refine .inl ⟨rfl, ?_⟩
      (try simp [predsR, Region.binds, Vk] at hV)
      simp only [putAll]
      generalize hR : Res _ _ vs w1 = R
      go_simp
      subst hR
      exact ⟨rfl, Below.refl _ _⟩
    · cases hj
      clear hj'
      refine .inl ⟨rfl, ?_⟩
      (try simp [predsR, Region.binds, Vk] at hV)
      simp only [putAll]
      generalize hR : Res _ _ vs w1 = R
      go_simp
      subst hR
      refine (HFIRST.out w1 (HB0.out.trans (hbw.mono HB0.out.size))).mono ?_
      rintro e w2 ⟨v2, rfl, hs2, hb2⟩
      exact ⟨_, rfl, hs2, hb2⟩
    · cases hj
      clear hj'
      refine .inl ⟨rfl, ?_⟩
      generalize hG : relUpon _ _ _ = G
      have q0 : vs 0 = _ := hV 0 (by decide)
      have hS : Sl w1 (vs 2) (ints GL) := hV 2 (by decide)
      clear hV
      subst hG
      simp only [putAll]
      generalize hR : Res _ _ vs w1 = R
      go_simp
      subst hR
      refine (HOFF.out w1 _ (HB0.out.trans (hbw.mono HB0.out.size)) hS).mono ?_
      rintro e w2 ⟨v2, rfl, hs2, hb2⟩
      exact ⟨_, rfl, hs2, hb2⟩
    · cases hj
      clear hj'
      refine .inl ⟨rfl, ?_⟩
      generalize hG : relUpon _ _ _ = G
      have hS : Sl w1 (vs 3) (ints F) := hV 3 (by decide)
      clear hV
      subst hG
      simp only [putAll]
      generalize hR : Res _ _ vs w1 = R
      go_simp
      subst hR
      exact ⟨hS, Below.refl _ _⟩
  case hQ =>
    intro W hW vs w1 hb hV hD
    have hbw : Below W0.heap.size W0 w1 := by rw [hW] at hb; exact ((Below.refl W0.heap.size W0).drew).trans hb
    have v0 : vs 0 = _ := hV 0 (by decide)
    have v1 : vs 1 = _ := hV 1 (by decide)
    have hS : Sl w1 (vs 4) (ints F) := hV 4 (by decide)
    have HR1 := Lib.hid (HR0.out.below hbw HR0.out.lt)
    have HB1 := Lib.hid (HB0.out.trans (hbw.mono HB0.out.size))
    simp only [putAll, v0, v1]
    obtain ⟨fv, hfv⟩ : ∃ fv, vs 4 = fv := ⟨_, rfl⟩
    rw [hfv] at hS ⊢
    obtain ⟨y2, hy2⟩ : ∃ y2, vs 2 = y2 := ⟨_, rfl⟩
    obtain ⟨y3, hy3⟩ : ∃ y3, vs 3 = y3 := ⟨_, rfl⟩
    rw [hy2, hy3]
    have HS := Lib.hid hS
    have HQ1 := Lib.hid (HQ0.out.below HB1.out)
    clear hV hD v0 v1 hb hbw hW hfv hy2 hy3 HR0 HB0 hS HFIRST HOFF
    obtain ⟨fp, fc, rfl, hfl, hfm⟩ := HS.out.form
    rw [HOL.out] at hfl HS ⊢
    obtain ⟨wb, hwb0⟩ : ∃ wb : World, wb = w1 := ⟨_, rfl⟩
    subst hwb0
    go_wp2
    go_loopw [15] (fun i wr => ∃ k : Nat, k ≤ bids.length ∧ i = .int .i64 k ∧ (∀ j, j < k → 0 ≤ q.getD j 0 ∧ q.getD j 0 ≤ F.getD j 0) ∧ Below wb.heap.size wb wr) (fun i _ => bids.length - (intOf i).toNat)
    case atStart => exact ⟨0, Nat.zero_le _, rfl, fun j hj => by omega, Below.refl _ _⟩
    case round =>
      obtain ⟨k, hk, rfl, hall, hbl⟩ := hrel
      have HALL := Lib.hid hall
      have HBL2 := Lib.hid hbl
      by_cases hlt : k < bids.length
      · obtain ⟨b1, o1, c1, hv, _, _, _, hc1⟩ := (HQ1.out.below hbl).int_at k (by rw [HQL.out]; exact hlt)
        rw [HQL.out] at hv
        cases hv
        obtain ⟨b2, o2, c2, hv, _, _, _, hc2⟩ := (HS.out.below hbl).int_at k (by rw [HOL.out]; exact hlt)
        rw [HOL.out] at hv
        cases hv
        have HNO := Lib.hid (HNO1.out k hlt)
        obtain ⟨x, hx⟩ : ∃ x, q.getD k 0 = x := ⟨_, rfl⟩
        obtain ⟨y, hy⟩ : ∃ y, F.getD k 0 = y := ⟨_, rfl⟩
        rw [hx] at hc1 HNO
        rw [hy] at hc2 HNO
        have HX := Lib.hid hx
        have HY := Lib.hid hy
        have HBE := Lib.hid (HB1.out.trans (hbl.mono HB1.out.size))
        clear hx hy hall hbl
        by_cases h0 : x < 0
        · have HF := Lib.hid (HNO.out (Or.inl h0))
          clear HNO
          go_wp2
          go_ret
          exact ⟨by rw [HF.out]; rfl, HBE.out⟩
        · by_cases h1 : y < x
          · have HF := Lib.hid (HNO.out (Or.inr h1))
            clear HNO
            go_wp2
            go_ret
            exact ⟨by rw [HF.out]; rfl, HBE.out⟩
          · clear HNO
            go_wp2
            go_roundw
            case rel => exact ⟨k + 1, by omega, by go_num, fun j hj => by
              rcases Nat.lt_or_ge j k with h | h
              · exact HALL.out j h
              · have : j = k := by omega
                subst this; rw [HX.out, HY.out]; omega, HBL2.out⟩
            case measure => simp [intOf]; omega
      · have hkn : k = bids.length := by omega
        rw [hkn] at HALL
        have HBE := Lib.hid (HB1.out.trans (hbl.mono HB1.out.size))
        have HRE := Lib.hid (HR1.out.below hbl HR1.out.lt)
        have HSE := Lib.hid (HS.out.below hbl)
        have hnlt : ¬ ((k : Int) < (bids.length : Int)) := by omega
        have d1 : wr.cell? ⟨w.heap.size, 1, none⟩ = some (.slice p bids.length cap) := HRE.out.cell 1
        obtain ⟨wo, hwo⟩ : ∃ wo : World, wo = wr := ⟨_, rfl⟩
        subst hwo
        clear hall hbl hkn
        go_wp2
        clear d1
        go_loopw [35] (fun i wr => ∃ k : Nat, k ≤ M ∧ i = .int .i64 k ∧ (∀ j, j < k → BP j = false) ∧ Below wo.heap.size wo wr) (fun i _ => M - (intOf i).toNat)
        case atStart => exact ⟨0, Nat.zero_le _, rfl, fun j hj => by omega, Below.refl _ _⟩
        case round =>
          obtain ⟨s, hs, rfl, hall2, hbl2⟩ := hrel
          have HALL2 := Lib.hid hall2
          have HBL3 := Lib.hid hbl2
          by_cases hlt2 : s < M
          · have hre := HRE.out.below hbl2 HRE.out.lt
            have d0 : wr.cell? ⟨w.heap.size, 0, none⟩ = some (.int .i64 (N : Nat)) := hre.cell 0
            have d1 : wr.cell? ⟨w.heap.size, 1, none⟩ = some (.slice p bids.length cap) := hre.cell 1
            have HC := Lib.hid (HBL.out wr _ s (HBE.out.trans (hbl2.mono HBE.out.size)) (HSE.out.below hbl2) HALL.out hlt2)
            have HBX := Lib.hid (HBE.out.trans (hbl2.mono HBE.out.size))
            obtain ⟨t, ht⟩ : ∃ t, BP s = t := ⟨_, rfl⟩
            rw [ht] at HC
            clear hre hall2 hbl2
            cases t with
            | true =>
              have HF := Lib.hid (HNO2.out s hlt2 ht)
              clear ht
              go_wp2_with (first | (go_at_call 79; refine HC.out.mono ?_; rintro e w2 ⟨rfl, hb2⟩; have HB2 := Lib.hid (HBX.out.trans (hb2.mono HBX.out.size)); clear hb2))
              go_ret
              exact ⟨by rw [HF.out]; rfl, HB2.out⟩
            | false =>
              have HT := Lib.hid ht
              clear ht
              go_wp2_with (first | (go_at_call 79; refine HC.out.mono ?_; rintro e w2 ⟨rfl, hb2⟩; have HB2 := Lib.hid (HBL3.out.trans (hb2.mono HBL3.out.size)); clear hb2))
              go_roundw
              case rel => exact ⟨s + 1, by omega, by go_num, fun j hj => by
                rcases Nat.lt_or_ge j s with h | h
                · exact HALL2.out j h
                · have : j = s := by omega
                  subst this; exact HT.out, HB2.out⟩
              case measure => simp [intOf]; omega
          · have hsM : s = M := by omega
            rw [hsM] at HALL2
            have HF := Lib.hid (HYES.out HALL.out HALL2.out)
            have HBX := Lib.hid (HBE.out.trans (hbl2.mono HBE.out.size))
            have hnlt2 : ¬ ((s : Int) < (M : Int)) := by omega
            clear hall2 hbl2 hsM
            go_wp2
            go_ret
            exact ⟨by rw [HF.out]; rfl, HBX.out⟩
set_option maxRecDepth 100000 in
set_option maxHeartbeats 2000000 in
theorem core_spec (B : SpecBlocked) : SpecCore := by
  intro v pv K bids q w hl hq h1 h6 hn1 hn6 ho hiq hq8
  have hck := checkP_off h1 h6 hn1 hn6 ho
  have HNW := Lib.hid (new_go v K bids w hl (by unfold I64; omega) (few_off h6 hn6 ho))
  have e1 : newR (K : Int) bids v = .agg #[.int .i64 ((2 ^ K - 1 : Nat) : Int), v] := by unfold newR; rw [if_pos hck, Int.toNat_natCast]
  rw [e1, hck] at HNW
  obtain ⟨qp, qc, rfl, hqlc, hqcm⟩ := hq.form
  by_cases hql : q.length = bids.length
  · have HC : Hid (∀ W, Below w.heap.size w W → Calls Tryd.prog 57 #[.agg #[.int .i64 ((2 ^ K - 1 : Nat) : Int), v], .slice qp q.length qc] W fun e w' => e = .returned (.bool (coreP K bids q)) ∧ Below W.heap.size W w') := fun W hb => isCore_go B v _ K bids q W (hl.below hb) (hq.below hb) h6 hn6 hn1 ho hql
    have HE : Hid (coreB K bids q = coreP K bids q ∧ coreE bids q = 0) := ⟨if_pos hql, if_pos hql⟩
    rw [HE.out.1, HE.out.2]
    obtain ⟨CP, hCP⟩ : ∃ CP, coreP K bids q = CP := ⟨_, rfl⟩
    rw [hCP] at HC ⊢
    rw [hql] at HC hqlc ⊢
    obtain ⟨p, cap, rfl, hlc, hcm⟩ := hl.form_
    obtain ⟨N, hN⟩ : ∃ N : Nat, 2 ^ K - 1 = N := ⟨_, rfl⟩
    rw [hN] at HNW HC
    clear hl hq ho hiq hck e1 hN hCP HE hql hq8
    go_enter Tryd.func23, Tryd.ntmps23
    go_wp2_with (first
      | (go_at_call 57; refine (HC.out _ HB1.out).mono ?_; rintro e w2 ⟨rfl, hb2⟩; have HB2 := Lib.hid (HB1.out.trans (hb2.mono HB1.out.size)); clear hb2)
      | (go_at_call 46; refine HNW.out.mono ?_; rintro e w1 ⟨rfl, hb1⟩; have HB1 := Lib.hid (hb1.alloc hb1.size (.cells #[.int .i64 (N : Int), .slice p bids.length cap] 73)); have hr1 := row_new 73 w1 #[.int .i64 (N : Int), .slice p bids.length cap]; have d0 := hr1.cell 0; have d1 := hr1.cell 1; simp only [List.getElem?_cons_zero, List.getElem?_cons_succ, List.getElem?_toArray] at d0 d1; clear hb1 hr1))
    go_ret2
    exact ⟨rfl, HB2.out⟩
  · have HE : Hid (coreB K bids q = false ∧ coreE bids q = 1) := ⟨if_neg hql, if_neg hql⟩
    rw [HE.out.1, HE.out.2]
    have hne : ((q.length : Int) != (bids.length : Int)) = true := by rw [bne_iff_ne]; omega
    obtain ⟨p, cap, rfl, hlc, hcm⟩ := hl.form_
    obtain ⟨N, hN⟩ : ∃ N : Nat, 2 ^ K - 1 = N := ⟨_, rfl⟩
    rw [hN] at HNW
    clear hl hq ho hiq hck e1 hN HE
    go_enter Tryd.func23, Tryd.ntmps23
    go_wp2_with (first | (go_at_call 46; refine HNW.out.mono ?_; rintro e w1 ⟨rfl, hb1⟩; have HB1 := Lib.hid (hb1.alloc hb1.size (.cells #[.int .i64 (N : Int), .slice p bids.length cap] 73)); clear hb1))
    go_ret2
    exact ⟨rfl, HB1.out⟩

/-- what isBlocked has at the head of its loop: the bidders of the set, what they are offered, what the others pay -/
def BlockRel (B : Nat) (w W0 : World) (set : Nat) (bids : List (List Int)) (F p : List Int) (k : Nat) (b o q : Value) (wr : World) : Prop :=
  ∃ vs M, vs.length = (selT set bids k).length ∧ (∀ i u, vs[i]? = some u → Sl w u (ints ((selT set bids k).getD i []))) ∧ Things B wr M ∧ M 1 = some ⟨31, b, vs⟩ ∧ M 2 = some ⟨2, o, ints (inT set F k)⟩ ∧ M 3 = some ⟨2, q, ints (outT set p k)⟩ ∧ Below B W0 wr
theorem getD_snoc {α : Type} (l : List α) (x d : α) (i : Nat) : (l ++ [x]).getD i d = if i = l.length then x else l.getD i d := by
  rw [List.getD_eq_getElem?_getD, List.getD_eq_getElem?_getD]
  rcases Nat.lt_trichotomy i l.length with h | h | h
  · rw [List.getElem?_append_left h, if_neg (by omega)]
  · subst h; rw [List.getElem?_append_right (Nat.le_refl _), if_pos rfl]; simp
  · rw [List.getElem?_eq_none (by simp; omega), if_neg (by omega), List.getElem?_eq_none (by omega)]
section
variable {B : Nat} {w W0 w1 : World} {set : Nat} {bids : List (List Int)} {F p : List Int} {k : Nat} {b o q u : Value} {vs : List Value} {M : Nat → Option Thing} {x : Int}
theorem BlockRel.inn (hT : bt set k = true) (hl : vs.length = (selT set bids k).length) (hr : ∀ i u, vs[i]? = some u → Sl w u (ints ((selT set bids k).getD i []))) (hs : Sl w u (ints (bids.getD k []))) (hx : F.getD k 0 = x)
    (hth : Things B w1 M) (h1 : M 1 = some ⟨31, b, vs ++ [u]⟩) (h2 : M 2 = some ⟨2, o, ints (inT set F k) ++ [.int .i64 x]⟩) (h3 : M 3 = some ⟨2, q, ints (outT set p k)⟩) (hb : Below B W0 w1) : BlockRel B w W0 set bids F p (k + 1) b o q w1 := by
  refine ⟨vs ++ [u], M, ?_, fun i u' hu => ?_, hth, h1, ?_, ?_, hb⟩
  · rw [selT_in hT]; simp [hl]
  · rw [selT_in hT, getD_snoc]
    rcases Nat.lt_trichotomy i vs.length with h | h | h
    · rw [List.getElem?_append_left h] at hu
      rw [if_neg (by omega)]; exact hr i u' hu
    · subst h
      rw [List.getElem?_append_right (Nat.le_refl _)] at hu
      simp at hu; subst hu
      rw [if_pos hl]; exact hs
    · rw [List.getElem?_eq_none (by simp; omega)] at hu; cases hu
  · rw [h2, inT_in hT, ints_append, hx]; rfl
  · rw [h3, outT_in hT]
theorem BlockRel.out (hT : bt set k = false) (hl : vs.length = (selT set bids k).length) (hr : ∀ i u, vs[i]? = some u → Sl w u (ints ((selT set bids k).getD i []))) (hx : p.getD k 0 = x)
    (hth : Things B w1 M) (h1 : M 1 = some ⟨31, b, vs⟩) (h2 : M 2 = some ⟨2, o, ints (inT set F k)⟩) (h3 : M 3 = some ⟨2, q, ints (outT set p k) ++ [.int .i64 x]⟩) (hb : Below B W0 w1) : BlockRel B w W0 set bids F p (k + 1) b o q w1 := by
  refine ⟨vs, M, ?_, fun i u' hu => ?_, hth, h1, ?_, ?_, hb⟩
  · rw [selT_out hT]; exact hl
  · rw [selT_out hT]; exact hr i u' hu
  · rw [h2, inT_out hT]
  · rw [h3, outT_out hT, ints_append, hx]; rfl
end
set_option maxRecDepth 100000 in
set_option maxHeartbeats 4000000 in
theorem blocked : SpecBlocked := by
  intro v fv pv m bids p set w hl hf hp hm hn1 hn6 ho hpl hpb hset
  obtain ⟨bp, cap, rfl, hlc, hcm⟩ := hl.form_
  obtain ⟨fp, fc, rfl, hfl, hfm⟩ := hf.form
  obtain ⟨pp, pc, rfl, hplc, hpm⟩ := hp.form
  have hFL : (offP bids (bestP m bids)).length = bids.length := by rw [offP_len, bestP_len]
  unfold maxLen at hcm
  have HFB := Lib.hid (offP_bd ho (bestP m bids))
  have HIS : Hid (∀ k, k ≤ bids.length → addTo (inT set (offP bids (bestP m bids)) k) (inT set (offP bids (bestP m bids)) k).length = ownTo bids (bestP m bids) set k) := fun k hk => inT_sum set k (by rw [bestP_len]; exact hk)
  have HOS : Hid (∀ k, addTo (outT set p k) (outT set p k).length = restTo p set k) := fun k => outT_sum set k
  have HPB : Hid (∀ i, 0 ≤ p.getD i 0 ∧ p.getD i 0 ≤ 1000000) := fun i => by
    by_cases hi : i < bids.length
    · exact hpb i hi
    · rw [List.getD_eq_getElem?_getD, List.getElem?_eq_none (by omega)]; simp
  have HBLK : Hid (blockedP m bids p set = decide (ownTo bids (bestP m bids) set bids.length + restTo p set bids.length < worthP m bids set)) := rfl
  have HOB := Lib.hid (ownTo_bd ho (bestP m bids) set bids.length)
  have HRB := Lib.hid (restTo_bd hpb set bids.length (Nat.le_refl _))
  have HWB := Lib.hid (worthP_bd ho set)
  have hM64 := pow_le64 hn6
  have HALONE : Hid (∀ W bv, Mat W bv (selT set bids bids.length) → Calls Tryd.prog 71 #[.agg #[.int .i64 ((2 ^ m - 1 : Nat) : Int), .slice bp bids.length cap], bv] W fun e w' => e = .returned (.int .i64 (worthP m bids set)) ∧ Below W.heap.size W w') := fun W bv hb => by
    have := alone_go (.slice bp bids.length cap) bv m (selT set bids bids.length) W ⟨_, _, _, rfl⟩ hb hm (Nat.le_trans (selT_len set bids bids.length) (by omega)) (offers_sel ho)
    rw [selT_sel, worthP_alone hm ho] at this
    exact this
  obtain ⟨F, hF⟩ : ∃ F, offP bids (bestP m bids) = F := ⟨_, rfl⟩
  rw [hF] at HFB HIS hFL hf hfl ⊢
  rw [hFL] at hfl ⊢
  rw [hpl] at hplc ⊢
  have HL := Lib.hid hl
  have HF : Hid (Sl w (.slice fp bids.length fc) (ints F)) := by rw [← hFL]; exact hf
  have HP : Hid (Sl w (.slice pp bids.length pc) (ints p)) := by rw [← hpl]; exact hp
  have HFL := Lib.hid hFL
  have HPL := Lib.hid hpl
  have hr0 := row_new 73 w #[.int .i64 ((2 ^ m - 1 : Nat) : Int), .slice bp bids.length cap]
  obtain ⟨N, hN⟩ : ∃ N : Nat, 2 ^ m - 1 = N := ⟨_, rfl⟩
  rw [hN] at HALONE hr0 ⊢
  obtain ⟨W0, hW0⟩ : ∃ W0, w.alloc (.cells #[.int .i64 N, .slice bp bids.length cap] 73) = W0 := ⟨_, rfl⟩
  have HB0 : Hid (Below w.heap.size w W0) := by rw [← hW0]; exact (Below.refl w.heap.size w).alloc (Nat.le_refl _) _
  have HZ0 : Hid (W0.heap.size = w.heap.size + 1) := by rw [← hW0]; exact alloc_size _ _
  rw [hW0] at hr0
  have HR0 := Lib.hid hr0
  have d1 := hr0.cell 1
  simp only [List.getElem?_cons_zero, List.getElem?_cons_succ] at d1
  have hset64 : set < 64 := by omega
  clear hl hf hp hFL hF ho hpl hpb hr0 hN hm hset
  have hl0 : (0 : Int) ≤ (bids.length : Int) := by omega
  go_enter Tryd.func79, Tryd.ntmps79
  go_wp2
  clear hW0
  go_loopw [9, 10, 11, 17] (fun b o q i wr => ∃ k : Nat, k ≤ bids.length ∧ i = .int .i64 k ∧ BlockRel (w.heap.size + 1) w W0 set bids F p k b o q wr) (fun _ _ _ i _ => bids.length - (intOf i).toNat)
  case atStart =>
    refine ⟨0, Nat.zero_le _, rfl, [], setT (setT (setT (fun _ => none) 1 ⟨31, .slice none 0 0, []⟩) 2 ⟨2, .slice none 0 0, []⟩) 3 ⟨2, .slice none 0 0, []⟩, rfl, fun i u hu => by simp at hu, ?_, rfl, rfl, rfl, Below.refl _ _⟩
    exact (((Things.none _ _).nil 1).nil 2).nil 3
  case round =>
    clear d1
    obtain ⟨k, hk, rfl, vs, M, hvl, hvr, hth, hM1, hM2, hM3, hb⟩ := hrel
    have HVL := Lib.hid hvl
    have HVR := Lib.hid hvr
    have HTH := Lib.hid hth
    have HM1 := Lib.hid hM1
    have HM2 := Lib.hid hM2
    have HM3 := Lib.hid hM3
    have HB := Lib.hid hb
    have hbw := HB0.out.trans (hb.mono (Nat.le_succ _))
    clear hvl hvr hth hM1 hM2 hM3 hb
    have hvs : vs.length ≤ 64 := by have := selT_len set bids k; rw [← HVL.out] at this; omega
    have hls : (ints (inT set F k)).length ≤ 64 := by rw [ints_length]; have := inT_len set F k; omega
    by_cases hlt : k < bids.length
    · obtain ⟨b1, o1, c1, u, hv, _, _, _, hcu0, hsu⟩ := HL.out.row_at k hlt
      cases hv
      have hb1 : b1 < w.heap.size := by
        obtain ⟨b, o, c, _, hv, _, _, h, _, _⟩ := HL.out.row_at k hlt
        cases hv; exact h
      have hcu := (hbw.cell (p := ⟨b1, o1 + k, none⟩) hb1).trans hcu0
      obtain ⟨up, uc, rfl, hulc, hucm⟩ := hsu.form
      have HSU := Lib.hid hsu
      obtain ⟨r, hr⟩ : ∃ r, (bids.getD k []).length = r := ⟨_, rfl⟩
      rw [hr] at hcu hulc HSU
      have hd := Nat.div_le_self set (2 ^ k)
      have h1 : bits .and .i64 ((set / 2 ^ k : Nat) : Int) 1 = ((set / 2 ^ k % 2 : Nat) : Int) := by rw [← Nat.and_one_is_mod]; exact i64_and (set / 2 ^ k) 1 (by omega) (by omega)
      have hs := cast_shr set k
      have HBT : Hid (bt set k = (set / 2 ^ k % 2 == 1)) := rfl
      obtain ⟨d, hdd⟩ : ∃ d, set / 2 ^ k = d := ⟨_, rfl⟩
      rw [hdd] at h1 hd hs HBT
      have hw : IntKind.i64.wrap (d : Int) = (d : Int) := wrap_small d (by omega)
      obtain ⟨e2, he2⟩ : ∃ e2, d % 2 = e2 := ⟨_, rfl⟩
      rw [he2] at h1 HBT
      have hbx : bt set k = true ∨ bt set k = false := by cases bt set k <;> simp
      clear hsu hcu0 hr hdd he2
      rcases hbx with hbx | hbx
      · have HT := Lib.hid hbx
        have htst : ((e2 : Int) == 1) = true := by
          have := HBT.out; rw [hbx] at this; rw [beq_iff_eq]; have := (beq_iff_eq.1 this.symm); omega
        clear hbx HBT
        obtain ⟨b3, o3, c3, hv, _, _, hb3, hc3⟩ := HF.out.int_at k (by rw [HFL.out]; exact hlt)
        rw [HFL.out] at hv
        cases hv
        obtain ⟨x, hx⟩ : ∃ x, F.getD k 0 = x := ⟨_, rfl⟩
        rw [hx] at hc3
        have HX := Lib.hid hx
        have HB3 := Lib.hid hb3
        have HC3 := Lib.hid hc3
        clear hx hb3 hc3
        go_wp2
        refine wp_region_things (by kernel_rfl) 55 rfl (by kernel_rfl) [.fix u9, .fix (.slice up r uc), .box 4 31 (.slice up r uc), .app 1 2 31 u9 vs (.slice up r uc), .fix u10, .fix (.slice (some ⟨b3, o3, none⟩) bids.length fc), .fix (.int .i64 k), .fix (.pointer (some ⟨b3, o3 + k, none⟩)), .fix (.int .i64 x), .box 5 2 (.int .i64 x), .app 2 9 2 u10 (ints (inT set F k)) (.int .i64 x), .same 3, .same 10] (by rfl) ?hA (w.heap.size + 1) W0 HB.out (by rw [HZ0.out]; exact Nat.le_refl _) M HTH.out ?hM ?hop ?hQ
        case hA =>
          intro i n jb T v xs u h
          rcases i with _ | _ | _ | _ | _ | _ | _ | _ | _ | _ | _ | _ | _ | i
          all_goals (first | (cases h; exact ⟨_, rfl⟩) | cases h)
        case hM =>
          intro i n jb T v xs u h
          rcases i with _ | _ | _ | _ | _ | _ | _ | _ | _ | _ | _ | _ | _ | i
          all_goals (first | (cases h; first | exact HM1.out | exact HM2.out) | cases h)
        case hop =>
          intro i o kd hi hkd v w1 hb hV
          have hbw1 : Below w.heap.size w w1 := HB0.out.trans (hb.mono (Nat.le_succ _))
          have d3 : w1.cell? ⟨b3, o3 + k, none⟩ = some (.int .i64 x) := (hbw1.cell (p := ⟨b3, o3 + k, none⟩) HB3.out).trans HC3.out
          have hsz : w.heap.size + 1 ≤ w1.heap.size := by have := hb.size; rw [HZ0.out] at this; exact this
          clear hb hbw1
          have hi' : i < 13 := (List.getElem?_eq_some_iff.1 hi).1
          rcases (by omega : i = 0 ∨ i = 1 ∨ i = 2 ∨ i = 3 ∨ i = 4 ∨ i = 5 ∨ i = 6 ∨ i = 7 ∨ i = 8 ∨ i = 9 ∨ i = 10 ∨ i = 11 ∨ i = 12) with rfl | rfl | rfl | rfl | rfl | rfl | rfl | rfl | rfl | rfl | rfl | rfl | rfl
          · cases hi
            cases hkd
            clear hi'
            refine .inl ⟨rfl, ?_⟩
            clear hV
            simp only [List.take_succ_cons, List.take_zero, putAll, Ob]
            generalize hR : FixR _ _ = R
            go_simp
            subst hR
            exact ⟨rfl, Below.refl _ _⟩
          · cases hi
            cases hkd
            clear hi'
            refine .inl ⟨rfl, ?_⟩
            clear hV
            simp only [List.take_succ_cons, List.take_zero, putAll, Ob]
            generalize hR : FixR _ _ = R
            go_simp
            subst hR
            exact ⟨rfl, Below.refl _ _⟩
          · cases hi
            cases hkd
            clear hi'
            refine .inl ⟨rfl, ?_⟩
            have q1 : v 1 = _ := hV 1 (by decide)
            clear hV
            simp only [List.take_succ_cons, List.take_zero, putAll, Ob]
            generalize hR : BoxR _ _ _ = R
            go_simp
            subst hR
            exact ⟨rfl, rfl⟩
          · cases hi
            cases hkd
            clear hi'
            refine .inl ⟨rfl, ?_⟩
            have q0 : v 0 = _ := hV 0 (by decide)
            clear hV
            intro g hg hrow hown
            simp only [List.take_succ_cons, List.take_zero, putAll]
            refine run_append_box (.tmp 27) (.tmp 29) 22 rfl 31 (.slice none 0 0) 24 Tryd.underlying22 Tryd.info31 rfl (by omega) (w.heap.size + 1) u9 vs ?hs hown g (.slice up r uc) ?hx hrow rfl ?hlen hsz (fun v' w' h1 h2 h3 => ⟨h1, h2, h3⟩)
            case hs => go_simp
            case hx => go_simp
            case hlen => omega
          · cases hi
            cases hkd
            clear hi'
            refine .inl ⟨rfl, ?_⟩
            clear hV
            simp only [List.take_succ_cons, List.take_zero, putAll, Ob]
            generalize hR : FixR _ _ = R
            go_simp
            subst hR
            exact ⟨rfl, Below.refl _ _⟩
          · cases hi
            cases hkd
            clear hi'
            refine .inl ⟨rfl, ?_⟩
            clear hV
            simp only [List.take_succ_cons, List.take_zero, putAll, Ob]
            generalize hR : FixR _ _ = R
            go_simp
            subst hR
            exact ⟨rfl, Below.refl _ _⟩
          · cases hi
            cases hkd
            clear hi'
            refine .inl ⟨rfl, ?_⟩
            clear hV
            simp only [List.take_succ_cons, List.take_zero, putAll, Ob]
            generalize hR : FixR _ _ = R
            go_simp
            subst hR
            exact ⟨rfl, Below.refl _ _⟩
          · cases hi
            cases hkd
            clear hi'
            refine .inl ⟨rfl, ?_⟩
            have q5 : v 5 = _ := hV 5 (by decide)
            have q6 : v 6 = _ := hV 6 (by decide)
            clear hV
            simp only [List.take_succ_cons, List.take_zero, putAll, Ob]
            generalize hR : FixR _ _ = R
            go_simp
            subst hR
            exact ⟨rfl, Below.refl _ _⟩
          · cases hi
            cases hkd
            clear hi'
            refine .inl ⟨rfl, ?_⟩
            have q7 : v 7 = _ := hV 7 (by decide)
            clear hV
            simp only [List.take_succ_cons, List.take_zero, putAll, Ob]
            generalize hR : FixR _ _ = R
            go_simp
            subst hR
            exact ⟨rfl, Below.refl _ _⟩
          · cases hi
            cases hkd
            clear hi'
            refine .inl ⟨rfl, ?_⟩
            have q8 : v 8 = _ := hV 8 (by decide)
            clear hV
            simp only [List.take_succ_cons, List.take_zero, putAll, Ob]
            generalize hR : BoxR _ _ _ = R
            go_simp
            subst hR
            exact ⟨rfl, rfl⟩
          · cases hi
            cases hkd
            clear hi'
            refine .inl ⟨rfl, ?_⟩
            have q4 : v 4 = _ := hV 4 (by decide)
            clear hV
            intro g hg hrow hown
            simp only [List.take_succ_cons, List.take_zero, putAll]
            refine run_append_box (.tmp 31) (.tmp 36) 31 rfl 2 (.int .i64 0) 8 Tryd.underlying31 Tryd.info2 rfl (by omega) (w.heap.size + 1) u10 (ints (inT set F k)) ?hs hown g (.int .i64 x) ?hx hrow rfl ?hlen hsz (fun v' w' h1 h2 h3 => ⟨h1, h2, h3⟩)
            case hs => go_simp
            case hx => go_simp
            case hlen => omega
          · cases hi
            cases hkd
            clear hi'
            refine .inl ⟨rfl, ?_⟩
            clear hV
            simp only [List.take_succ_cons, List.take_zero, putAll, Ob]
            generalize hR : FixR _ _ = R
            go_simp
            subst hR
            exact ⟨rfl, Below.refl _ _⟩
          · cases hi
            cases hkd
            clear hi'
            refine .inl ⟨rfl, ?_⟩
            clear hV
            simp only [List.take_succ_cons, List.take_zero, putAll, Ob]
            generalize hR : FixR _ _ = R
            go_simp
            subst hR
            exact ⟨rfl, Below.refl _ _⟩
        case hQ =>
          intro v w1 M' hb hth hG hO
          have e3 := (hG 3 _ rfl).2 trivial
          have e10 := (hG 10 _ rfl).2 trivial
          have e11 : v 11 = v 3 := hG 11 _ rfl trivial
          have e12 : v 12 = v 10 := hG 12 _ rfl trivial
          have e33 : M' 3 = M 3 := hO 3 (by
            intro j kd h
            rcases j with _ | _ | _ | _ | _ | _ | _ | _ | _ | _ | _ | _ | _ | j
            all_goals (cases h <;> (intro h; cases h)))
          have HREL : Hid (BlockRel (w.heap.size + 1) w W0 set bids F p (k + 1) (v 3) (v 10) u11 w1) :=
            BlockRel.inn HT.out HVL.out HVR.out HSU.out HX.out hth e3 e10 (e33.trans HM3.out) hb
          simp only [putAll, e11, e12]
          clear e3 e10 e11 e12 e33 hth hb hG hO
          go_wp2
          go_roundw
          case rel => exact ⟨k + 1, by omega, by go_num, HREL.out⟩
          case measure => simp [intOf]; omega
      · have HT := Lib.hid hbx
        have htst : ((e2 : Int) == 1) = false := by
          have := HBT.out; rw [hbx] at this; rw [beq_eq_false_iff_ne]; intro h; have := beq_eq_false_iff_ne.1 this.symm; omega
        clear hbx HBT
        obtain ⟨b3, o3, c3, hv, _, _, hb3, hc3⟩ := HP.out.int_at k (by rw [HPL.out]; exact hlt)
        rw [HPL.out] at hv
        cases hv
        obtain ⟨x, hx⟩ : ∃ x, p.getD k 0 = x := ⟨_, rfl⟩
        rw [hx] at hc3
        have HX := Lib.hid hx
        have HB3 := Lib.hid hb3
        have HC3 := Lib.hid hc3
        clear hx hb3 hc3
        have hcw := (hbw.cell (p := ⟨b3, o3 + k, none⟩) HB3.out).trans HC3.out
        have hsz : w.heap.size + 1 ≤ wr.heap.size := by have := HB.out.size; rw [HZ0.out] at this; exact this
        go_wp2_with (first | (at_builtin; refine wpList_append_thing wr rfl (.tmp 38) (.tmp 43) 31 rfl 2 (.int .i64 0) 8 Tryd.underlying31 Tryd.info2 rfl (by omega) (w.heap.size + 1) 3 M u11 (ints (outT set p k)) HTH.out HM3.out rfl (.int .i64 x) rfl rfl ?a1 hsz ?_))
        case a1 => rw [ints_length]; have := outT_len set p k; omega
        intro v' w' hth2 hb2
        have HREL : Hid (BlockRel (w.heap.size + 1) w W0 set bids F p (k + 1) u9 u10 v' w') :=
          BlockRel.out HT.out HVL.out HVR.out HX.out hth2 ((setT_other (by decide)).trans HM1.out) ((setT_other (by decide)).trans HM2.out) (setT_here _ _ _) (HB.out.trans hb2)
        clear hth2 hb2
        go_wp2
        go_roundw
        case rel => exact ⟨k + 1, by omega, by go_num, HREL.out⟩
        case measure => simp [intOf]; omega
    · obtain rfl : k = bids.length := by omega
      have HMAT : Hid (Mat wr u9 (selT set bids bids.length)) := ⟨vs, HVL.out, (HTH.out.own HM1.out).sl, fun i u hu => (HVR.out i u hu).below hbw⟩
      have HOWN : Hid (Sl wr u10 (ints (inT set F bids.length))) := (HTH.out.own HM2.out).sl
      have HPAID : Hid (Sl wr u11 (ints (outT set p bids.length))) := (HTH.out.own HM3.out).sl
      obtain ⟨bp9, bc9, rfl, _, _⟩ := HMAT.out.form_
      obtain ⟨op9, oc9, rfl, _, _⟩ := HOWN.out.form
      obtain ⟨pp9, pc9, rfl, _, _⟩ := HPAID.out.form
      have hr0 := HR0.out.below HB.out (Nat.lt_succ_self _)
      have d0 := hr0.cell 0
      have d1 := hr0.cell 1
      simp only [List.getElem?_cons_zero, List.getElem?_cons_succ] at d0 d1
      have HC1 := Lib.hid (HALONE.out wr _ HMAT.out)
      have HC2 : Hid (∀ W, Below wr.heap.size wr W → Calls Tryd.prog 48 #[.slice op9 (inT set F bids.length).length oc9] W fun e w' => e = .returned (.int .i64 (ownTo bids (bestP m bids) set bids.length)) ∧ W = w') := fun W hb => by
        have := sum_go _ _ W (HOWN.out.below hb) (Nat.le_trans (inT_len set F bids.length) (by omega)) (fun i => by have := inT_bd (B := 1000000) (by omega) HFB.out set bids.length i; omega)
        rw [HIS.out bids.length (Nat.le_refl _)] at this
        exact this
      have HC3 : Hid (∀ W, Below wr.heap.size wr W → Calls Tryd.prog 48 #[.slice pp9 (outT set p bids.length).length pc9] W fun e w' => e = .returned (.int .i64 (restTo p set bids.length)) ∧ W = w') := fun W hb => by
        have := sum_go _ _ W (HPAID.out.below hb) (Nat.le_trans (outT_len set p bids.length) (by omega)) (fun i => by have := outT_bd (B := 1000000) (by omega) HPB.out set bids.length i; omega)
        rw [HOS.out bids.length] at this
        exact this
      have hob := HOB.out
      have hrb := HRB.out
      have hwb := HWB.out
      have HBW := Lib.hid hbw
      obtain ⟨S1, hS1⟩ : ∃ S1, (selT set bids bids.length).length = S1 := ⟨_, rfl⟩
      obtain ⟨S2, hS2⟩ : ∃ S2, (inT set F bids.length).length = S2 := ⟨_, rfl⟩
      obtain ⟨S3, hS3⟩ : ∃ S3, (outT set p bids.length).length = S3 := ⟨_, rfl⟩
      obtain ⟨x1, hx1⟩ : ∃ x1, ownTo bids (bestP m bids) set bids.length = x1 := ⟨_, rfl⟩
      obtain ⟨x2, hx2⟩ : ∃ x2, restTo p set bids.length = x2 := ⟨_, rfl⟩
      obtain ⟨x3, hx3⟩ : ∃ x3, worthP m bids set = x3 := ⟨_, rfl⟩
      rw [hS1] at HC1 ⊢
      rw [hS2] at HC2 ⊢
      rw [hS3] at HC3 ⊢
      rw [hx1] at HC2 HBLK hob
      rw [hx2] at HC3 HBLK hrb
      rw [hx3] at HC1 HBLK hwb
      clear hbw hr0 HMAT HOWN HPAID HOB HRB HWB hS1 hS2 hS3 hx1 hx2 hx3 HTH HM1 HM2 HM3
      go_wp2_with fail
      refine HC1.out.mono ?_
      rintro e w1 ⟨rfl, hb1⟩
      have HB1 := Lib.hid hb1
      clear hb1 HC1
      go_wp2_with fail
      refine (HC2.out _ HB1.out).mono ?_
      rintro e w2 ⟨rfl, rfl⟩
      clear HC2
      go_wp2_with fail
      refine (HC3.out _ HB1.out).mono ?_
      rintro e w2 ⟨rfl, rfl⟩
      clear HC3
      go_wp2
      go_ret
      exact ⟨by rw [HBLK.out]; rfl, HBW.out.trans (HB1.out.mono HBW.out.size)⟩
end Go.Proofs.YthbfgmgpploneaaDoor
