/- The program's isCore and IsCore, given what isBlocked answers. -/
import Derived.Test.YthbfgmgpploneaaDoorG3
set_option linter.unusedVariables false
set_option linter.unusedSimpArgs false
set_option linter.unnecessarySimpa false
namespace Go.Proofs.YthbfgmgpploneaaDoor
open Go.RowKit

/-- the bidders of a set are worth more alone than what they get and pay, and the others pay -/
def blockedP (K : Nat) (bids : List (List Int)) (p : List Int) (set : Nat) : Bool := decide (ownTo bids (bestP K bids) set bids.length + restTo p set bids.length < worthP K bids set)
/-- isBlocked, at payments from 0 to what is offered -/
def SpecBlocked : Prop := ∀ (v fv pv : Value) (K : Nat) (bids : List (List Int)) (p : List Int) (set : Nat) (w : World), Mat w v bids → Sl w fv (ints (offP bids (bestP K bids))) → Sl w pv (ints p) → K ≤ 6 → 1 ≤ bids.length → bids.length ≤ 6 → Offers K bids →
  p.length = bids.length → (∀ i, i < bids.length → 0 ≤ p.getD i 0 ∧ p.getD i 0 ≤ 1000000) → set < 2 ^ bids.length →
  Calls Tryd.prog 79 #[.agg #[.int .i64 ((2 ^ K - 1 : Nat) : Int), v], .int .i64 set, fv, pv] w fun e w' => e = .returned (.bool (blockedP K bids p set)) ∧ Below w.heap.size w w'
theorem core_no1 {K : Nat} {bids : List (List Int)} {p : List Int} {i : Nat} (hi : i < bids.length) (h : p.getD i 0 < 0 ∨ (offP bids (bestP K bids)).getD i 0 < p.getD i 0) : coreP K bids p = false := by
  rw [offP_get _ _ _ (by rw [bestP_len]; exact hi)] at h
  unfold offAt at h
  unfold coreP
  rw [Bool.and_eq_false_iff]
  left
  rw [List.all_eq_false]
  refine ⟨i, List.mem_range.2 hi, ?_⟩
  rw [Bool.and_eq_true, decide_eq_true_eq, decide_eq_true_eq]
  omega
theorem core_no2 {K : Nat} {bids : List (List Int)} {p : List Int} {set : Nat} (hi : set < 2 ^ bids.length) (h : blockedP K bids p set = true) : coreP K bids p = false := by
  unfold blockedP at h
  rw [decide_eq_true_eq] at h
  unfold coreP
  rw [Bool.and_eq_false_iff]
  right
  rw [List.all_eq_false]
  refine ⟨set, List.mem_range.2 hi, ?_⟩
  rw [decide_eq_true_eq]
  omega
theorem core_yes {K : Nat} {bids : List (List Int)} {p : List Int} (h : ∀ i, i < bids.length → 0 ≤ p.getD i 0 ∧ p.getD i 0 ≤ (offP bids (bestP K bids)).getD i 0) (h2 : ∀ set, set < 2 ^ bids.length → blockedP K bids p set = false) : coreP K bids p = true := by
  unfold coreP
  rw [Bool.and_eq_true]
  constructor
  · rw [List.all_eq_true]
    intro i hi
    rw [List.mem_range] at hi
    have := h i hi
    rw [offP_get _ _ _ (by rw [bestP_len]; exact hi)] at this
    unfold offAt at this
    rw [Bool.and_eq_true, decide_eq_true_eq, decide_eq_true_eq]
    exact this
  · rw [List.all_eq_true]
    intro s hs
    rw [List.mem_range] at hs
    have := h2 s hs
    unfold blockedP at this
    rw [decide_eq_false_iff_not] at this
    rw [decide_eq_true_eq]
    omega
set_option maxRecDepth 100000 in
set_option maxHeartbeats 4000000 in
theorem isCore_go (B : SpecBlocked) (v pv : Value) (m : Nat) (bids : List (List Int)) (q : List Int) (w : World) (hl : Mat w v bids) (hq : Sl w pv (ints q)) (hm : m ≤ 6) (hn : bids.length ≤ 6) (hn1 : 1 ≤ bids.length) (ho : Offers m bids) (hql : q.length = bids.length) :
    Calls Tryd.prog 57 #[.agg #[.int .i64 ((2 ^ m - 1 : Nat) : Int), v], pv] w fun e w' => e = .returned (.bool (coreP m bids q)) ∧ Below w.heap.size w w' := by
  obtain ⟨p, cap, rfl, hlc, hcm⟩ := hl.form_
  unfold maxLen at hcm
  obtain ⟨qp, qc, rfl, hqlc, hqcm⟩ := hq.form
  have HQ0 : Hid (Sl w (.slice qp bids.length qc) (ints q)) := by rw [← hql]; exact hq
  rw [hql] at hqlc ⊢
  have HQL := Lib.hid hql
  have hr0 := row_new 73 w #[.int .i64 ((2 ^ m - 1 : Nat) : Int), .slice p bids.length cap]
  have hb0 := (Below.refl w.heap.size w).alloc (Nat.le_refl _) (.cells #[.int .i64 ((2 ^ m - 1 : Nat) : Int), .slice p bids.length cap] 73)
  have HFIRST : Hid (∀ W, Below w.heap.size w W → Calls Tryd.prog 47 #[.agg #[.int .i64 ((2 ^ m - 1 : Nat) : Int), .slice p bids.length cap]] W fun e w' => ∃ v', e = .returned v' ∧ Sl w' v' (ints (bestP m bids)) ∧ Below W.heap.size W w') := fun W hb => (first_go _ m bids W (hl.below hb) hm (by omega) hn1 ho).mono fun e w' ⟨v', h1, h2, h3⟩ => ⟨v', h1, h2.sl, h3⟩
  have HOFF : Hid (∀ W lv, Below w.heap.size w W → Sl W lv (ints (bestP m bids)) → Calls Tryd.prog 49 #[.agg #[.int .i64 ((2 ^ m - 1 : Nat) : Int), .slice p bids.length cap], lv] W fun e w' => ∃ v', e = .returned v' ∧ Sl w' v' (ints (offP bids (bestP m bids))) ∧ Below W.heap.size W w') := fun W lv hb hs => (offered_go _ _ lv bids _ W (hl.below hb) hs (by omega) (best_deals ho)).mono fun e w' ⟨v', h1, h2, h3⟩ => ⟨v', h1, h2.sl, h3⟩
  have HBL : Hid (∀ (W : World) (fv : Value) (s : Nat), Below w.heap.size w W → Sl W fv (ints (offP bids (bestP m bids))) → (∀ i, i < bids.length → 0 ≤ q.getD i 0 ∧ q.getD i 0 ≤ (offP bids (bestP m bids)).getD i 0) → s < 2 ^ bids.length →
      Calls Tryd.prog 79 #[.agg #[.int .i64 ((2 ^ m - 1 : Nat) : Int), .slice p bids.length cap], .int .i64 s, fv, .slice qp bids.length qc] W fun e w' => e = .returned (.bool (blockedP m bids q s)) ∧ Below W.heap.size W w') := fun W fv s hb hf ha hs => by
    have hx : ∀ i, i < bids.length → 0 ≤ q.getD i 0 ∧ q.getD i 0 ≤ 1000000 := fun i hi => by
      have h1 := ha i hi
      have h2 := (offP_bd ho (bestP m bids) i).2
      exact ⟨h1.1, Int.le_trans h1.2 h2⟩
    exact B (.slice p bids.length cap) fv (.slice qp bids.length qc) m bids q s W (hl.below hb) hf (HQ0.out.below hb) hm hn1 hn ho hql hx hs
  have HNO1 := Lib.hid (fun i => @core_no1 m bids q i)
  have HNO2 := Lib.hid (fun s => @core_no2 m bids q s)
  have HYES := Lib.hid (@core_yes m bids q)
  have HOL : Hid ((offP bids (bestP m bids)).length = bids.length) := by show _ = _; rw [offP_len, bestP_len]
  have hM := wrap_pow bids.length (by omega)
  have hM64 := pow_le64 hn
  have hM0 := pow_pos2 bids.length
  obtain ⟨M, hMM⟩ : ∃ M, 2 ^ bids.length = M := ⟨_, rfl⟩
  rw [hMM] at hM hM64 hM0 HBL HNO2 HYES
  obtain ⟨N, hN⟩ : ∃ N : Nat, 2 ^ m - 1 = N := ⟨_, rfl⟩
  rw [hN] at hr0 hb0 HFIRST HOFF HBL ⊢
  obtain ⟨F, hF⟩ : ∃ F, offP bids (bestP m bids) = F := ⟨_, rfl⟩
  rw [hF] at HOFF HBL HNO1 HYES HOL
  obtain ⟨GL, hG⟩ : ∃ GL, bestP m bids = GL := ⟨_, rfl⟩
  rw [hG] at HFIRST HOFF
  obtain ⟨CP, hCP⟩ : ∃ CP, coreP m bids q = CP := ⟨_, rfl⟩
  rw [hCP] at HNO1 HNO2 HYES ⊢
  obtain ⟨BP, hBP⟩ : ∃ BP, blockedP m bids q = BP := ⟨_, rfl⟩
  rw [hBP] at HNO2 HYES HBL
  have HR0 := Lib.hid hr0
  have HB0 := Lib.hid hb0
  obtain ⟨W0, hW0⟩ : ∃ W0, w.alloc (.cells #[.int .i64 N, .slice p bids.length cap] 73) = W0 := ⟨_, rfl⟩
  rw [hW0] at HR0 HB0
  clear hl ho hm hr0 hb0 hN hF hG hMM hCP hBP hq hql
  have hl0 : (0 : Int) ≤ (bids.length : Int) := by omega
  go_enter Tryd.func57, Tryd.ntmps57
  go_wp2
  clear hW0
  refine wp_region_rel (by kernel_rfl) 44 rfl (by kernel_rfl) [.fix (.agg #[.int .i64 (N : Nat), .slice p bids.length cap]), .fix (.agg #[.int .i64 (N : Nat), .slice p bids.length cap]), .mem (fun u W => Sl W u (ints GL)), .mem (fun u W => Sl W u (ints F)), .mem (fun u W => Sl W u (ints F))] rfl (stays_of (fun i M hk v w w' h hb => by rcases i with _ | _ | _ | _ | _ | i <;> simp at hk <;> subst hk <;> exact Sl.below h hb) (fun j b k T n => by rcases j with _ | _ | _ | _ | _ | j <;> simp)) ?hop ?hQ
  case hop =>
    intro W hW j o hj vs w1 hb hV
    have hbw : Below W0.heap.size W0 w1 := by rw [hW] at hb; exact ((Below.refl W0.heap.size W0).drew).trans hb
    have d0 : w1.cell? ⟨w.heap.size, 0, none⟩ = some (.int .i64 (N : Nat)) := (HR0.out.below hbw HR0.out.lt).cell 0
    have d1 : w1.cell? ⟨w.heap.size, 1, none⟩ = some (.slice p bids.length cap) := (HR0.out.below hbw HR0.out.lt).cell 1
    clear hW hb
    have hj' : j < 5 := (List.getElem?_eq_some_iff.1 hj).1
    rcases (by omega : j = 0 ∨ j = 1 ∨ j = 2 ∨ j = 3 ∨ j = 4) with rfl | rfl | rfl | rfl | rfl
    · cases hj
      clear hj'
      refine .inl ⟨rfl, ?_⟩
      (try simp [predsR, Region.binds, Vk] at hV)
      simp only [putAll]
      generalize hR : Res _ _ vs w1 = R
      go_simp
      subst hR
      exact ⟨rfl, Below.refl _ _⟩
    · cases hj
      clear hj'
      refine .inl ⟨rfl, ?_⟩
      (try simp [predsR, Region.binds, Vk] at hV)
      simp only [putAll]
      generalize hR : Res _ _ vs w1 = R
      go_simp
      subst hR
      exact ⟨rfl, Below.refl _ _⟩
    · cases hj
      clear hj'
      refine .inl ⟨rfl, ?_⟩
      (try simp [predsR, Region.binds, Vk] at hV)
      simp only [putAll]
      generalize hR : Res _ _ vs w1 = R
      go_simp
      subst hR
      refine (HFIRST.out w1 (HB0.out.trans (hbw.mono HB0.out.size))).mono ?_
      rintro e w2 ⟨v2, rfl, hs2, hb2⟩
      exact ⟨_, rfl, hs2, hb2⟩
    · cases hj
      clear hj'
      refine .inl ⟨rfl, ?_⟩
      generalize hG : relUpon _ _ _ = G
      have q0 : vs 0 = _ := hV 0 (by decide)
      have hS : Sl w1 (vs 2) (ints GL) := hV 2 (by decide)
      clear hV
      subst hG
      simp only [putAll]
      generalize hR : Res _ _ vs w1 = R
      go_simp
      subst hR
      refine (HOFF.out w1 _ (HB0.out.trans (hbw.mono HB0.out.size)) hS).mono ?_
      rintro e w2 ⟨v2, rfl, hs2, hb2⟩
      exact ⟨_, rfl, hs2, hb2⟩
    · cases hj
      clear hj'
      refine .inl ⟨rfl, ?_⟩
      generalize hG : relUpon _ _ _ = G
      have hS : Sl w1 (vs 3) (ints F) := hV 3 (by decide)
      clear hV
      subst hG
      simp only [putAll]
      generalize hR : Res _ _ vs w1 = R
      go_simp
      subst hR
      exact ⟨hS, Below.refl _ _⟩
  case hQ =>
    intro W hW vs w1 hb hV hD
    have hbw : Below W0.heap.size W0 w1 := by rw [hW] at hb; exact ((Below.refl W0.heap.size W0).drew).trans hb
    have v0 : vs 0 = _ := hV 0 (by decide)
    have v1 : vs 1 = _ := hV 1 (by decide)
    have hS : Sl w1 (vs 4) (ints F) := hV 4 (by decide)
    have HR1 := Lib.hid (HR0.out.below hbw HR0.out.lt)
    have HB1 := Lib.hid (HB0.out.trans (hbw.mono HB0.out.size))
    simp only [putAll, v0, v1]
    obtain ⟨fv, hfv⟩ : ∃ fv, vs 4 = fv := ⟨_, rfl⟩
    rw [hfv] at hS ⊢
    obtain ⟨y2, hy2⟩ : ∃ y2, vs 2 = y2 := ⟨_, rfl⟩
    obtain ⟨y3, hy3⟩ : ∃ y3, vs 3 = y3 := ⟨_, rfl⟩
    rw [hy2, hy3]
    have HS := Lib.hid hS
    have HQ1 := Lib.hid (HQ0.out.below HB1.out)
    clear hV hD v0 v1 hb hbw hW hfv hy2 hy3 HR0 HB0 hS HFIRST HOFF
    obtain ⟨fp, fc, rfl, hfl, hfm⟩ := HS.out.form
    rw [HOL.out] at hfl HS ⊢
    obtain ⟨wb, hwb0⟩ : ∃ wb : World, wb = w1 := ⟨_, rfl⟩
    subst hwb0
    go_wp2
    go_loopw [15] (fun i wr => ∃ k : Nat, k ≤ bids.length ∧ i = .int .i64 k ∧ (∀ j, j < k → 0 ≤ q.getD j 0 ∧ q.getD j 0 ≤ F.getD j 0) ∧ Below wb.heap.size wb wr) (fun i _ => bids.length - (intOf i).toNat)
    case atStart => exact ⟨0, Nat.zero_le _, rfl, fun j hj => by omega, Below.refl _ _⟩
    case round =>
      obtain ⟨k, hk, rfl, hall, hbl⟩ := hrel
      have HALL := Lib.hid hall
      have HBL2 := Lib.hid hbl
      by_cases hlt : k < bids.length
      · obtain ⟨b1, o1, c1, hv, _, _, _, hc1⟩ := (HQ1.out.below hbl).int_at k (by rw [HQL.out]; exact hlt)
        rw [HQL.out] at hv
        cases hv
        obtain ⟨b2, o2, c2, hv, _, _, _, hc2⟩ := (HS.out.below hbl).int_at k (by rw [HOL.out]; exact hlt)
        rw [HOL.out] at hv
        cases hv
        have HNO := Lib.hid (HNO1.out k hlt)
        obtain ⟨x, hx⟩ : ∃ x, q.getD k 0 = x := ⟨_, rfl⟩
        obtain ⟨y, hy⟩ : ∃ y, F.getD k 0 = y := ⟨_, rfl⟩
        rw [hx] at hc1 HNO
        rw [hy] at hc2 HNO
        have HX := Lib.hid hx
        have HY := Lib.hid hy
        have HBE := Lib.hid (HB1.out.trans (hbl.mono HB1.out.size))
        clear hx hy hall hbl
        by_cases h0 : x < 0
        · have HF := Lib.hid (HNO.out (Or.inl h0))
          clear HNO
          go_wp2
          go_ret
          exact ⟨by rw [HF.out]; rfl, HBE.out⟩
        · by_cases h1 : y < x
          · have HF := Lib.hid (HNO.out (Or.inr h1))
            clear HNO
            go_wp2
            go_ret
            exact ⟨by rw [HF.out]; rfl, HBE.out⟩
          · clear HNO
            go_wp2
            go_roundw
            case rel => exact ⟨k + 1, by omega, by go_num, fun j hj => by
              rcases Nat.lt_or_ge j k with h | h
              · exact HALL.out j h
              · have : j = k := by omega
                subst this; rw [HX.out, HY.out]; omega, HBL2.out⟩
            case measure => simp [intOf]; omega
      · have hkn : k = bids.length := by omega
        rw [hkn] at HALL
        have HBE := Lib.hid (HB1.out.trans (hbl.mono HB1.out.size))
        have HRE := Lib.hid (HR1.out.below hbl HR1.out.lt)
        have HSE := Lib.hid (HS.out.below hbl)
        have hnlt : ¬ ((k : Int) < (bids.length : Int)) := by omega
        have d1 : wr.cell? ⟨w.heap.size, 1, none⟩ = some (.slice p bids.length cap) := HRE.out.cell 1
        obtain ⟨wo, hwo⟩ : ∃ wo : World, wo = wr := ⟨_, rfl⟩
        subst hwo
        clear hall hbl hkn
        go_wp2
        clear d1
        go_loopw [35] (fun i wr => ∃ k : Nat, k ≤ M ∧ i = .int .i64 k ∧ (∀ j, j < k → BP j = false) ∧ Below wo.heap.size wo wr) (fun i _ => M - (intOf i).toNat)
        case atStart => exact ⟨0, Nat.zero_le _, rfl, fun j hj => by omega, Below.refl _ _⟩
        case round =>
          obtain ⟨s, hs, rfl, hall2, hbl2⟩ := hrel
          have HALL2 := Lib.hid hall2
          have HBL3 := Lib.hid hbl2
          by_cases hlt2 : s < M
          · have hre := HRE.out.below hbl2 HRE.out.lt
            have d0 : wr.cell? ⟨w.heap.size, 0, none⟩ = some (.int .i64 (N : Nat)) := hre.cell 0
            have d1 : wr.cell? ⟨w.heap.size, 1, none⟩ = some (.slice p bids.length cap) := hre.cell 1
            have HC := Lib.hid (HBL.out wr _ s (HBE.out.trans (hbl2.mono HBE.out.size)) (HSE.out.below hbl2) HALL.out hlt2)
            have HBX := Lib.hid (HBE.out.trans (hbl2.mono HBE.out.size))
            obtain ⟨t, ht⟩ : ∃ t, BP s = t := ⟨_, rfl⟩
            rw [ht] at HC
            clear hre hall2 hbl2
            cases t with
            | true =>
              have HF := Lib.hid (HNO2.out s hlt2 ht)
              clear ht
              go_wp2_with (first | (go_at_call 79; refine HC.out.mono ?_; rintro e w2 ⟨rfl, hb2⟩; have HB2 := Lib.hid (HBX.out.trans (hb2.mono HBX.out.size)); clear hb2))
              go_ret
              exact ⟨by rw [HF.out]; rfl, HB2.out⟩
            | false =>
              have HT := Lib.hid ht
              clear ht
              go_wp2_with (first | (go_at_call 79; refine HC.out.mono ?_; rintro e w2 ⟨rfl, hb2⟩; have HB2 := Lib.hid (HBL3.out.trans (hb2.mono HBL3.out.size)); clear hb2))
              go_roundw
              case rel => exact ⟨s + 1, by omega, by go_num, fun j hj => by
                rcases Nat.lt_or_ge j s with h | h
                · exact HALL2.out j h
                · have : j = s := by omega
                  subst this; exact HT.out, HB2.out⟩
              case measure => simp [intOf]; omega
          · have hsM : s = M := by omega
            rw [hsM] at HALL2
            have HF := Lib.hid (HYES.out HALL.out HALL2.out)
            have HBX := Lib.hid (HBE.out.trans (hbl2.mono HBE.out.size))
            have hnlt2 : ¬ ((s : Int) < (M : Int)) := by omega
            clear hall2 hbl2 hsM
            go_wp2
            go_ret
            exact ⟨by rw [HF.out]; rfl, HBX.out⟩
set_option maxRecDepth 100000 in
set_option maxHeartbeats 2000000 in
theorem core_spec (B : SpecBlocked) : SpecCore := by
  intro v pv K bids q w hl hq h1 h6 hn1 hn6 ho hiq hq8
  have hck := checkP_off h1 h6 hn1 hn6 ho
  have HNW := Lib.hid (new_go v K bids w hl (by unfold I64; omega) (few_off h6 hn6 ho))
  have e1 : newR (K : Int) bids v = .agg #[.int .i64 ((2 ^ K - 1 : Nat) : Int), v] := by unfold newR; rw [if_pos hck, Int.toNat_natCast]
  rw [e1, hck] at HNW
  obtain ⟨qp, qc, rfl, hqlc, hqcm⟩ := hq.form
  by_cases hql : q.length = bids.length
  · have HC : Hid (∀ W, Below w.heap.size w W → Calls Tryd.prog 57 #[.agg #[.int .i64 ((2 ^ K - 1 : Nat) : Int), v], .slice qp q.length qc] W fun e w' => e = .returned (.bool (coreP K bids q)) ∧ Below W.heap.size W w') := fun W hb => isCore_go B v _ K bids q W (hl.below hb) (hq.below hb) h6 hn6 hn1 ho hql
    have HE : Hid (coreB K bids q = coreP K bids q ∧ coreE bids q = 0) := ⟨if_pos hql, if_pos hql⟩
    rw [HE.out.1, HE.out.2]
    obtain ⟨CP, hCP⟩ : ∃ CP, coreP K bids q = CP := ⟨_, rfl⟩
    rw [hCP] at HC ⊢
    rw [hql] at HC hqlc ⊢
    obtain ⟨p, cap, rfl, hlc, hcm⟩ := hl.form_
    obtain ⟨N, hN⟩ : ∃ N : Nat, 2 ^ K - 1 = N := ⟨_, rfl⟩
    rw [hN] at HNW HC
    clear hl hq ho hiq hck e1 hN hCP HE hql hq8
    go_enter Tryd.func23, Tryd.ntmps23
    go_wp2_with (first
      | (go_at_call 57; refine (HC.out _ HB1.out).mono ?_; rintro e w2 ⟨rfl, hb2⟩; have HB2 := Lib.hid (HB1.out.trans (hb2.mono HB1.out.size)); clear hb2)
      | (go_at_call 46; refine HNW.out.mono ?_; rintro e w1 ⟨rfl, hb1⟩; have HB1 := Lib.hid (hb1.alloc hb1.size (.cells #[.int .i64 (N : Int), .slice p bids.length cap] 73)); have hr1 := row_new 73 w1 #[.int .i64 (N : Int), .slice p bids.length cap]; have d0 := hr1.cell 0; have d1 := hr1.cell 1; simp only [List.getElem?_cons_zero, List.getElem?_cons_succ, List.getElem?_toArray] at d0 d1; clear hb1 hr1))
    go_ret2
    exact ⟨rfl, HB2.out⟩
  · have HE : Hid (coreB K bids q = false ∧ coreE bids q = 1) := ⟨if_neg hql, if_neg hql⟩
    rw [HE.out.1, HE.out.2]
    have hne : ((q.length : Int) != (bids.length : Int)) = true := by rw [bne_iff_ne]; omega
    obtain ⟨p, cap, rfl, hlc, hcm⟩ := hl.form_
    obtain ⟨N, hN⟩ : ∃ N : Nat, 2 ^ K - 1 = N := ⟨_, rfl⟩
    rw [hN] at HNW
    clear hl hq ho hiq hck e1 hN HE
    go_enter Tryd.func23, Tryd.ntmps23
    go_wp2_with (first | (go_at_call 46; refine HNW.out.mono ?_; rintro e w1 ⟨rfl, hb1⟩; have HB1 := Lib.hid (hb1.alloc hb1.size (.cells #[.int .i64 (N : Int), .slice p bids.length cap] 73)); clear hb1))
    go_ret2
    exact ⟨rfl, HB1.out⟩
end Go.Proofs.YthbfgmgpploneaaDoor
