/- The program's payments. -/
/- The program's Payments. -/
import Derived.Test.YtoenpecdhjadmaaDoorR12
import Derived.Test.YtoenpecdhjadmaaDoorR13
set_option linter.unusedVariables false
set_option linter.unusedSimpArgs false
set_option linter.unnecessarySimpa false
namespace Go.Proofs.YtoenpecdhjadmaaDoor
open Go.RowKit

theorem stays_of {ks : List Kd} (hM : ∀ (i : Nat) M, ks[i]? = some (.mem M) → ∀ v w w', M v w → Below w.heap.size w w' → M v w') (hF : ∀ (j b k T n : Nat), ks[j]? ≠ some (.fill b k T n)) : Stays ks :=
  ⟨fun i M v w w' hk h hb => hM i M hk v w w' h hb, fun i M v w w' j g b k T n xs hk hf => absurd hf (hF j b k T n)⟩
theorem Sl.drop {w : World} {b off n cap : Nat} {xs : List Value} (h : Sl w (.slice (some ⟨b, off, none⟩) n cap) xs) (k : Nat) (hk : k ≤ n) : Sl w (.slice (some ⟨b, off + k, none⟩) (n - k) (cap - k)) (xs.drop k) := by
  obtain ⟨p', cap', hv, hl, hm, hn, hp⟩ := h
  cases hv
  have e : (xs.drop k).length = xs.length - k := by simp
  refine ⟨some ⟨b, off + k, none⟩, cap - k, by rw [e], by rw [e]; omega, by omega, (fun h => by cases h), fun h0 => ?_⟩
  rw [e] at h0
  obtain ⟨b', off', h1, h2, h3⟩ := hp (by omega)
  cases h1
  refine ⟨b, off + k, rfl, h2, fun i hi => ?_⟩
  rw [e] at hi
  have := h3 (k + i) (by omega)
  rw [← Nat.add_assoc] at this
  rw [this, List.getElem?_drop]
theorem lists2 {w1 : World} {A B : Value} {xa xb : List Value} {T : Nat} (ha : Sl w1 A xa) (hb : Sl w1 B xb) : Lists (w1.alloc (.cells #[A, B] T)) (.slice (some ⟨w1.heap.size, 0, none⟩) 2 2) [xa, xb] := by
  have hbn := (Below.refl w1.heap.size w1).alloc (Nat.le_refl _) (.cells #[A, B] T)
  refine ⟨[A, B], rfl, Sl.of_row (xs := [A, B]) (more := []) (cap := 2) (row_new T w1 #[A, B]) (Nat.le_refl _) (by unfold maxLen; omega), fun j x hx => ?_⟩
  rcases j with _ | _ | j
  · cases hx; exact ha.below hbn
  · cases hx; exact hb.below hbn
  · simp at hx
theorem Sl.none_of_empty {w : World} {v : Value} {xs : List Value} (h : Sl w v xs) : v.oneCell' = true := h.one
theorem eraseIdx_cells {vs : List Value} {bids : List (List Int)} {w : World} {i : Nat} (hl : vs.length = bids.length) (hi : i < bids.length) (hr : ∀ j u, vs[j]? = some u → Sl w u (ints (bids.getD j []))) :
    ∀ j u, (vs.take i ++ vs.drop (i + 1))[j]? = some u → Sl w u (ints ((bids.eraseIdx i).getD j [])) := by
  intro j u hu
  rw [← List.eraseIdx_eq_take_drop_succ] at hu
  rw [List.getElem?_eraseIdx] at hu
  rw [List.getD_eq_getElem?_getD, List.getElem?_eraseIdx]
  split at hu
  · rename_i h
    rw [if_pos h, ← List.getD_eq_getElem?_getD]; exact hr j u hu
  · rename_i h
    rw [if_neg h, ← List.getD_eq_getElem?_getD]; exact hr (j + 1) u hu
theorem payP_take2 (m : Nat) (bids : List (List Int)) (k : Nat) (hk : k < bids.length) : (payP m bids).take (k + 1) = (payP m bids).take k ++ [payOf m bids k] := range_map_take _ _ _ hk
theorem pay_eq {m : Nat} {bids : List (List Int)} (hm : m ≤ 6) (h : Offers m bids) {i : Nat} (hi : i < bids.length) :
    payOf m bids i = aloneP m (bids.eraseIdx i) - (worthP m bids (2 ^ bids.length - 1) - (offP bids (bestP m bids)).getD i 0) := by
  unfold payOf
  rw [worthP_but hm h hi, othersTo_eq _ _ _ _ (by rw [bestP_len]; exact Nat.le_refl _), if_pos hi, ← best_worth h, offP_len, bestP_len, offP_get _ _ _ (by rw [bestP_len]; exact hi)]
theorem eraseIdx_offers {m : Nat} {bids : List (List Int)} (h : Offers m bids) (i : Nat) : Offers m (bids.eraseIdx i) := fun b hb => h b (List.mem_of_mem_eraseIdx hb)
set_option maxRecDepth 100000 in
set_option maxHeartbeats 4000000 in
theorem payments_go (v : Value) (m : Nat) (bids : List (List Int)) (w : World) (hl : Mat w v bids) (hm : m ≤ 6) (hn : bids.length ≤ 7) (hn1 : 1 ≤ bids.length) (ho : Offers m bids) :
    Calls Tryd.prog 50 #[.agg #[.int .i64 ((2 ^ m - 1 : Nat) : Int), v]] w fun e w' => ∃ v', e = .returned v' ∧ Own 2 w.heap.size w' v' (ints (payP m bids)) ∧ Below w.heap.size w w' := by
  obtain ⟨p, cap, rfl, hlc, hcm⟩ := hl.form_
  unfold maxLen at hcm
  have HL := Lib.hid hl
  have HO := Lib.hid ho
  have HMM := Lib.hid hm
  have hr0 := row_new 73 w #[.int .i64 ((2 ^ m - 1 : Nat) : Int), .slice p bids.length cap]
  have hb0 := (Below.refl w.heap.size w).alloc (Nat.le_refl _) (.cells #[.int .i64 ((2 ^ m - 1 : Nat) : Int), .slice p bids.length cap] 73)
  have HFIRST : Hid (∀ W, Below w.heap.size w W → Calls Tryd.prog 47 #[.agg #[.int .i64 ((2 ^ m - 1 : Nat) : Int), .slice p bids.length cap]] W fun e w' => ∃ v', e = .returned v' ∧ Sl w' v' (ints (bestP m bids)) ∧ Below W.heap.size W w') := fun W hb => (first_go _ m bids W (hl.below hb) hm hn hn1 ho).mono fun e w' ⟨v', h1, h2, h3⟩ => ⟨v', h1, h2.sl, h3⟩
  have HOFF : Hid (∀ W lv, Below w.heap.size w W → Sl W lv (ints (bestP m bids)) → Calls Tryd.prog 49 #[.agg #[.int .i64 ((2 ^ m - 1 : Nat) : Int), .slice p bids.length cap], lv] W fun e w' => ∃ v', e = .returned v' ∧ Sl w' v' (ints (offP bids (bestP m bids))) ∧ Below W.heap.size W w') := fun W lv hb hs => (offered_go _ _ lv bids _ W (hl.below hb) hs hn (best_deals ho)).mono fun e w' ⟨v', h1, h2, h3⟩ => ⟨v', h1, h2.sl, h3⟩
  have HSUM : Hid (∀ W lv, Sl W lv (ints (offP bids (bestP m bids))) → Calls Tryd.prog 48 #[lv] W fun e w' => e = .returned (.int .i64 (worthP m bids (2 ^ bids.length - 1))) ∧ W = w') := fun W lv hs => by
    rw [← best_worth ho]
    exact sum_go lv _ W hs (by rw [offP_len, bestP_len]; omega) (fun i => by have := offP_bd ho (bestP m bids) i; omega)
  have HALONE : Hid (∀ W bv i, Mat W bv (bids.eraseIdx i) → i < bids.length → Calls Tryd.prog 71 #[.agg #[.int .i64 ((2 ^ m - 1 : Nat) : Int), .slice p bids.length cap], bv] W fun e w' => e = .returned (.int .i64 (aloneP m (bids.eraseIdx i))) ∧ Below W.heap.size W w') := fun W bv i hb hi => alone_go _ bv m _ W ⟨_, _, _, rfl⟩ hb hm (by rw [List.length_eraseIdx]; split <;> omega) (eraseIdx_offers ho i)
  have HPAY : Hid (∀ i, i < bids.length → payOf m bids i = aloneP m (bids.eraseIdx i) - (worthP m bids (2 ^ bids.length - 1) - (offP bids (bestP m bids)).getD i 0)) := fun i hi => pay_eq hm ho hi
  have HBD : Hid (∀ i, (0 ≤ aloneP m (bids.eraseIdx i) ∧ aloneP m (bids.eraseIdx i) ≤ 7000000) ∧ 0 ≤ (offP bids (bestP m bids)).getD i 0 ∧ (offP bids (bestP m bids)).getD i 0 ≤ 1000000) := fun i => by
    refine ⟨?_, offP_bd ho _ i⟩
    have hlen : (bids.eraseIdx i).length ≤ 7 := by rw [List.length_eraseIdx]; split <;> omega
    have := upTo_bd (eraseIdx_offers ho i) (bids.eraseIdx i).length (Nat.le_refl _) (2 ^ m - 1)
    unfold aloneP
    omega
  have hwb := worthP_bd ho (2 ^ bids.length - 1)
  have HWB : Hid (0 ≤ worthP m bids (2 ^ bids.length - 1) ∧ worthP m bids (2 ^ bids.length - 1) ≤ 8000000) := ⟨hwb.1, by have := hwb.2; omega⟩
  have HOL : Hid ((offP bids (bestP m bids)).length = bids.length) := by show _ = _; rw [offP_len, bestP_len]
  obtain ⟨N, hN⟩ : ∃ N : Nat, 2 ^ m - 1 = N := ⟨_, rfl⟩
  rw [hN] at hr0 hb0 HFIRST HOFF HALONE ⊢
  obtain ⟨F, hF⟩ : ∃ F, offP bids (bestP m bids) = F := ⟨_, rfl⟩
  obtain ⟨S, hS⟩ : ∃ S, worthP m bids (2 ^ bids.length - 1) = S := ⟨_, rfl⟩
  rw [hF] at HOFF HSUM HPAY HBD HOL
  rw [hS] at HSUM HPAY HWB
  obtain ⟨GL, hG⟩ : ∃ GL, bestP m bids = GL := ⟨_, rfl⟩
  rw [hG] at HFIRST HOFF
  have HR0 := Lib.hid hr0
  have HB0 := Lib.hid hb0
  obtain ⟨W0, hW0⟩ : ∃ W0, w.alloc (.cells #[.int .i64 N, .slice p bids.length cap] 73) = W0 := ⟨_, rfl⟩
  rw [hW0] at HR0 HB0
  clear hl ho hm hr0 hb0 hN hF hS hG hwb
  go_enter Tryd.func50, Tryd.ntmps50
  go_wp2
  clear hW0
  refine wp_region_rel (by kernel_rfl) 45 rfl (by kernel_rfl) [.fix (.agg #[.int .i64 (N : Nat), .slice p bids.length cap]), .fix (.agg #[.int .i64 (N : Nat), .slice p bids.length cap]), .mem (fun u W => Sl W u (ints GL)), .mem (fun u W => Sl W u (ints F)), .mem (fun u W => Sl W u (ints F))] rfl (stays_of (fun i M hk v w w' h hb => by rcases i with _ | _ | _ | _ | _ | i <;> simp at hk <;> subst hk <;> exact Sl.below h hb) (fun j b k T n => by rcases j with _ | _ | _ | _ | _ | j <;> simp)) ?hop ?hQ
  case hop =>
    intro W hW j o hj vs w1 hb hV
    have hbw : Below W0.heap.size W0 w1 := by rw [hW] at hb; exact ((Below.refl W0.heap.size W0).drew).trans hb
    have d0 : w1.cell? ⟨w.heap.size, 0, none⟩ = some (.int .i64 (N : Nat)) := (HR0.out.below hbw HR0.out.lt).cell 0
    have d1 : w1.cell? ⟨w.heap.size, 1, none⟩ = some (.slice p bids.length cap) := (HR0.out.below hbw HR0.out.lt).cell 1
    clear hW hb
    have hj' : j < 5 := (List.getElem?_eq_some_iff.1 hj).1
    rcases (by omega : j = 0 ∨ j = 1 ∨ j = 2 ∨ j = 3 ∨ j = 4) with rfl | rfl | rfl | rfl | rfl
    · cases hj
      clear hj'
      refine .inl ⟨rfl, ?_⟩
      (try simp [predsR, Region.binds, Vk] at hV)
      simp only [putAll]
      generalize hR : Res _ _ vs w1 = R
      go_simp
      subst hR
      exact ⟨rfl, Below.refl _ _⟩
    · cases hj
      clear hj'
      refine .inl ⟨rfl, ?_⟩
      (try simp [predsR, Region.binds, Vk] at hV)
      simp only [putAll]
      generalize hR : Res _ _ vs w1 = R
      go_simp
      subst hR
      exact ⟨rfl, Below.refl _ _⟩
    · cases hj
      clear hj'
      refine .inl ⟨rfl, ?_⟩
      (try simp [predsR, Region.binds, Vk] at hV)
      simp only [putAll]
      generalize hR : Res _ _ vs w1 = R
      go_simp
      subst hR
      refine (HFIRST.out w1 (HB0.out.trans (hbw.mono HB0.out.size))).mono ?_
      rintro e w2 ⟨v2, rfl, hs2, hb2⟩
      exact ⟨_, rfl, hs2, hb2⟩
    · cases hj
      clear hj'
      refine .inl ⟨rfl, ?_⟩
      generalize hG : relUpon _ _ _ = G
      have q0 : vs 0 = _ := hV 0 (by decide)
      have hS : Sl w1 (vs 2) (ints GL) := hV 2 (by decide)
      clear hV
      subst hG
      simp only [putAll]
      generalize hR : Res _ _ vs w1 = R
      go_simp
      subst hR
      refine (HOFF.out w1 _ (HB0.out.trans (hbw.mono HB0.out.size)) hS).mono ?_
      rintro e w2 ⟨v2, rfl, hs2, hb2⟩
      exact ⟨_, rfl, hs2, hb2⟩
    · cases hj
      clear hj'
      refine .inl ⟨rfl, ?_⟩
      generalize hG : relUpon _ _ _ = G
      have hS : Sl w1 (vs 3) (ints F) := hV 3 (by decide)
      clear hV
      subst hG
      simp only [putAll]
      generalize hR : Res _ _ vs w1 = R
      go_simp
      subst hR
      exact ⟨hS, Below.refl _ _⟩
  case hQ =>
    intro W hW vs w1 hb hV hD
    have hbw : Below W0.heap.size W0 w1 := by rw [hW] at hb; exact ((Below.refl W0.heap.size W0).drew).trans hb
    have v0 : vs 0 = _ := hV 0 (by decide)
    have v1 : vs 1 = _ := hV 1 (by decide)
    have hS : Sl w1 (vs 4) (ints F) := hV 4 (by decide)
    have HR1 := Lib.hid (HR0.out.below hbw HR0.out.lt)
    have HB1 := Lib.hid (HB0.out.trans (hbw.mono HB0.out.size))
    simp only [putAll, v0, v1]
    obtain ⟨fv, hfv⟩ : ∃ fv, vs 4 = fv := ⟨_, rfl⟩
    rw [hfv] at hS ⊢
    obtain ⟨y2, hy2⟩ : ∃ y2, vs 2 = y2 := ⟨_, rfl⟩
    obtain ⟨y3, hy3⟩ : ∃ y3, vs 3 = y3 := ⟨_, rfl⟩
    rw [hy2, hy3]
    have HS := Lib.hid hS
    clear hV hD v0 v1 hb hbw hW hfv hy2 hy3 HR0 HB0 hS
    obtain ⟨fp, fc, rfl, hfl, hfm⟩ := HS.out.form
    rw [HOL.out] at hfl HS ⊢
    go_wp2_with (first | (go_at_call 48; refine (HSUM.out _ _ HS.out).mono ?_; rintro e w2 ⟨rfl, rfl⟩))
    obtain ⟨wb, hwb0⟩ : ∃ wb : World, wb = w1 := ⟨_, rfl⟩
    subst hwb0
    go_loopw [5, 17] (fun o i wr => ∃ k : Nat, k ≤ bids.length ∧ i = .int .i64 k ∧ Own 2 wb.heap.size wr o (ints ((payP m bids).take k)) ∧ Below wb.heap.size wb wr) (fun _ i _ => bids.length - (intOf i).toNat)
    case atStart => exact ⟨0, Nat.zero_le _, rfl, World.ownsRow_nil _ _ _ _, Below.refl _ _⟩
    case round =>
      obtain ⟨i, hi, rfl, hown, hbl⟩ := hrel
      have hr0 := HR1.out.below hbl HR1.out.lt
      have hfs := HS.out.below hbl
      have hb := HB1.out.trans (hbl.mono HB1.out.size)
      have HOWN := Lib.hid hown
      have HBL := Lib.hid hbl
      have HR0 := Lib.hid hr0
      have HB := Lib.hid hb
      by_cases hlt : i < bids.length
      · obtain ⟨b3, o3, c3, hv, _, _, _, hcf⟩ := hfs.int_at i (by rw [HOL.out]; exact hlt)
        rw [HOL.out] at hv
        cases hv
        obtain ⟨cs, hcl, hsl, hrows⟩ := HL.out.below hb
        obtain ⟨b1, o1, hpv⟩ : ∃ b1 o1, p = some ⟨b1, o1, none⟩ := by
          obtain ⟨b1, o1, _, _, hv, _⟩ := (HL.out.below hb).row_at i hlt
          cases hv; exact ⟨b1, o1, rfl⟩
        subst hpv
        have hsl0 : Sl wr (.slice (some ⟨b1, o1, none⟩) cs.length cap) cs := by rw [hcl]; exact hsl
        have HS1 : Hid (Sl wr (.slice (some ⟨b1, o1, none⟩) i cap) (cs.take i)) := hsl0.take i (by omega)
        have hs2 := hsl0.drop (i + 1) (by omega)
        rw [hcl] at hs2
        have hs2' : Sl wr (.slice (if cap = i + 1 then some ⟨b1, o1, none⟩ else some ⟨b1, o1 + (i + 1), none⟩) (bids.length - (i + 1)) (cap - (i + 1))) (cs.drop (i + 1)) := by
          by_cases hce : cap = i + 1
          · rw [if_pos hce]
            have e0 : cs.drop (i + 1) = [] := List.drop_eq_nil_of_le (by omega)
            rw [e0]
            have e1 : bids.length - (i + 1) = 0 := by omega
            rw [e1]
            exact ⟨_, _, rfl, Nat.zero_le _, by unfold maxLen; omega, (fun h => by cases h), fun h => absurd h (by simp)⟩
          · rw [if_neg hce]; exact hs2
        obtain ⟨P2, hP2⟩ : ∃ P2, (if cap = i + 1 then some (⟨b1, o1, none⟩ : Addr) else some ⟨b1, o1 + (i + 1), none⟩) = P2 := ⟨_, rfl⟩
        rw [hP2] at hs2'
        have HP2 := Lib.hid hP2
        have HS2 := Lib.hid hs2'
        clear hP2 hs2'
        have hfl2 : (cs.take i ++ cs.drop (i + 1)).length ≤ 7 := by simp; omega
        have hone : ∀ q ∈ [cs.take i, cs.drop (i + 1)], ∀ u ∈ q, u.oneCell' = true := by
          have hc : ∀ u ∈ cs, u.oneCell' = true := fun u hu => by
            obtain ⟨j, hj, rfl⟩ := List.mem_iff_getElem.1 hu
            exact (hrows j _ (List.getElem?_eq_getElem hj)).one
          intro q hq u hu
          rcases List.mem_cons.1 hq with rfl | hq
          · exact hc u (List.mem_of_mem_take hu)
          · rcases List.mem_cons.1 hq with rfl | hq
            · exact hc u (List.mem_of_mem_drop hu)
            · cases hq
        have HCAT : Hid (∀ w1, Below wr.heap.size wr w1 → ∀ u, Lists w1 u [cs.take i, cs.drop (i + 1)] → Calls Tryd.prog 70 #[u] w1 fun e w' => ∃ v', e = .returned v' ∧ Mat w' v' (bids.eraseIdx i) ∧ Below w1.heap.size w1 w') := fun w1 hbw u hu =>
          (concat_go u _ w1 hu (by simp) (by simp only [List.flatten_cons, List.flatten_nil, List.append_nil]; exact hfl2) hone).mono fun e w' ⟨v', he, hown, hb'⟩ => by
            simp only [List.flatten_cons, List.flatten_nil, List.append_nil] at hown
            refine ⟨v', he, ⟨cs.take i ++ cs.drop (i + 1), ?_, hown.sl, fun j x hx => ?_⟩, hb'⟩
            · rw [← List.eraseIdx_eq_take_drop_succ, List.length_eraseIdx, List.length_eraseIdx, hcl]
            · exact ((eraseIdx_cells hcl hlt hrows j x hx).below hbw).below hb'
        have HLIST : Hid (∀ w1, Below wr.heap.size wr w1 → Lists (w1.alloc (.cells #[.slice (some ⟨b1, o1, none⟩) i cap, .slice P2 (bids.length - (i + 1)) (cap - (i + 1))] 22)) (.slice (some ⟨w1.heap.size, 0, none⟩) 2 2) [cs.take i, cs.drop (i + 1)]) := fun w1 hbw => by
          exact lists2 (HS1.out.below hbw) (HS2.out.below hbw)
        have hPAY := HPAY.out i hlt
        have hbd := HBD.out i
        have hwb := HWB.out
        have HPTAKE := Lib.hid (payP_take2 m bids i hlt)
        obtain ⟨fi, hfi2⟩ : ∃ fi, F.getD i 0 = fi := ⟨_, rfl⟩
        rw [hfi2] at hcf hPAY hbd
        obtain ⟨ai, hai⟩ : ∃ ai, aloneP m (bids.eraseIdx i) = ai := ⟨_, rfl⟩
        have HAL : Hid (∀ W bv, Mat W bv (bids.eraseIdx i) → Calls Tryd.prog 71 #[.agg #[.int .i64 (N : Nat), .slice (some ⟨b1, o1, none⟩) bids.length cap], bv] W fun e w' => e = .returned (.int .i64 ai) ∧ Below W.heap.size W w') := fun W bv hbv => by
          rw [← hai]; exact HALONE.out W bv i hbv hlt
        rw [hai] at hPAY hbd
        have HPI := Lib.hid hPAY
        have hsub1 : IntKind.i64.wrap (S - fi) = S - fi := IntWalk.i64_in _ (by omega)
        have hsub2 : IntKind.i64.wrap (ai - (S - fi)) = ai - (S - fi) := IntWalk.i64_in _ (by omega)
        have hwi : IntKind.i64.wrap ((i : Int) + 1) = (i : Int) + 1 := IntWalk.i64_in _ (by omega)
        have hi1 : (i : Int) + 1 ≤ (bids.length : Int) := by omega
        have hi2 : (i : Int) ≤ (cap : Int) := by omega
        have hi3 : (bids.length : Int) ≤ (cap : Int) := by omega
        have hi0 : (0 : Int) ≤ (i : Int) + 1 := by omega
        have hnn : ((i : Int) + 1).toNat = i + 1 := by omega
        clear hown hr0 hfs hb hbl hsl hsl0 hs2 hone hrows hfl2 hfi2 hai hPAY hbd hwb HALONE
        go_wp2
        refine wp_region_rel (by kernel_rfl) 45 rfl (by kernel_rfl) [.fix (.pointer (some ⟨w.heap.size, 1, none⟩)), .fix (.slice (some ⟨b1, o1, none⟩) bids.length cap), .fix (.int .i64 i), .fix (.slice (some ⟨b1, o1, none⟩) i cap), .fix (.pointer (some ⟨w.heap.size, 1, none⟩)), .fix (.slice (some ⟨b1, o1, none⟩) bids.length cap), .fix (.int .i64 i), .fix (.int .i64 ((i : Int) + 1)), .fix (.slice P2 (bids.length - (i + 1)) (cap - (i + 1))), .mem (fun u W => Lists W u [cs.take i, cs.drop (i + 1)]), .mem (fun u W => Mat W u (bids.eraseIdx i)), .mem (fun u W => Mat W u (bids.eraseIdx i))] rfl (stays_of (fun i M hk v w w' h hb => by rcases i with _ | _ | _ | _ | _ | _ | _ | _ | _ | _ | _ | _ | i <;> simp at hk <;> subst hk <;> first | exact Lists.below h hb | exact Mat.below h hb) (fun j b k T n => by rcases j with _ | _ | _ | _ | _ | _ | _ | _ | _ | _ | _ | _ | j <;> simp)) ?hop ?hQ
        case hop =>
          intro W hW j o hj vs w1 hb hV
          have hbw : Below wr.heap.size wr w1 := by rw [hW] at hb; exact ((Below.refl wr.heap.size wr).drew).trans hb
          have d1 : w1.cell? ⟨w.heap.size, 1, none⟩ = some (.slice (some ⟨b1, o1, none⟩) bids.length cap) := (HR0.out.below hbw HR0.out.lt).cell 1
          clear hW hb
          have hj' : j < 12 := (List.getElem?_eq_some_iff.1 hj).1
          rcases (by omega : j = 0 ∨ j = 1 ∨ j = 2 ∨ j = 3 ∨ j = 4 ∨ j = 5 ∨ j = 6 ∨ j = 7 ∨ j = 8 ∨ j = 9 ∨ j = 10 ∨ j = 11) with rfl | rfl | rfl | rfl | rfl | rfl | rfl | rfl | rfl | rfl | rfl | rfl
          · cases hj
            clear hj'
            refine .inl ⟨rfl, ?_⟩
            (try simp [predsR, Region.binds, Vk] at hV)
            simp only [putAll]
            generalize hR : Res _ _ vs w1 = R
            go_simp
            subst hR
            exact ⟨rfl, Below.refl _ _⟩
          · cases hj
            clear hj'
            refine .inl ⟨rfl, ?_⟩
            (try simp [predsR, Region.binds, Vk] at hV)
            simp only [putAll]
            generalize hR : Res _ _ vs w1 = R
            go_simp
            subst hR
            exact ⟨rfl, Below.refl _ _⟩
          · cases hj
            clear hj'
            refine .inl ⟨rfl, ?_⟩
            (try simp [predsR, Region.binds, Vk] at hV)
            simp only [putAll]
            generalize hR : Res _ _ vs w1 = R
            go_simp
            subst hR
            exact ⟨rfl, Below.refl _ _⟩
          · cases hj
            clear hj'
            refine .inl ⟨rfl, ?_⟩
            (try simp [predsR, Region.binds, Vk] at hV)
            simp only [putAll]
            generalize hR : Res _ _ vs w1 = R
            go_simp
            subst hR
            exact ⟨rfl, Below.refl _ _⟩
          · cases hj
            clear hj'
            refine .inl ⟨rfl, ?_⟩
            (try simp [predsR, Region.binds, Vk] at hV)
            simp only [putAll]
            generalize hR : Res _ _ vs w1 = R
            go_simp
            subst hR
            exact ⟨rfl, Below.refl _ _⟩
          · cases hj
            clear hj'
            refine .inl ⟨rfl, ?_⟩
            (try simp [predsR, Region.binds, Vk] at hV)
            simp only [putAll]
            generalize hR : Res _ _ vs w1 = R
            go_simp
            subst hR
            exact ⟨rfl, Below.refl _ _⟩
          · cases hj
            clear hj'
            refine .inl ⟨rfl, ?_⟩
            (try simp [predsR, Region.binds, Vk] at hV)
            simp only [putAll]
            generalize hR : Res _ _ vs w1 = R
            go_simp
            subst hR
            exact ⟨rfl, Below.refl _ _⟩
          · cases hj
            clear hj'
            refine .inl ⟨rfl, ?_⟩
            (try simp [predsR, Region.binds, Vk] at hV)
            simp only [putAll]
            generalize hR : Res _ _ vs w1 = R
            go_simp
            subst hR
            exact ⟨rfl, Below.refl _ _⟩
          · cases hj
            clear hj'
            refine .inl ⟨rfl, ?_⟩
            (try simp [predsR, Region.binds, Vk] at hV)
            simp only [putAll]
            generalize hR : Res _ _ vs w1 = R
            go_simp
            subst hR
            exact ⟨by rw [HP2.out], Below.refl _ _⟩
          · cases hj
            clear hj'
            refine .inl ⟨rfl, ?_⟩
            (try simp [predsR, Region.binds, Vk] at hV)
            simp only [putAll]
            generalize hR : Res _ _ vs w1 = R
            go_simp
            subst hR
            exact ⟨HLIST.out w1 hbw, (Below.refl w1.heap.size w1).alloc (Nat.le_refl _) _⟩
          · cases hj
            clear hj'
            refine .inl ⟨rfl, ?_⟩
            generalize hG : relUpon _ _ _ = G
            have hS : Lists w1 (vs 9) [cs.take i, cs.drop (i + 1)] := hV 9 (by decide)
            clear hV
            subst hG
            simp only [putAll]
            generalize hR : Res _ _ vs w1 = R
            go_simp
            subst hR
            refine (HCAT.out w1 hbw _ hS).mono ?_
            rintro e w2 ⟨v2, rfl, hs2, hb2⟩
            exact ⟨_, rfl, hs2, hb2⟩
          · cases hj
            clear hj'
            refine .inl ⟨rfl, ?_⟩
            generalize hG : relUpon _ _ _ = G
            have hS : Mat w1 (vs 10) (bids.eraseIdx i) := hV 10 (by decide)
            clear hV
            subst hG
            simp only [putAll]
            generalize hR : Res _ _ vs w1 = R
            go_simp
            subst hR
            exact ⟨hS, Below.refl _ _⟩
        case hQ =>
          intro W hW vs w1 hb hV hD
          have hbw : Below wr.heap.size wr w1 := by rw [hW] at hb; exact ((Below.refl wr.heap.size wr).drew).trans hb
          have v0 : vs 0 = _ := hV 0 (by decide)
          have v1 : vs 1 = _ := hV 1 (by decide)
          have v2 : vs 2 = _ := hV 2 (by decide)
          have v3 : vs 3 = _ := hV 3 (by decide)
          have v4 : vs 4 = _ := hV 4 (by decide)
          have v5 : vs 5 = _ := hV 5 (by decide)
          have v6 : vs 6 = _ := hV 6 (by decide)
          have v7 : vs 7 = _ := hV 7 (by decide)
          have v8 : vs 8 = _ := hV 8 (by decide)
          have hM : Mat w1 (vs 11) (bids.eraseIdx i) := hV 11 (by decide)
          simp only [putAll, v0, v1, v2, v3, v4, v5, v6, v7, v8]
          obtain ⟨z9, hz9⟩ : ∃ z, vs 9 = z := ⟨_, rfl⟩
          obtain ⟨z10, hz10⟩ : ∃ z, vs 10 = z := ⟨_, rfl⟩
          obtain ⟨z11, hz11⟩ : ∃ z, vs 11 = z := ⟨_, rfl⟩
          rw [hz11] at hM
          rw [hz9, hz10, hz11]
          have HW := Lib.hid (HAL.out w1 z11 hM)
          have HOWN1 := Lib.hid (HOWN.out.below hbw (Nat.le_refl _))
          have hr1 := HR0.out.below hbw HR0.out.lt
          have c0 := hr1.cell 0
          have c1 := hr1.cell 1
          simp only [List.getElem?_cons_zero, List.getElem?_cons_succ] at c0 c1
          have HR1 := Lib.hid hr1
          have HBL1 := Lib.hid (HBL.out.trans (hbw.mono HBL.out.size))
          clear hV hD v0 v1 v2 v3 v4 v5 v6 v7 v8 hb hbw hW hz9 hz10 hz11 hM hr1
          go_wp2_with (first
            | (go_at_call 71; refine HW.out.mono ?_; rintro e w2 ⟨rfl, hb2⟩; have HOWN2 := Lib.hid (HOWN1.out.below hb2 (Nat.le_refl _)); have HR2 := Lib.hid (HR1.out.below hb2 HR1.out.lt); have HBL2 := Lib.hid (HBL1.out.trans (hb2.mono HBL1.out.size)); clear hb2)
            | (at_builtin; refine wpList_append_box w2 rfl (.tmp 33) (.tmp 41) 31 rfl 2 (.int .i64 0) 8 Tryd.underlying31 Tryd.info2 rfl (by omega) wb.heap.size u5 (ints ((payP m bids).take i)) rfl HOWN2.out (.int .i64 (ai - (S - fi))) rfl rfl ?a1 ?a2 ?_))
          case a1 => rw [ints_length, List.length_take]; omega
          case a2 => exact HBL2.out.size
          intro v' w' hown hbel hkeep
          have HOWN3 : Hid (Own 2 wb.heap.size w' v' (ints ((payP m bids).take (i + 1)))) := by
            rw [HPTAKE.out, HPI.out, ints_append]; exact hown
          have HBL3 := Lib.hid (HBL2.out.trans hbel)
          clear hown hbel hkeep
          go_wp2
          go_roundw
          case rel => exact ⟨i + 1, by omega, by go_num, HOWN3.out, HBL3.out⟩
          case measure => simp [intOf]; omega
      · obtain rfl : i = bids.length := by omega
        rw [List.take_of_length_le (by rw [payP_len]; exact Nat.le_refl _)] at hown
        have HOWN2 := Lib.hid (hown.base HB1.out.size)
        clear hown hr0 hfs hb hbl
        go_wp2
        go_ret
        exact ⟨_, rfl, HOWN2.out, HB.out⟩

set_option maxRecDepth 100000 in
set_option maxHeartbeats 2000000 in
theorem pay_spec : SpecPay := by
  intro v m bids w hl hm hf
  have hn7 := hf.1
  have HNW := Lib.hid (new_go v m bids w hl hm hf)
  by_cases hc : checkP m bids = 0
  · obtain ⟨h1, h6, hn1, hn6, ho⟩ := checkP_zero hc
    obtain ⟨K, rfl⟩ : ∃ K : Nat, m = (K : Int) := ⟨m.toNat, by omega⟩
    rw [Int.toNat_natCast] at ho
    have hK6 : K ≤ 6 := by omega
    have HB1 : Hid (payR (K : Int) bids = payP K bids) := by show _ = _; unfold payR; rw [if_pos hc, Int.toNat_natCast]
    have e1 : newR (K : Int) bids v = .agg #[.int .i64 ((2 ^ K - 1 : Nat) : Int), v] := by unfold newR; rw [if_pos hc, Int.toNat_natCast]
    rw [e1, hc] at HNW
    have HPAY : Hid (∀ W, Below w.heap.size w W → Calls Tryd.prog 50 #[.agg #[.int .i64 ((2 ^ K - 1 : Nat) : Int), v]] W fun e w' => ∃ v', e = .returned v' ∧ Own 2 W.heap.size w' v' (ints (payP K bids)) ∧ Below W.heap.size W w') := fun W hb => payments_go v K bids W (hl.below hb) hK6 hn7 hn1 ho
    obtain ⟨p, cap, rfl, hlc, hcm⟩ := hl.form_
    rw [hc]
    obtain ⟨N, hN⟩ : ∃ N : Nat, 2 ^ K - 1 = N := ⟨_, rfl⟩
    rw [hN] at HNW HPAY
    clear hl hm hf hc ho h1 h6 e1 hN
    go_enter Tryd.func18, Tryd.ntmps18
    go_wp2_with (first
      | (go_at_call 46; refine HNW.out.mono ?_; rintro e w1 ⟨rfl, hb1⟩; have HB1' := Lib.hid (hb1.alloc hb1.size (.cells #[.int .i64 (N : Int), .slice p bids.length cap] 73)); clear hb1)
      | (go_at_call 50; refine (HPAY.out _ HB1'.out).mono ?_; rintro e w2 ⟨v2, rfl, hown2, hb2⟩; have HS2 := Lib.hid hown2.sl; have HB2' := Lib.hid (HB1'.out.trans (hb2.mono HB1'.out.size)); clear hown2 hb2))
    go_ret2
    exact ⟨_, rfl, by rw [HB1.out]; exact HS2.out, HB2'.out⟩
  · have HNO := Lib.hid (payR_no hc)
    have e1 : newR m bids v = .agg #[.int .i64 0, .slice none 0 0] := by unfold newR; rw [if_neg hc]
    rw [e1] at HNW
    obtain ⟨c, hcc⟩ : ∃ c, checkP m bids = c := ⟨_, rfl⟩
    rw [hcc] at HNW hc ⊢
    have hne : (c != 0) = true := by rw [bne_iff_ne]; exact hc
    clear hl hm hf e1 hcc hc
    go_enter Tryd.func18, Tryd.ntmps18
    go_wp2_with (first
      | (go_at_call 46; refine HNW.out.mono ?_; rintro e w1 ⟨rfl, hb1⟩; have HB1 := Lib.hid hb1; clear hb1))
    go_ret2
    exact ⟨_, rfl, by rw [HNO.out]; exact Sl.nil _, HB1.out.alloc HB1.out.size _⟩
end Go.Proofs.YtoenpecdhjadmaaDoor
