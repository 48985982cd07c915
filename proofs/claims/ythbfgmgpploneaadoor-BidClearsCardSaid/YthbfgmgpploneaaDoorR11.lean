/- The program's first. -/
/- The program's Best. -/
import Derived.Test.YthbfgmgpploneaaDoorR9
import Derived.Test.YthbfgmgpploneaaDoorQR
set_option linter.unusedVariables false
set_option linter.unusedSimpArgs false
set_option linter.unnecessarySimpa false
namespace Go.Proofs.YthbfgmgpploneaaDoor
open Go.RowKit

/-- the best worths of the bidders from i on: n rows of sixty-four cells -/
structure Later (W : World) (g n i : Nat) (f : Nat → List Int) : Prop where
  lt : g < W.heap.size
  room : W.there g 0 (n * 64)
  seg : ∀ j, i ≤ j → j < n → W.rangeAt g (j * 64) (ints (pad64 (f j)))
theorem Later.below {W W' : World} {B g n i : Nat} {f : Nat → List Int} (h : Later W g n i f) (hb : Below B W W') (hg : g < B) : Later W' g n i f := by
  have hbl := hb.block g hg
  have hc : ∀ o, W'.cell? ⟨g, o, none⟩ = W.cell? ⟨g, o, none⟩ := fun o => hb.cell (p := ⟨g, o, none⟩) hg
  have hf : ∀ o, W'.frozen? ⟨g, o, none⟩ = W.frozen? ⟨g, o, none⟩ := fun o => by simp only [World.frozen?, hbl]
  refine ⟨Nat.lt_of_lt_of_le h.lt hb.size, fun j hj => ?_, fun j h1 h2 k v hv => ?_⟩
  · have := h.room j hj
    rw [hc, hf]; exact this
  · rw [hc]; exact h.seg j h1 h2 k v hv
theorem Later.tab {W : World} {g n i j : Nat} {f : Nat → List Int} (h : Later W g n i f) (h1 : i ≤ j) (h2 : j < n) : Tab W g (j * 64) (pad64 (f j)) :=
  ⟨pad64_len _, fun s hs => h.seg j h1 h2 s _ (ints_get _ _ (by rw [pad64_len]; exact hs))⟩
theorem setCells_size (b : Nat) : ∀ (vs : List Value) (o : Nat) (w : World), (w.setCells b o vs).heap.size = w.heap.size
  | [], _, _ => rfl
  | v :: r, o, w => by
    rw [World.setCells, setCells_size b r]
    simp
theorem below_setCells {B b : Nat} (hb : B ≤ b) : ∀ (vs : List Value) (o : Nat) {w w' : World}, Below B w w' → Below B w (w'.setCells b o vs)
  | [], _, _, _, h => h
  | v :: r, o, _, _, h => by
    rw [World.setCells]
    exact below_setCells hb r (o + 1) (h.setCell (p := ⟨b, o, none⟩) hb v)
theorem Row.setCells {T : TypeId} {g b : Nat} {xs : List Value} (hne : b ≠ g) : ∀ (vs : List Value) (o : Nat) {w : World}, Row T w g xs → Row T (w.setCells b o vs) g xs
  | [], _, _, h => h
  | v :: r, o, _, h => by
    rw [World.setCells]
    exact Row.setCells hne r (o + 1) (h.other _ hne v)
theorem Later.put {W : World} {g n i : Nat} {f : Nat → List Int} (h : Later W g n (i + 1) f) (hi : i < n) : Later (W.setCells g (i * 64) (ints (pad64 (f i)))) g n i f := by
  have hlen : (ints (pad64 (f i))).length = 64 := by rw [ints_length, pad64_len]
  have hth : W.there g (i * 64) (ints (pad64 (f i))).length := fun j hj => by
    rw [hlen] at hj
    have := h.room (i * 64 + j) (by omega)
    rw [Nat.zero_add] at this; exact this
  refine ⟨by rw [setCells_size]; exact h.lt, World.there_setCells h.room _ _ _, fun j h1 h2 => ?_⟩
  by_cases hj : j = i
  · subst hj; exact World.rangeAt_setCells_same W g (j * 64) _ hth
  · refine World.rangeAt_setCells_apart (h.seg j (by omega) h2) g (i * 64) _ (Or.inr (Or.inr ?_))
    rw [hlen]; omega
theorem zeros64_len : zeros64.length = 64 := by simp only [zeros64, List.length_replicate]
theorem zeros64_get (k : Nat) : zeros64.getD k 0 = 0 := by
  unfold zeros64
  rw [List.getD_eq_getElem?_getD, List.getElem?_replicate]; split <;> rfl
theorem madeCells_zeros (n o : Nat) (h : o < n) : (madeCells (Value.agg (ints zeros64).toArray).cells n).toList[o]? = some (.int .i64 0) := by
  unfold madeCells
  simp only [Array.toList_map, Array.toList_range, List.getElem?_map, List.getElem?_range h, Option.map_some]
  congr 1
  show (ints zeros64).toArray[o % (ints zeros64).toArray.size]! = _
  have hs : (ints zeros64).toArray.size = 64 := by decide
  rw [hs]
  have hlt : o % 64 < 64 := Nat.mod_lt _ (by omega)
  have key : ∀ k, k < 64 → (ints zeros64).toArray[k]! = .int .i64 0 := by
    intro k hk
    have e : (ints zeros64)[k]? = some (.int .i64 0) := by
      rw [ints_get _ _ (by rw [zeros64_len]; exact hk), zeros64_get]
    rw [getElem!_def]
    simp [e]
  exact key _ hlt
set_option maxRecDepth 100000 in
/-- 'make([]worths, n)' -/
theorem wpList_make_later {ops : Array Oper} {rest : List Oper} {o : Oper} {a : Act} {w : World} {Q : Exit → Act → World → Prop} (hg : o.guard = none) (l c : Operand) (hop : o.op = Op.makeSlice 93 l c)
    (kl kc : IntKind) (L C : Int) (n : Nat) (hl : a.eval l = .int kl L) (hc : a.eval c = .int kc C) (hL : L = (n : Int)) (hC : C = (n : Int)) (hn : n ≤ 1000) (f : Nat → List Int) (hf : ∀ j, n - 1 ≤ j → pad64 (f j) = zeros64)
    (hK : ∀ w', Later w' w.heap.size n (n - 1) f → Below w.heap.size w w' → wpList Tryd.prog ops Q rest (a.put o.dst (.slice (some ⟨w.heap.size, 0, none⟩) n n)) w') :
    wpList Tryd.prog ops Q (o :: rest) a w := by
  obtain ⟨i, hi, hz0, hz1, hz2⟩ := info_parts Tryd.info95
  refine wpList_make_full w hg l c 93 hop w.heap.size 95 i (.agg (ints zeros64).toArray) 64 Tryd.underlying93 hi hz0 hz1 kl kc L C n hl hc hL hC (by rw [hz2]; omega) (by unfold maxLen; omega) (Nat.le_refl _) ?_
  intro w' hown hgr
  obtain ⟨h1, h2⟩ := hown
  rcases h2 with ⟨h, _⟩ | ⟨g', cap, cur, hv, _, hh, hcap, _, hs, ht⟩
  · cases h
  · cases hv
    have hlt : w.heap.size < w'.heap.size := lt_of_block hh
    have hcell : ∀ o, o < n * 64 → w'.cell? ⟨w.heap.size, o, none⟩ = some (.int .i64 0) := fun o ho => by
      have e : w'.cell? ⟨w.heap.size, o, none⟩ = cur.toList[o]? := by simp [World.cell?, hh]
      rw [e]
      have := madeCells_zeros (n * 64) o ho
      rw [← ht, List.getElem?_take_of_lt ho] at this
      exact this
    have hb : Below w.heap.size w w' := (Below.refl w.heap.size w).grown hgr (Nat.le_refl _) (fun k hk => by cases hk)
    refine hK w' ⟨hlt, fun j hj => ?_, fun j h1 h2 k v hv => ?_⟩ hb
    · rw [Nat.zero_add, hcell j (by omega)]
      exact ⟨rfl, by simp [World.frozen?, hh]⟩
    · rw [hf j h1] at hv
      have hk : k < 64 := by have := (List.getElem?_eq_some_iff.1 hv).1; rw [ints_length, zeros64_len] at this; exact this
      rw [ints_get _ _ (by rw [zeros64_len]; exact hk)] at hv
      rw [hcell (j * 64 + k) (by omega), ← hv]
      rw [zeros64_get]
theorem field_bundle (k l : IntKind) (x y : Int) (w : World) : (Instr.field 98 (.agg #[.int k x, .int l y]) 1).run Tryd.prog w = .ok (.int l y) w := by
  simp [Instr.field, part, asAgg, go_sem]
theorem tk_all (m : Nat) (bids : List (List Int)) (k : Nat) (hk : k < bids.length) : tk m bids (2 ^ bids.length - 1) k = rowT m (bids.getD k []) (tk m bids (2 ^ bids.length - 1) (k + 1)) true := by
  rw [tk_step _ _ _ _ hk, bt_ones _ _ hk]
theorem takeP_pick {m : Nat} {bids : List (List Int)} {k : Nat} (hm : m ≤ 6) (hk : k < bids.length) : (takeP (bids.getD k []) (pad64 (tk m bids (2 ^ bids.length - 1) (k + 1))) (leftAt m bids k)).2 = pick m bids k := by
  have hM := pow_le64 hm
  have hl := leftAt_lt m bids k
  have hg : ∀ u, u < 64 → (pad64 (tk m bids (2 ^ bids.length - 1) (k + 1))).getD u 0 = (tk m bids (2 ^ bids.length - 1) (k + 1)).getD u 0 := fun u hu => pad64_get _ u hu
  show firstSub _ _ (bestTo _ _ true _ _) _ = firstSub _ _ _ _
  rw [bestTo_congr hg (by omega), tk_all _ _ _ hk, rowT_get _ _ _ _ _ hl]
  have hh : ∀ v, hits (bids.getD k []) (pad64 (tk m bids (2 ^ bids.length - 1) (k + 1))) v (leftAt m bids k) = hits (bids.getD k []) (tk m bids (2 ^ bids.length - 1) (k + 1)) v (leftAt m bids k) := fun v => by
    funext s
    unfold hits
    have := sans_le (leftAt m bids k) s
    rw [hg _ (by omega)]
  unfold firstSub
  rw [hh]
theorem pad64_end (m : Nat) (bids : List (List Int)) (who j : Nat) (hj : bids.length - 1 ≤ j) (hm : m ≤ 6) : pad64 (tk m bids who (j + 1)) = zeros64 := by
  have hM := pow_le64 hm
  have e : tk m bids who (j + 1) = List.replicate (2 ^ m) 0 := by
    unfold tk; rw [List.drop_of_length_le (by omega)]; rfl
  rw [e]
  unfold pad64 zeros64
  apply List.ext_getElem
  · simp
  · intro s h1 h2
    simp only [List.getElem_map, List.getElem_range, List.getElem_replicate]
    rw [List.getD_eq_getElem?_getD, List.getElem?_replicate]; split <;> rfl
set_option maxRecDepth 100000 in
set_option maxHeartbeats 4000000 in
theorem first_go (v : Value) (m : Nat) (bids : List (List Int)) (w : World) (hl : Mat w v bids) (hm : m ≤ 6) (hn : bids.length ≤ 7) (hn1 : 1 ≤ bids.length) (ho : Offers m bids) :
    Calls Tryd.prog 47 #[.agg #[.int .i64 ((2 ^ m - 1 : Nat) : Int), v]] w fun e w' => ∃ v', e = .returned v' ∧ Own 3 w.heap.size w' v' (ints (bestP m bids)) ∧ Below w.heap.size w w' := by
  obtain ⟨p, cap, rfl, hlc, hcm⟩ := hl.form_
  unfold maxLen at hcm
  have hM64 := pow_le64 hm
  have HL := Lib.hid hl
  have HO := Lib.hid ho
  have HMM := Lib.hid hm
  have hr0 := row_new 73 w #[.int .i64 ((2 ^ m - 1 : Nat) : Int), .slice p bids.length cap]
  have hb0 := (Below.refl w.heap.size w).alloc (Nat.le_refl _) (.cells #[.int .i64 ((2 ^ m - 1 : Nat) : Int), .slice p bids.length cap] 73)
  obtain ⟨N, hN⟩ : ∃ N : Nat, 2 ^ m - 1 = N := ⟨_, rfl⟩
  rw [hN] at hr0 hb0 ⊢
  have HNN := Lib.hid hN
  have HR0 := Lib.hid hr0
  have HB0 := Lib.hid hb0
  have hsz : (w.alloc (.cells #[.int .i64 N, .slice p bids.length cap] 73)).heap.size = w.heap.size + 1 := by simp
  have HPE : Hid (∀ j, bids.length - 1 ≤ j → pad64 (tk m bids (2 ^ bids.length - 1) (j + 1)) = zeros64) := fun j hj => pad64_end m bids _ j hj hm
  clear hl ho hm hr0 hb0 hN
  go_enter Tryd.func47, Tryd.ntmps47
  go_wp2_with (first | (at_make; refine wpList_make_later rfl _ _ rfl .i64 .i64 _ _ bids.length rfl rfl ?e1 ?e2 ?e3 (fun j => tk m bids (2 ^ bids.length - 1) (j + 1)) HPE.out ?_))
  case e1 => rfl
  case e2 => rfl
  case e3 => omega
  intro w1 hlater hb1
  have HLATER := Lib.hid hlater
  have HR1 := Lib.hid (HR0.out.below hb1 (Nat.lt_succ_self _))
  have HB1 := Lib.hid (HB0.out.trans (hb1.mono (Nat.le_succ _)))
  clear hlater hb1 HR0 HB0
  have h0 := HR1.out.cell 0
  have h1 := HR1.out.cell 1
  simp only [List.getElem?_cons_zero, List.getElem?_cons_succ] at h0 h1
  go_wp2
  go_loopw [4] (fun i wr => ∃ i' : Nat, i' ≤ bids.length - 1 ∧ i = .int .i64 i' ∧ Later wr (w.heap.size + 1) bids.length i' (fun j => tk m bids (2 ^ bids.length - 1) (j + 1)) ∧ Row 73 wr w.heap.size [.int .i64 N, .slice p bids.length cap] ∧ Below w.heap.size w wr) (fun i _ => (intOf i).toNat)
  case atStart => exact ⟨bids.length - 1, Nat.le_refl _, by go_num, HLATER.out, HR1.out, HB1.out⟩
  case round =>
    clear HLATER HR1 HB1 h0 h1
    obtain ⟨i, hi, rfl, hlater, hr0, hb⟩ := hrel
    have HLATER := Lib.hid hlater
    have HR0 := Lib.hid hr0
    have HB := Lib.hid hb
    by_cases hpos : 0 < i
    · have hib : i < bids.length := by omega
      obtain ⟨b1, o1, c1, u, hv, _, _, hbl, hcu, hsu⟩ := (HL.out.below hb).row_at i hib
      cases hv
      obtain ⟨up, uc, rfl, hulc, hucm⟩ := hsu.form
      have HBL := Lib.hid hbl
      have HCU := Lib.hid hcu
      have HW : Hid (∀ w1, Below wr.heap.size wr w1 → Calls Tryd.prog 68 #[.pointer (some ⟨w.heap.size + 1, i * 64, none⟩), .slice up (bids.getD i []).length uc] w1 fun e w' => e = .returned (.agg (ints (pad64 (tk m bids (2 ^ bids.length - 1) i))).toArray) ∧ Below w1.heap.size w1 w') := fun w1 hbw => by
        rw [tk_all _ _ _ hib]
        have hof := HO.out.at_ hib
        have hbd := tk_bounds HO.out (2 ^ bids.length - 1) (bids.length - (i + 1)) (i + 1) (by omega)
        exact with_go _ m (bids.getD i []) (tk m bids (2 ^ bids.length - 1) (i + 1)) (w.heap.size + 1) (i * 64) w1 (hsu.below hbw) ((hlater.below hbw hlater.lt).tab (Nat.le_refl _) hib) HMM.out (offerB_len hof) (offerB_at hof) (fun s => ⟨(hbd s).1, by have := (hbd s).2; omega⟩)
      obtain ⟨r, hr⟩ : ∃ r, (bids.getD i []).length = r := ⟨_, rfl⟩
      rw [hr] at hcu hulc HW HCU
      have e2 : i - 1 + 1 = i := by omega
      have hwr : IntKind.i64.wrap ((i : Int) - 1) = (i : Int) - 1 := IntWalk.i64_in _ (by omega)
      have hge1 : (1 : Int) ≤ (i : Int) := by omega
      have hlt1 : (i : Int) - 1 < (bids.length : Int) := by omega
      obtain ⟨l2, hl2⟩ : ∃ l2, pad64 (tk m bids (2 ^ bids.length - 1) i) = l2 := ⟨_, rfl⟩
      have hll2 : (ints l2).length = 64 := by rw [ints_length, ← hl2, pad64_len]
      rw [hl2] at HW
      have HPL : Hid (pad64 (tk m bids (2 ^ bids.length - 1) (i - 1 + 1)) = l2) := by show _ = _; rw [e2]; exact hl2
      have HONE := Lib.hid (one_ints l2)
      have hi1 : (Tryd.prog.info? 95).map (·.size) = some (ints l2).toArray.size := by rw [info_size Tryd.info95]; simp [hll2]
      have HI1 := Lib.hid hi1
      have HLL := Lib.hid hll2
      clear hlater hr0 hb hbl hcu hsu hr hl2 hll2 hi1 e2
      go_wp2
      refine wp_region_rel_tail (by kernel_rfl) 13 61 rfl (by kernel_rfl) (by kernel_rfl) [.fix (.slice (some ⟨w.heap.size + 1, 0, none⟩) bids.length bids.length), .fix (.int .i64 i), .fix (.int .i64 ((i : Int) - 1)), .fix (.slice (some ⟨w.heap.size + 1, 0, none⟩) bids.length bids.length), .fix (.int .i64 i), .fix (.pointer (some ⟨w.heap.size + 1, i * 64, none⟩)), .fix (.pointer (some ⟨w.heap.size, 1, none⟩)), .fix (.slice (some ⟨b1, o1, none⟩) bids.length cap), .fix (.int .i64 i), .fix (.pointer (some ⟨b1, o1 + i, none⟩)), .fix (.slice up r uc), .fix (.agg (ints l2).toArray), .fix (.pointer (some ⟨w.heap.size + 1, (i - 1) * 64, none⟩))] rfl (stays_fix rfl) ?hop ?hQ
      case hop =>
        intro W hW j o hj vs w1 hb hV
        have hbw : Below wr.heap.size wr w1 := by rw [hW] at hb; exact ((Below.refl wr.heap.size wr).drew).trans hb
        have d1 : w1.cell? ⟨w.heap.size, 1, none⟩ = some (.slice (some ⟨b1, o1, none⟩) bids.length cap) := (HR0.out.below hbw HR0.out.lt).cell 1
        have d2 : w1.cell? ⟨b1, o1 + i, none⟩ = some (.slice up r uc) := (hbw.cell (p := ⟨b1, o1 + i, none⟩) HBL.out).trans HCU.out
        clear hW hb
        simp only [List.take_succ_cons, List.take_zero] at hj
        have hj' : j < 13 := (List.getElem?_eq_some_iff.1 hj).1
        rcases (by omega : j = 0 ∨ j = 1 ∨ j = 2 ∨ j = 3 ∨ j = 4 ∨ j = 5 ∨ j = 6 ∨ j = 7 ∨ j = 8 ∨ j = 9 ∨ j = 10 ∨ j = 11 ∨ j = 12) with rfl | rfl | rfl | rfl | rfl | rfl | rfl | rfl | rfl | rfl | rfl | rfl | rfl
        · cases hj
          clear hj'
          refine .inl ⟨rfl, ?_⟩
          simp only [List.take_succ_cons, List.take_zero]
          (try simp [predsR, Region.binds, Vk] at hV)
          simp only [putAll]
          generalize hR : Res _ _ vs w1 = R
          go_simp
          subst hR
          exact ⟨rfl, Below.refl _ _⟩
        · cases hj
          clear hj'
          refine .inl ⟨rfl, ?_⟩
          simp only [List.take_succ_cons, List.take_zero]
          (try simp [predsR, Region.binds, Vk] at hV)
          simp only [putAll]
          generalize hR : Res _ _ vs w1 = R
          go_simp
          subst hR
          exact ⟨rfl, Below.refl _ _⟩
        · cases hj
          clear hj'
          refine .inl ⟨rfl, ?_⟩
          simp only [List.take_succ_cons, List.take_zero]
          (try simp [predsR, Region.binds, Vk] at hV)
          simp only [putAll]
          generalize hR : Res _ _ vs w1 = R
          go_simp
          subst hR
          exact ⟨rfl, Below.refl _ _⟩
        · cases hj
          clear hj'
          refine .inl ⟨rfl, ?_⟩
          simp only [List.take_succ_cons, List.take_zero]
          (try simp [predsR, Region.binds, Vk] at hV)
          simp only [putAll]
          generalize hR : Res _ _ vs w1 = R
          go_simp
          subst hR
          exact ⟨rfl, Below.refl _ _⟩
        · cases hj
          clear hj'
          refine .inl ⟨rfl, ?_⟩
          simp only [List.take_succ_cons, List.take_zero]
          (try simp [predsR, Region.binds, Vk] at hV)
          simp only [putAll]
          generalize hR : Res _ _ vs w1 = R
          go_simp
          subst hR
          exact ⟨rfl, Below.refl _ _⟩
        · cases hj
          clear hj'
          refine .inl ⟨rfl, ?_⟩
          simp only [List.take_succ_cons, List.take_zero]
          (try simp [predsR, Region.binds, Vk] at hV)
          simp only [putAll]
          generalize hR : Res _ _ vs w1 = R
          go_simp
          subst hR
          exact ⟨rfl, Below.refl _ _⟩
        · cases hj
          clear hj'
          refine .inl ⟨rfl, ?_⟩
          simp only [List.take_succ_cons, List.take_zero]
          (try simp [predsR, Region.binds, Vk] at hV)
          simp only [putAll]
          generalize hR : Res _ _ vs w1 = R
          go_simp
          subst hR
          exact ⟨rfl, Below.refl _ _⟩
        · cases hj
          clear hj'
          refine .inl ⟨rfl, ?_⟩
          simp only [List.take_succ_cons, List.take_zero]
          (try simp [predsR, Region.binds, Vk] at hV)
          simp only [putAll]
          generalize hR : Res _ _ vs w1 = R
          go_simp
          subst hR
          exact ⟨rfl, Below.refl _ _⟩
        · cases hj
          clear hj'
          refine .inl ⟨rfl, ?_⟩
          simp only [List.take_succ_cons, List.take_zero]
          (try simp [predsR, Region.binds, Vk] at hV)
          simp only [putAll]
          generalize hR : Res _ _ vs w1 = R
          go_simp
          subst hR
          exact ⟨rfl, Below.refl _ _⟩
        · cases hj
          clear hj'
          refine .inl ⟨rfl, ?_⟩
          simp only [List.take_succ_cons, List.take_zero]
          (try simp [predsR, Region.binds, Vk] at hV)
          simp only [putAll]
          generalize hR : Res _ _ vs w1 = R
          go_simp
          subst hR
          exact ⟨rfl, Below.refl _ _⟩
        · cases hj
          clear hj'
          refine .inl ⟨rfl, ?_⟩
          simp only [List.take_succ_cons, List.take_zero]
          (try simp [predsR, Region.binds, Vk] at hV)
          simp only [putAll]
          generalize hR : Res _ _ vs w1 = R
          go_simp
          subst hR
          exact ⟨rfl, Below.refl _ _⟩
        · cases hj
          clear hj'
          refine .inl ⟨rfl, ?_⟩
          simp only [List.take_succ_cons, List.take_zero]
          (try simp [predsR, Region.binds, Vk] at hV)
          simp only [putAll]
          generalize hR : Res _ _ vs w1 = R
          go_simp
          subst hR
          refine (HW.out w1 hbw).mono ?_
          rintro e w2 ⟨rfl, hb⟩
          exact ⟨_, rfl, rfl, hb⟩
        · cases hj
          clear hj'
          refine .inl ⟨rfl, ?_⟩
          simp only [List.take_succ_cons, List.take_zero]
          (try simp [predsR, Region.binds, Vk] at hV)
          simp only [putAll]
          generalize hR : Res _ _ vs w1 = R
          go_simp
          subst hR
          exact ⟨rfl, Below.refl _ _⟩
      case hQ =>
        intro W hW vs w1 hb hV hD
        have hbw : Below wr.heap.size wr w1 := by rw [hW] at hb; exact ((Below.refl wr.heap.size wr).drew).trans hb
        have v0 : vs 0 = _ := hV 0 (by decide)
        have v1 : vs 1 = _ := hV 1 (by decide)
        have v2 : vs 2 = _ := hV 2 (by decide)
        have v3 : vs 3 = _ := hV 3 (by decide)
        have v4 : vs 4 = _ := hV 4 (by decide)
        have v5 : vs 5 = _ := hV 5 (by decide)
        have v6 : vs 6 = _ := hV 6 (by decide)
        have v7 : vs 7 = _ := hV 7 (by decide)
        have v8 : vs 8 = _ := hV 8 (by decide)
        have v9 : vs 9 = _ := hV 9 (by decide)
        have v10 : vs 10 = _ := hV 10 (by decide)
        have v11 : vs 11 = _ := hV 11 (by decide)
        have v12 : vs 12 = _ := hV 12 (by decide)
        simp only [List.take_succ_cons, List.take_zero, List.drop_succ_cons, List.drop_zero, putAll, v0, v1, v2, v3, v4, v5, v6, v7, v8, v9, v10, v11, v12]
        clear hV hD v0 v1 v2 v3 v4 v5 v6 v7 v8 v9 v10 v11 v12
        have HLB := Lib.hid (HLATER.out.below hbw HLATER.out.lt)
        have HR0b := Lib.hid (HR0.out.below hbw HR0.out.lt)
        have HBb := Lib.hid (HB.out.trans (hbw.mono HB.out.size))
        have hth : w1.there (w.heap.size + 1) ((i - 1) * 64) (ints l2).toArray.size := by
          intro j hj
          have hj64 : j < 64 := by simp [HLL.out] at hj; omega
          have := HLB.out.room ((i - 1) * 64 + j) (by omega)
          rw [Nat.zero_add] at this; exact this
        have hput : Later (w1.setCells (w.heap.size + 1) ((i - 1) * 64) (ints l2)) (w.heap.size + 1) bids.length (i - 1) (fun j => tk m bids (2 ^ bids.length - 1) (j + 1)) := by
          have hl : Later w1 (w.heap.size + 1) bids.length (i - 1 + 1) (fun j => tk m bids (2 ^ bids.length - 1) (j + 1)) := by
            have e : i - 1 + 1 = i := by omega
            rw [e]; exact HLB.out
          have := hl.put (by omega)
          have e2 : pad64 (tk m bids (2 ^ bids.length - 1) (i - 1 + 1)) = l2 := HPL.out
          rw [e2] at this; exact this
        have HPUT := Lib.hid hput
        have HTH := Lib.hid hth
        have HR0c := Lib.hid (HR0b.out.setCells (b := w.heap.size + 1) (by omega) (ints l2) ((i - 1) * 64))
        have HBc := Lib.hid (below_setCells (by omega : w.heap.size ≤ w.heap.size + 1) (ints l2) ((i - 1) * 64) HBb.out)
        clear hth hput hbw hb hW
        go_wp2_with (first | (refine wpList_store_mid rfl 95 (.tmp 34) (.tmp 33) rfl (w.heap.size + 1) ((i - 1) * 64) (ints l2).toArray ?hx ?hy HTH.out HI1.out HONE.out ?_))
        case hx => go_simp
        case hy => go_simp
        go_wp2
        go_roundw
        case rel => exact ⟨i - 1, by omega, by go_num, HPUT.out, HR0c.out, HBc.out⟩
        case measure => simp [intOf]; omega
    · have hi0 : i = 0 := by omega
      rw [hi0] at HLATER
      have hd0 : decide ((0 : Int) < (i : Int)) = false := by rw [decide_eq_false_iff_not]; omega
      have hd1 : ¬ ((0 : Int) < (i : Int)) := by omega
      clear hi0 hpos hi
      have h0 := hr0.cell 0
      have h1 := hr0.cell 1
      simp only [List.getElem?_cons_zero, List.getElem?_cons_succ] at h0 h1
      obtain ⟨wo, hwo⟩ : ∃ wo : World, wo = wr := ⟨_, rfl⟩
      subst hwo
      clear hlater hr0 hb
      have HL0 : Hid (leftAt m bids 0 = N) := HNN.out
      go_wp2
      go_loopw [5, 6, 40] (fun o l i wr => ∃ k : Nat, k ≤ bids.length ∧ i = .int .i64 k ∧ l = .int .i64 (leftAt m bids k) ∧ Own 3 (w.heap.size + 2) wr o (ints ((bestP m bids).take k)) ∧ Later wr (w.heap.size + 1) bids.length 0 (fun j => tk m bids (2 ^ bids.length - 1) (j + 1)) ∧ Row 73 wr w.heap.size [.int .i64 N, .slice p bids.length cap] ∧ Below w.heap.size w wr) (fun _ _ i _ => bids.length - (intOf i).toNat)
      case atStart => exact ⟨0, Nat.zero_le _, rfl, by rw [HL0.out], World.ownsRow_nil _ _ _ _, HLATER.out, HR0.out, HB.out⟩
      case round =>
        clear HLATER HR0 HB h0 h1
        obtain ⟨k, hk, rfl, rfl, hown, hlater, hr0, hb⟩ := hrel
        have HOWN := Lib.hid hown
        have HLATER := Lib.hid hlater
        have HR0 := Lib.hid hr0
        have HB := Lib.hid hb
        by_cases hlt : k < bids.length
        · obtain ⟨b1, o1, c1, u, hv, _, _, hbl, hcu, hsu⟩ := (HL.out.below hb).row_at k hlt
          cases hv
          obtain ⟨up, uc, rfl, hulc, hucm⟩ := hsu.form
          have hof := HO.out.at_ hlt
          have hbd := tk_bounds HO.out (2 ^ bids.length - 1) (bids.length - (k + 1)) (k + 1) (by omega)
          have hleft := leftAt_lt m bids k
          have hlen := offerB_len hof
          have HT := Lib.hid (take_go _ (bids.getD k []) (pad64 (tk m bids (2 ^ bids.length - 1) (k + 1))) (w.heap.size + 1) (k * 64) (leftAt m bids k) wr hsu (hlater.tab (Nat.zero_le _) hlt) (by omega) (by omega) (offerB_at hof) (pad64_bd (by omega) (fun s => ⟨(hbd s).1, by have := (hbd s).2; omega⟩)))
          rw [takeP_pick HMM.out hlt] at HT
          have hsub := pick_sub HO.out hlt
          have hpl := pick_lt HO.out hlt
          have HTAKE := Lib.hid (bestP_take m bids k hlt)
          have HNEXT := Lib.hid (leftAt_succ m bids k)
          have han := i64_andNot (leftAt m bids k) (pick m bids k) (by omega) (by omega)
          obtain ⟨r, hr⟩ : ∃ r, (bids.getD k []).length = r := ⟨_, rfl⟩
          rw [hr] at hcu hulc HT
          obtain ⟨L, hL⟩ : ∃ L, leftAt m bids k = L := ⟨_, rfl⟩
          obtain ⟨q, hq⟩ : ∃ q, pick m bids k = q := ⟨_, rfl⟩
          obtain ⟨x1, hx1⟩ : ∃ x1, (takeP (bids.getD k []) (pad64 (tk m bids (2 ^ bids.length - 1) (k + 1))) (leftAt m bids k)).1 = x1 := ⟨_, rfl⟩
          rw [hx1] at HT
          rw [hL] at hleft HT HNEXT han ⊢
          rw [hq] at HT HTAKE HNEXT han
          obtain ⟨L2, hL2⟩ : ∃ L2, sans L q = L2 := ⟨_, rfl⟩
          rw [hL2] at HNEXT han
          have hkb : (k : Int) < (bids.length : Int) := by omega
          clear hown hlater hr0 hb hbl hsu hof hbd hlen hr hL hq hx1 hL2 hsub hpl
          go_wp2_with (first
            | (go_at_call 69; refine HT.out.mono ?_; rintro e w1 ⟨rfl, hb1⟩; have HOWN1 := Lib.hid (HOWN.out.below hb1 (Nat.le_refl _)); have HLB := Lib.hid (HLATER.out.below hb1 HLATER.out.lt); have HR1 := Lib.hid (HR0.out.below hb1 HR0.out.lt); have HB1 := Lib.hid (HB.out.trans (hb1.mono HB.out.size)); clear hb1)
            | (refine wpList_field rfl 98 _ 1 rfl _ rfl _ (field_bundle _ _ _ _ _) ?_)
            | (at_builtin; refine wpList_append_box w1 rfl (.tmp 52) (.tmp 54) 28 rfl 3 (.int .i64 0) 8 Tryd.underlying28 Tryd.info3 rfl (by omega) (w.heap.size + 2) u5 (ints ((bestP m bids).take k)) rfl HOWN1.out (.int .i64 (q : Int)) rfl rfl ?a1 ?a2 ?_))
          case a1 => rw [ints_length, List.length_take]; omega
          case a2 => exact HLB.out.lt
          intro v' w' hown hbel hkeep
          have HOWN2 : Hid (Own 3 (w.heap.size + 2) w' v' (ints ((bestP m bids).take (k + 1)))) := by
            rw [HTAKE.out, ints_append]; exact hown
          have HL2 := Lib.hid (HLB.out.below hbel (Nat.lt_succ_self _))
          have HR2 := Lib.hid (HR1.out.below hbel (by omega))
          have HB2 := Lib.hid (HB1.out.trans (hbel.mono (by omega)))
          clear hown hbel hkeep
          go_wp2
          go_roundw
          case rel => exact ⟨k + 1, by omega, by go_num, by rw [HNEXT.out], HOWN2.out, HL2.out, HR2.out, HB2.out⟩
          case measure => simp [intOf]; omega
        · obtain rfl : k = bids.length := by omega
          rw [List.take_of_length_le (by rw [bestP_len]; exact Nat.le_refl _)] at hown
          have HOWN2 := Lib.hid (hown.base (by omega : w.heap.size ≤ w.heap.size + 2))
          clear hown hlater hr0 hb
          go_wp2
          go_ret
          exact ⟨_, rfl, HOWN2.out, HB.out⟩

/-- the worth of the first best allocation is the best worth -/
theorem best_sum {m : Nat} {bids : List (List Int)} (h : Offers m bids) (k : Nat) (hk : k ≤ bids.length) :
    addTo (offP bids (bestP m bids)) k + (tk m bids (2 ^ bids.length - 1) k).getD (leftAt m bids k) 0 = worthP m bids (2 ^ bids.length - 1) := by
  induction k with
  | zero => show 0 + _ = _; rw [Int.zero_add]; rfl
  | succ k ih =>
    have hi := ih (by omega)
    have hsp := (pick_spec h (k := k) (by omega)).1
    unfold hitK hits at hsp
    simp only [Bool.and_eq_true, beq_iff_eq] at hsp
    have e1 : addTo (offP bids (bestP m bids)) (k + 1) = addTo (offP bids (bestP m bids)) k + (offP bids (bestP m bids)).getD k 0 := rfl
    rw [e1, offP_get _ _ _ (by rw [bestP_len]; omega), leftAt_succ]
    unfold offAt
    rw [bestP_get _ _ _ (by omega), Int.toNat_natCast]
    have := hsp.2
    omega
theorem best_worth {m : Nat} {bids : List (List Int)} (h : Offers m bids) : addTo (offP bids (bestP m bids)) (offP bids (bestP m bids)).length = worthP m bids (2 ^ bids.length - 1) := by
  have := best_sum h bids.length (Nat.le_refl _)
  have e : (offP bids (bestP m bids)).length = bids.length := by rw [offP_len, bestP_len]
  rw [e]
  have e2 : (tk m bids (2 ^ bids.length - 1) bids.length).getD (leftAt m bids bids.length) 0 = 0 := by
    rw [tk_end, List.getD_eq_getElem?_getD, List.getElem?_replicate]; split <;> rfl
  rw [e2] at this
  omega
theorem best_deals {m : Nat} {bids : List (List Int)} (h : Offers m bids) : Deals bids (bestP m bids) := by
  refine ⟨by rw [bestP_len]; exact Nat.le_refl _, fun i hi => ?_⟩
  rw [bestP_len] at hi
  rw [bestP_get _ _ _ hi, Int.toNat_natCast, offerB_len (h.at_ hi)]
  exact ⟨by omega, pick_lt h hi⟩
theorem offAt_bd {m : Nat} {bids : List (List Int)} (h : Offers m bids) (l : List Int) (i : Nat) : 0 ≤ offAt bids l i ∧ offAt bids l i ≤ 1000000 := offers_bd h i _
theorem offP_bd {m : Nat} {bids : List (List Int)} (h : Offers m bids) (l : List Int) (i : Nat) : 0 ≤ (offP bids l).getD i 0 ∧ (offP bids l).getD i 0 ≤ 1000000 := by
  by_cases hi : i < l.length
  · rw [offP_get _ _ _ hi]; exact offAt_bd h l i
  · rw [List.getD_eq_getElem?_getD, List.getElem?_eq_none (by rw [offP_len]; omega)]; simp
set_option maxRecDepth 100000 in
set_option maxHeartbeats 2000000 in
theorem best_spec : SpecBest := by
  intro v m bids w hl hm hf
  have hn7 := hf.1
  have HNW := Lib.hid (new_go v m bids w hl hm hf)
  by_cases hc : checkP m bids = 0
  · obtain ⟨h1, h6, hn1, hn6, ho⟩ := checkP_zero hc
    obtain ⟨K, rfl⟩ : ∃ K : Nat, m = (K : Int) := ⟨m.toNat, by omega⟩
    rw [Int.toNat_natCast] at ho
    have hK6 : K ≤ 6 := by omega
    have HB1 : Hid ((bestR (K : Int) bids).1 = worthP K bids (2 ^ bids.length - 1)) := by show _ = _; unfold bestR; rw [if_pos hc, Int.toNat_natCast]
    have HB2 : Hid ((bestR (K : Int) bids).2 = bestP K bids) := by show _ = _; unfold bestR; rw [if_pos hc, Int.toNat_natCast]
    have e1 : newR (K : Int) bids v = .agg #[.int .i64 ((2 ^ K - 1 : Nat) : Int), v] := by unfold newR; rw [if_pos hc, Int.toNat_natCast]
    rw [e1, hc] at HNW
    have HFIRST : Hid (∀ W, Below w.heap.size w W → Calls Tryd.prog 47 #[.agg #[.int .i64 ((2 ^ K - 1 : Nat) : Int), v]] W fun e w' => ∃ v', e = .returned v' ∧ Own 3 W.heap.size w' v' (ints (bestP K bids)) ∧ Below W.heap.size W w') := fun W hb => first_go v K bids W (hl.below hb) hK6 hn7 hn1 ho
    have HOFF : Hid (∀ W lv, Below w.heap.size w W → Sl W lv (ints (bestP K bids)) → Calls Tryd.prog 49 #[.agg #[.int .i64 ((2 ^ K - 1 : Nat) : Int), v], lv] W fun e w' => ∃ v', e = .returned v' ∧ Own 2 W.heap.size w' v' (ints (offP bids (bestP K bids))) ∧ Below W.heap.size W w') := fun W lv hb hs => offered_go _ v lv bids _ W (hl.below hb) hs hn7 (best_deals ho)
    have HSUM : Hid (∀ W lv, Sl W lv (ints (offP bids (bestP K bids))) → Calls Tryd.prog 48 #[lv] W fun e w' => e = .returned (.int .i64 (worthP K bids (2 ^ bids.length - 1))) ∧ W = w') := fun W lv hs => by
      rw [← best_worth ho]
      exact sum_go lv _ W hs (by rw [offP_len, bestP_len]; omega) (fun i => by have := offP_bd ho (bestP K bids) i; omega)
    obtain ⟨p, cap, rfl, hlc, hcm⟩ := hl.form_
    rw [hc]
    obtain ⟨N, hN⟩ : ∃ N : Nat, 2 ^ K - 1 = N := ⟨_, rfl⟩
    rw [hN] at HNW HFIRST HOFF
    clear hl hm hf hc ho h1 h6 e1 hN
    go_enter Tryd.func17, Tryd.ntmps17
    go_wp2_with (first
      | (go_at_call 46; refine HNW.out.mono ?_; rintro e w1 ⟨rfl, hb1⟩; have HB1' := Lib.hid (hb1.alloc hb1.size (.cells #[.int .i64 (N : Int), .slice p bids.length cap] 73)); have HR1 := Lib.hid (row_new 73 w1 #[.int .i64 (N : Int), .slice p bids.length cap]); clear hb1)
      | (go_at_call 47; refine (HFIRST.out _ HB1'.out).mono ?_; rintro e w2 ⟨v2, rfl, hown2, hb2⟩; have HS2 := Lib.hid hown2.sl; have HB2' := Lib.hid (HB1'.out.trans (hb2.mono HB1'.out.size)); have hr2 := HR1.out.below hb2 HR1.out.lt; have d0 := hr2.cell 0; have d1 := hr2.cell 1; simp only [List.getElem?_cons_zero, List.getElem?_cons_succ] at d0 d1; clear hown2 hb2 hr2)
      | (go_at_call 49; refine (HOFF.out _ _ HB2'.out HS2.out).mono ?_; rintro e w3 ⟨v3, rfl, hown3, hb3⟩; have HS3 := Lib.hid hown3.sl; have HS2b := Lib.hid (HS2.out.below hb3); have HB3 := Lib.hid (HB2'.out.trans (hb3.mono HB2'.out.size)); clear hown3 hb3)
      | (go_at_call 48; refine (HSUM.out _ _ HS3.out).mono ?_; rintro e w4 ⟨rfl, rfl⟩))
    go_ret3
    exact ⟨_, by rw [HB1.out]; rfl, by rw [HB2.out]; exact HS2b.out, HB3.out⟩
  · have HNO := Lib.hid (bestR_no hc)
    have e1 : newR m bids v = .agg #[.int .i64 0, .slice none 0 0] := by unfold newR; rw [if_neg hc]
    rw [e1] at HNW
    obtain ⟨c, hcc⟩ : ∃ c, checkP m bids = c := ⟨_, rfl⟩
    rw [hcc] at HNW hc ⊢
    have hne : (c != 0) = true := by rw [bne_iff_ne]; exact hc
    clear hl hm hf e1 hcc hc
    go_enter Tryd.func17, Tryd.ntmps17
    go_wp2_with (first
      | (go_at_call 46; refine HNW.out.mono ?_; rintro e w1 ⟨rfl, hb1⟩; have HB1 := Lib.hid hb1; clear hb1))
    go_ret3
    exact ⟨_, by rw [HNO.out]; rfl, by rw [HNO.out]; exact Sl.nil _, HB1.out.alloc HB1.out.size _⟩
end Go.Proofs.YthbfgmgpploneaaDoor
