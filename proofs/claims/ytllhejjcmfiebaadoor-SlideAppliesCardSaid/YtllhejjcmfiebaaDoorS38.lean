/- SlideApplies: the law. -/
import Derived.Test.YtllhejjcmfiebaaDoorS37
import Derived.Test.YtllhejjcmfiebaaDoorAwake
import Derived.Maps.AppendAt
set_option linter.unusedVariables false
set_option linter.unusedSimpArgs false
set_option linter.unnecessarySimpa false
namespace Go.Proofs.YtllhejjcmfiebaaDoor
open Go.RowKit Go.Shelf

theorem stays_of {ks : List Kd} (hM : ∀ (i : Nat) M, ks[i]? = some (.mem M) → ∀ v w w', M v w → Below w.heap.size w w' → M v w') (hF : ∀ (j b k T n : Nat), ks[j]? ≠ some (.fill b k T n)) : Stays ks :=
  ⟨fun i M v w w' hk h hb => hM i M hk v w w' h hb, fun i M v w w' j g b k T n xs hk hf => absurd hf (hF j b k T n)⟩
theorem PaA.below {w w' : World} {v : Value} {l : Ps} (h : PaA w v l) (hb : Below w.heap.size w w') : PaA w' v l := by
  rcases h with h | ⟨ad, cap, rfl, h2, h3, h4⟩
  · exact .inl h
  · refine .inr ⟨ad, cap, rfl, h2, h3, fun j u hj => ?_⟩
    have := h4 j u hj
    exact (hb.cell (p := ad.add j) (World.block_lt_of_cell? _ _ this)).trans this
theorem ok_of_check {N : Nat} {l : Ps} (h : checkB N l = 0) : (∀ j, j < l.length → okAt N l j = true) ∧ joinedP N (toE l) (-1) = true := by
  unfold checkB at h
  split at h
  · split at h
    · rename_i hb
      rw [Bool.and_eq_true, Int.toNat_natCast] at hb
      exact ⟨fun j hj => List.all_eq_true.1 hb.1 j (List.mem_range.2 hj), hb.2⟩
    · cases h
  · cases h
theorem SlA.grownBy {w w' : World} {v : Value} {xs : List Value} {row : Option Nat} (h : SlA w v xs) (hg : w.grownBy w' row) (hne : ∀ g, row = some g → v.ownBlock ≠ some g) : SlA w' v xs := by
  obtain ⟨p, cap, rfl, h1, h2, h3, h4⟩ := h
  refine ⟨p, cap, rfl, h1, h2, h3, fun h0 => ?_⟩
  obtain ⟨ad, rfl, hlt, hc⟩ := h4 h0
  refine ⟨ad, rfl, Nat.lt_of_lt_of_le hlt hg.size, fun i hi => ?_⟩
  rw [← hc i hi]
  refine World.cell?_of_block ?_
  rw [block_add]
  refine hg.block _ hlt fun he => ?_
  exact hne ad.block he.symm rfl
theorem wpList_append_box_at {P : Program} (W : World) {ops : Array Oper} {rest : List Oper} {o : Oper} {a : Act} {Q : Exit → Act → World → Prop} (hgd : o.guard = none) (s x : Operand) (t : TypeId)
    (ho : o.op = .call { callee := .builtin .append, args := #[s, x], argTypes := #[t, t] })
    (e : TypeId) (z : Value) (bytes : Nat) (ht : P.underlying t = some (.slice e)) (hinfo : (P.info? e).map (fun i => (i.zero, i.size, i.bytes)) = some (some z, 1, bytes)) (hz : z.cells.size = 1) (hby : bytes ≤ 100)
    (base : Nat) (v : Value) (xs : List Value) (hs : a.eval s = v) (hown : Own e base W v xs)
    (u : Value) (hx : a.eval x = .slice (some ⟨W.heap.size, 0, none⟩) 1 1) (h1 : u.oneCell' = true) (hlen : xs.length ≤ 1000000) (hbase : base ≤ W.heap.size)
    (h : ∀ v' w', Own e base w' v' (xs ++ [u]) → Below base W w' → W.grownBy w' v.ownBlock → (v'.ownBlock = v.ownBlock ∨ v'.ownBlock = some (W.heap.size + 1)) → wpList P ops Q rest (a.put o.dst v') w') : wpList P ops Q (o :: rest) a (W.alloc (.cells #[u] e)) := by
  obtain ⟨i, hi, hz0, hz1, hz2⟩ := info_parts hinfo
  have hown2 := World.ownsRow.alloc hown (.cells #[u] e)
  refine wpList_append_own_at _ hgd s x t ho base e i z 1 bytes ht hi hz0 hz1 hz2 hz (by decide) v xs.length xs hs hown2 ⟨W.heap.size, 0, none⟩ 1 1 [u] hx (by simp) ?_ ?_ ?_ ?_ ?_ ?_
  · intro j y hj
    have hj1 : j < 1 := (List.getElem?_eq_some_iff.1 hj).1
    have : j = 0 := by omega
    subst this
    have := (row_new e W #[u]).cell 0
    rw [add_none]; simpa using this.trans hj
  · intro y hy; simp at hy; subst hy; exact h1
  · simp [maxLen]; omega
  · have : (xs.length + 1) * bytes ≤ 1000001 * 100 := Nat.mul_le_mul (by omega) hby
    omega
  · simp; omega
  · intro v' w' hown' hg _ hat
    refine h v' w' ?_ ?_ ?_ ?_
    · show w'.ownsRow base e 1 v' (xs ++ [u]).length (xs ++ [u])
      rw [List.length_append]; exact hown'
    · exact ((Below.refl base W).alloc hbase _).grown hg (by simp; omega) (fun k hk => (World.ownsRow.lt hown k hk).1)
    · have hs2 := hg.size
      rw [World.size_alloc] at hs2
      exact ⟨hg.os, hg.tape, hg.output, by omega, fun k hk hne => (hg.block k (by rw [World.size_alloc]; omega) hne).trans (Below.heap_alloc _ _ _ hk)⟩
    · rw [World.size_alloc] at hat; exact hat
set_option maxRecDepth 100000 in
set_option maxHeartbeats 2000000 in
theorem ints_same (va vb : Value) (l : List Int) (w : World) (ha : SlA w va (ints l)) (hb : SlA w vb (ints l)) :
    Calls Tryd.prog 38 #[va, vb] w fun e w' => e = .returned (.bool true) ∧ Below w.heap.size w w' := by
  obtain ⟨pa, ca, rfl, ha1, ha2⟩ := ha.form
  obtain ⟨pb, cb, rfl, hb1, hb2⟩ := hb.form
  have HA := Lib.hid ha
  have HB := Lib.hid hb
  have hne : ((l.length : Int) != (l.length : Int)) = false := by simp
  clear ha hb
  go_enter Tryd.func38, Tryd.ntmps38
  go_wp2
  go_loopw [5] (fun i wr => ∃ k : Nat, k ≤ l.length ∧ i = .int .i64 k ∧ Below w.heap.size w wr) (fun i _ => l.length - (intOf i).toNat)
  case atStart => exact ⟨0, Nat.zero_le _, rfl, Below.refl _ _⟩
  case round =>
    obtain ⟨k, hk, rfl, hbel⟩ := hrel
    by_cases hlt : k < l.length
    · obtain ⟨ad, cap, hv, _, _, hg, hc⟩ := (HA.out.below hbel).int_at k hlt
      cases hv
      obtain ⟨ad', cap', hv, _, _, hg', hc'⟩ := (HB.out.below hbel).int_at k hlt
      cases hv
      obtain ⟨y, hy⟩ : ∃ y, l.getD k 0 = y := ⟨_, rfl⟩
      rw [hy] at hc hc'
      have hyy : (y != y) = false := by simp
      have gk : (k : Int) < (l.length : Int) := by omega
      have HBEL := Lib.hid hbel
      clear hbel hy
      go_wp2
      go_quiet (fail)
      go_wp2
      go_roundw
      case rel => exact ⟨k + 1, by omega, by go_num, bdN HBEL.out _⟩
      case measure => simp [intOf]; omega
    · obtain rfl : k = l.length := by omega
      go_wp2
      go_ret
      exact ⟨rfl, hbel⟩
theorem ordN_nodup (l : List Int) : ∀ x, (ordN l x).Nodup
  | 0 => List.nodup_nil
  | x + 1 => by
    have ih := ordN_nodup l x
    have hmem := ordN_mem l x
    have hp : (ordN l (x + 1)).Perm ((x : Int) :: ordN l x) := by
      show (insN (ordN l x) (atN l x) x).Perm _
      unfold insN
      rw [List.append_assoc, List.singleton_append]
      refine List.perm_middle.trans ?_
      rw [List.take_append_drop]
    rw [hp.nodup_iff, List.nodup_cons]
    exact ⟨fun h => by have := (hmem _).1 h; omega, ih⟩
theorem ordN_uq {N : Nat} (l : List Int) (hN2 : 2 ≤ N) : Uq N (ordN l N) := by
  intro j hj h0
  have hl := ordN_len l N
  have hz : (0 : Int) ∈ ordN l N := (ordN_mem l N 0).2 ⟨by omega, by omega⟩
  have hh : holeL (ordN l N) < (ordN l N).length := by
    unfold holeL
    rw [List.findIdx_lt_length]
    exact ⟨0, hz, by simp⟩
  have hg := List.findIdx_getElem (xs := ordN l N) (p := (· == 0)) (w := hh)
  have hg2 : (ordN l N)[holeL (ordN l N)] = 0 := beq_iff_eq.1 hg
  rw [List.getD_eq_getElem?_getD, List.getElem?_eq_getElem (show j < (ordN l N).length by omega), Option.getD_some] at h0
  refine Classical.byContradiction fun hne => ?_
  have hpw := List.pairwise_iff_getElem.1 (List.nodup_iff_pairwise_ne.1 (ordN_nodup l N))
  rcases Nat.lt_or_gt_of_ne hne with hlt | hlt
  · exact hpw j _ (by omega) hh hlt (h0.trans hg2.symm)
  · exact hpw _ j hh (by omega) hlt (hg2.trans h0.symm)
set_option maxRecDepth 100000 in
set_option maxHeartbeats 8000000 in
theorem lawApplies (n : Int) (v v0 v1 : Value) (l : Ps) (l0 l1 : List Int) (w : World) (ht : Tab w) (hl : PaA w v l) (h0 : SlA w v0 (ints l0)) (h1 : SlA w v1 (ints l1)) :
    Calls Tryd.prog 6 #[.int .i64 n, v, .agg #[v0, v1]] w fun e w' => e = .returned (.bool true) ∧ Below w.heap.size w w' := by
  have HTAME := Lib.hid (fun W (hb : Below w.heap.size w W) => (show Calls Tryd.prog 28 #[.int .i64 n, v, .int .i64 9] W _ from tame_go n v l 9 W (hl.below hb) (by omega) (by omega)))
  have HLST := Lib.hid (fun W (hb : Below w.heap.size w W) => (show Calls Tryd.prog 13 #[v1, .int .i64 40] W _ from list_any v1 l1 40 W (h1.below hb) (by omega)))
  have HT := Lib.hid ht
  have HO0 := Lib.hid h0
  have HO1 := Lib.hid h1
  obtain ⟨p, c, rfl, _, _⟩ := hl.form
  obtain ⟨p0, c0, rfl, hc01, hc02⟩ := h0.form
  obtain ⟨p1, c1, rfl, hc11, hc12⟩ := h1.form
  have hbx := row_new 48 w #[.slice p0 l0.length c0, .slice p1 l1.length c1]
  have hb0 := (Below.refl w.heap.size w).alloc (Nat.le_refl _) (.cells #[.slice p0 l0.length c0, .slice p1 l1.length c1] 48)
  obtain ⟨WA, hWA⟩ : ∃ WA, w.alloc (.cells #[.slice p0 l0.length c0, .slice p1 l1.length c1] 48) = WA := ⟨_, rfl⟩
  rw [hWA] at hbx hb0
  have HBX := Lib.hid hbx
  have HB0 := Lib.hid hb0
  clear ht hl h0 h1 hbx hb0
  go_enter Tryd.func6, Tryd.ntmps6
  go_wp2_with (first
    | (go_at_call 28; refine (HTAME.out _ HB0.out).mono ?_; rintro e W0 ⟨N, x, vx, rfl, hN2, hN9, hx, hch, hb1⟩; have HX1 := Lib.hid (hx.base HB0.out.size); have HBOX := Lib.hid (HBX.out.below hb1 HBX.out.lt); have HB1 := Lib.hid (HB0.out.trans (hb1.mono HB0.out.size)); have HCH := Lib.hid hch; clear hx hch hb1))
  clear hWA HTAME HBX HB0
  have HORD := Lib.hid (fun W u l' (hl : SlA W u (ints l')) => order_go u N l' W hl hN9)
  refine wp_region_rel (by kernel_rfl) 112 rfl (by kernel_rfl) [.fix (.int .i64 (N : Nat)), .fix (.pointer (some ⟨w.heap.size, 0, none⟩)), .fix (.slice p0 l0.length c0), .mem (fun u W => Own 3 w.heap.size W u (ints (ordN l0 N))), .fix (.pointer (some ⟨w.heap.size, 1, none⟩)), .fix (.slice p1 l1.length c1), .mem (fun u W => Own 3 w.heap.size W u (ints (l1.take 40))), .mem (fun u W => Own 3 w.heap.size W u (ints (ordN l0 N))), .mem (fun u W => Own 3 w.heap.size W u (ints (l1.take 40)))] rfl (stays_of (fun i M hk v w' w'' h hb => by rcases i with _ | _ | _ | _ | _ | _ | _ | _ | _ | i <;> simp at hk <;> subst hk <;> exact Own.below h hb (Nat.le_refl _)) (fun j b k T n => by rcases j with _ | _ | _ | _ | _ | _ | _ | _ | _ | j <;> simp)) ?hop ?hQ
  case hop =>
    intro W hW j o hj vs w1 hb hV
    have hbw : Below W0.heap.size W0 w1 := by rw [hW] at hb; exact ((Below.refl W0.heap.size W0).drew).trans hb
    have d0 : w1.cell? ⟨w.heap.size, 0, none⟩ = some (.slice p0 l0.length c0) := (HBOX.out.below hbw HBOX.out.lt).cell 0
    have d1 : w1.cell? ⟨w.heap.size, 1, none⟩ = some (.slice p1 l1.length c1) := (HBOX.out.below hbw HBOX.out.lt).cell 1
    clear hW hb
    have hj' : j < 9 := (List.getElem?_eq_some_iff.1 hj).1
    rcases (by omega : j = 0 ∨ j = 1 ∨ j = 2 ∨ j = 3 ∨ j = 4 ∨ j = 5 ∨ j = 6 ∨ j = 7 ∨ j = 8) with rfl | rfl | rfl | rfl | rfl | rfl | rfl | rfl | rfl
    · cases hj
      clear hj'
      refine .inl ⟨rfl, ?_⟩
      (try simp [predsR, Region.binds, Vk] at hV)
      simp only [putAll]
      generalize hR : Res _ _ vs w1 = R
      go_simp
      subst hR
      exact ⟨rfl, Below.refl _ _⟩
    · cases hj
      clear hj'
      refine .inl ⟨rfl, ?_⟩
      (try simp [predsR, Region.binds, Vk] at hV)
      simp only [putAll]
      generalize hR : Res _ _ vs w1 = R
      go_simp
      subst hR
      exact ⟨rfl, Below.refl _ _⟩
    · cases hj
      clear hj'
      refine .inl ⟨rfl, ?_⟩
      generalize hG : relUpon _ _ _ = G
      have q1 : vs 1 = _ := hV 1 (by decide)
      clear hV
      subst hG
      simp only [putAll]
      generalize hR : Res _ _ vs w1 = R
      go_simp
      subst hR
      exact ⟨rfl, Below.refl _ _⟩
    · cases hj
      clear hj'
      refine .inl ⟨rfl, ?_⟩
      generalize hG : relUpon _ _ _ = G
      have q0 : vs 0 = _ := hV 0 (by decide)
      have q2 : vs 2 = _ := hV 2 (by decide)
      clear hV
      subst hG
      simp only [putAll]
      generalize hR : Res _ _ vs w1 = R
      go_simp
      subst hR
      refine (HORD.out w1 _ l0 (HO0.out.below (HB1.out.trans (hbw.mono HB1.out.size)))).mono ?_
      rintro e w2 ⟨v2, rfl, ho2, hb2⟩
      exact ⟨_, rfl, ho2.base (HB1.out.trans (hbw.mono HB1.out.size)).size, hb2⟩
    · cases hj
      clear hj'
      refine .inl ⟨rfl, ?_⟩
      (try simp [predsR, Region.binds, Vk] at hV)
      simp only [putAll]
      generalize hR : Res _ _ vs w1 = R
      go_simp
      subst hR
      exact ⟨rfl, Below.refl _ _⟩
    · cases hj
      clear hj'
      refine .inl ⟨rfl, ?_⟩
      generalize hG : relUpon _ _ _ = G
      have q4 : vs 4 = _ := hV 4 (by decide)
      clear hV
      subst hG
      simp only [putAll]
      generalize hR : Res _ _ vs w1 = R
      go_simp
      subst hR
      exact ⟨rfl, Below.refl _ _⟩
    · cases hj
      clear hj'
      refine .inl ⟨rfl, ?_⟩
      generalize hG : relUpon _ _ _ = G
      have q5 : vs 5 = _ := hV 5 (by decide)
      clear hV
      subst hG
      simp only [putAll]
      generalize hR : Res _ _ vs w1 = R
      go_simp
      subst hR
      refine (HLST.out w1 (HB1.out.trans (hbw.mono HB1.out.size))).mono ?_
      rintro e w2 ⟨v2, rfl, ho2, hb2⟩
      exact ⟨_, rfl, ho2.base (HB1.out.trans (hbw.mono HB1.out.size)).size, hb2⟩
    · cases hj
      clear hj'
      refine .inl ⟨rfl, ?_⟩
      generalize hG : relUpon _ _ _ = G
      have hS : Own 3 w.heap.size w1 (vs 3) (ints (ordN l0 N)) := hV 3 (by decide)
      clear hV
      subst hG
      simp only [putAll]
      generalize hR : Res _ _ vs w1 = R
      go_simp
      subst hR
      exact ⟨hS, Below.refl _ _⟩
    · cases hj
      clear hj'
      refine .inl ⟨rfl, ?_⟩
      generalize hG : relUpon _ _ _ = G
      have hS : Own 3 w.heap.size w1 (vs 6) (ints (l1.take 40)) := hV 6 (by decide)
      clear hV
      subst hG
      simp only [putAll]
      generalize hR : Res _ _ vs w1 = R
      go_simp
      subst hR
      exact ⟨hS, Below.refl _ _⟩
  case hQ =>
    intro W hW vs w1 hb hV hD
    have hbw : Below W0.heap.size W0 w1 := by rw [hW] at hb; exact ((Below.refl W0.heap.size W0).drew).trans hb
    have hP0 : Own 3 w.heap.size w1 (vs 7) (ints (ordN l0 N)) := hV 7 (by decide)
    have hM0 : Own 3 w.heap.size w1 (vs 8) (ints (l1.take 40)) := hV 8 (by decide)
    have v0 : vs 0 = _ := hV 0 (by decide)
    have v1 : vs 1 = _ := hV 1 (by decide)
    have v2 : vs 2 = _ := hV 2 (by decide)
    have v4 : vs 4 = _ := hV 4 (by decide)
    have v5 : vs 5 = _ := hV 5 (by decide)
    generalize hKK : Exit.then _ _ = KK
    simp only [putAll, v0, v1, v2, v4, v5]
    go_simp
    subst hKK
    obtain ⟨pv, hpv⟩ : ∃ pv, vs 7 = pv := ⟨_, rfl⟩
    obtain ⟨mv, hmv⟩ : ∃ mv, vs 8 = mv := ⟨_, rfl⟩
    rw [hpv] at hP0
    rw [hmv] at hM0
    rw [hpv, hmv]
    obtain ⟨y3, hy3⟩ : ∃ y3, vs 3 = y3 := ⟨_, rfl⟩
    obtain ⟨y6, hy6⟩ : ∃ y6, vs 6 = y6 := ⟨_, rfl⟩
    rw [hy3, hy6]
    have hbW := HB1.out.trans (hbw.mono HB1.out.size)
    have hX := OwnP.sl (l := x) (HX1.out.below hbw (Nat.le_refl _))
    have hT : Tab w1 := HT.out.below hbW HT.out.lt
    have hBW := Lib.hid hbW
    clear hV hD v0 v1 v2 v4 v5 hb hW hpv hmv hy3 hy6 HBOX HORD HLST HO0 HO1 HX1 HT HB1 hbw
    have hch := HCH.out
    clear HCH
    obtain ⟨hok, hjn⟩ := ok_of_check hch
    obtain ⟨N', hN'', _, _, hE⟩ := check_lt hch
    obtain rfl : N = N' := by omega
    have eP := ordN_pos hN2 hN9 l0
    have hWP := posW_of hN2 hN9 eP
    have hUP := ordN_uq l0 hN2
    have hML : (l1.take 40).length ≤ 40 := by rw [List.length_take]; omega
    generalize ordN l0 N = P at *
    generalize l1.take 40 = M0 at *
    have hP : SlA w1 pv (ints P) := hP0.sl.toA
    have hM : SlA w1 mv (ints M0) := hM0.sl.toA
    obtain ⟨pp, cp, rfl, hcp1, hcp2⟩ := hP.form
    obtain ⟨px, cx, rfl, hcx1, hcx2⟩ := hX.len
    have ht := hT.lt
    have HSA := Lib.hid (fun (u : Value) (M : List Int) (W : World) (hb : Below w1.heap.size w1 W) (hm : SlA W u (ints M)) (h40 : M.length ≤ 40) => sapply_go _ _ u N x P M W (hX.below hb) (hT.below hb ht) (hP.below hb) hm (by omega) hch eP hUP)
    have HRA := Lib.hid (fun (u : Value) (M : List Int) (W : World) (hb : Below w1.heap.size w1 W) (hm : SlA W u (ints M)) (h40 : M.length ≤ 40) => rapply_go _ _ u N N x P M W (hX.below hb) (hP.below hb) hm hWP hN9 hok hE (by omega))
    have HIS := Lib.hid (fun (va vb : Value) (l' : List Int) (W : World) (ha : SlA W va (ints l')) (hb : SlA W vb (ints l')) => ints_same va vb l' W ha hb)
    have HHO := Lib.hid (fun (u : Value) (Q : List Int) (W : World) (hq : SlA W u (ints Q)) (hw : PosW N Q) => rhole_go u N Q W hq hw hN9)
    have HNR := Lib.hid (fun (W : World) (hb : Below w1.heap.size w1 W) a t => rnear_go _ N a t x W (hX.below hb) hN9 hok)
    have HMV := Lib.hid (fun (u : Value) (Q : List Int) (t : Int) (tn : Nat) (W : World) (hq : SlA W u (ints Q)) (hw : PosW N Q) (ht : tn < N) (e : t = tn) => rmoved_int u N tn t Q W hq hw hN9 ht e)
    have HNX := Lib.hid (fun (Q : List Int) (hw : PosW N Q) => has_near hN2 hN9 hE hjn hw.hole.1)
    have HAW := Lib.hid (fun W (hb : Below w1.heap.size w1 W) => awake_spec W (hT.below hb ht))
    have HP := Lib.hid hP
    have HWP := Lib.hid hWP
    have HM := Lib.hid hM
    clear hP hM hX hT hP0 hM0 hch hok hjn hE eP hWP hUP hN''
    go_wp2
    go_loopw [9, 10] (fun mv r wr => ∃ (k : Nat) (M : List Int), k ≤ 2 ∧ r = .int .i64 k ∧ M.length ≤ 40 ∧ SlA wr mv (ints M) ∧ Below w1.heap.size w1 wr) (fun _ r _ => 2 - (intOf r).toNat)
    case atStart => exact ⟨0, M0, by omega, rfl, hML, HM.out, Below.refl _ _⟩
    case round =>
      obtain ⟨k, M, hk, rfl, hM40, hm, hbel⟩ := hrel
      clear HM hML
      by_cases hk2 : k < 2
      · obtain ⟨pm, cm, rfl, hcm1, hcm2⟩ := hm.form
        have HM := Lib.hid hm
        have HB := Lib.hid hbel
        have gk2 : (k : Int) < 2 := by omega
        obtain ⟨A1, hA1⟩ : ∃ A1, (applyL (toE x) P M).1 = A1 := ⟨_, rfl⟩
        obtain ⟨A2, hA2⟩ : ∃ A2, (applyL (toE x) P M).2 = A2 := ⟨_, rfl⟩
        have hs1 := HSA.out _ M wr hbel hm hM40
        rw [hA1, hA2] at hs1
        have HS1 := Lib.hid hs1
        have hr1 := fun W (hb : Below wr.heap.size wr W) => HRA.out _ M W (hbel.trans (hb.mono hbel.size)) (hm.below hb) hM40
        rw [hA1, hA2] at hr1
        have HR1 := Lib.hid hr1
        have hA22 : ((A2 : Int) != (A2 : Int)) = false := by simp
        clear hm hbel hs1 hr1 hA1 hA2
        obtain ⟨wo, hwo⟩ : ∃ wo : World, wo = wr := ⟨_, rfl⟩
        subst hwo
        go_wp2_with (first
          | (go_at_call 38; refine (HIS.out _ _ A1 wB (HOA.out.below HBB.out) HOB.out).mono ?_; rintro e wC ⟨rfl, hbc⟩; have HBC := Lib.hid (HBA.out.trans ((HBB.out.trans (hbc.mono HBB.out.size)).mono HBA.out.size)); clear hbc)
          | (go_at_call 37; refine (HR1.out wA HBA.out).mono ?_; rintro e wB ⟨vb, rfl, hob, hbb⟩; have HOB := Lib.hid hob; have HBB := Lib.hid hbb; clear hob hbb)
          | (go_at_call 23; refine (HS1.out).mono ?_; rintro e wA ⟨va, rfl, hoa, hba⟩; have HOA := Lib.hid hoa.sl.toA; have HBA := Lib.hid hba; clear hoa hba))
        have HBW1 := Lib.hid (HB.out.trans (HBC.out.mono HB.out.size))
        have HMC := Lib.hid (HM.out.below HBC.out)
        have HPC := Lib.hid (HP.out.below HBW1.out)
        clear HS1 HR1 HOA HOB HBA HBB HBC HB HM hA22
        obtain ⟨wc, hwc⟩ : ∃ wc : World, wc = wC := ⟨_, rfl⟩
        subst hwc
        go_loopw [16, 17, 18] (fun yv qv i wr => ∃ (j : Nat) (Q Y : List Int), j ≤ M.length ∧ i = .int .i64 j ∧ Y.length = j ∧ Own 3 wc.heap.size wr yv (ints Y) ∧ SlA wr qv (ints Q) ∧ PosW N Q ∧ (∀ g, yv.ownBlock = some g → qv.ownBlock ≠ some g) ∧ Below wc.heap.size wc wr) (fun _ _ i _ => M.length - (intOf i).toNat)
        case atStart => exact ⟨0, P, [], Nat.zero_le _, rfl, rfl, World.ownsRow_nil _ _ _ _, HPC.out, HWP.out, (fun g h => by cases h), Below.refl _ _⟩
        case round =>
          obtain ⟨j, Q, Y, hj, rfl, hY, hown, hq, hwq, hap, hbel⟩ := hrel
          by_cases hlt : j < M.length
          · obtain ⟨pq, cq, rfl, hcq1, hcq2⟩ := hq.form
            have HY := Lib.hid hY
            have HOWN := Lib.hid hown
            have HQ := Lib.hid hq
            have HWQ := Lib.hid hwq
            have HAP := Lib.hid hap
            have HB := Lib.hid hbel
            obtain ⟨ts, hts, htsB⟩ := HNX.out Q hwq
            have HTS := Lib.hid htsB
            obtain ⟨h, hh⟩ : ∃ h, holeL Q = h := ⟨_, rfl⟩
            have hho := fun W (hb : Below wr.heap.size wr W) => HHO.out _ Q W (hq.below hb) hwq
            rw [hh] at hho HTS
            have HHOLE := Lib.hid hho
            have HNEAR := Lib.hid (fun W (hb : Below wr.heap.size wr W) (a : Nat) (t : Int) => HNR.out W (HBW1.out.trans ((hbel.trans (hb.mono hbel.size)).mono HBW1.out.size)) a t)
            have gj : (j : Int) < (M.length : Int) := by omega
            clear hY hown hq hwq hap hbel htsB hh hho
            obtain ⟨wd, hwd⟩ : ∃ wd : World, wd = wr := ⟨_, rfl⟩
            subst hwd
            go_wp2
            go_loopw [19, 20] (fun nv t wr => ∃ (a : Nat) (L : List Int), a ≤ N ∧ t = .int .i64 a ∧ L.length ≤ a ∧ (∀ z, z < L.length → 0 ≤ L.getD z 0 ∧ L.getD z 0 < N) ∧ (ts < a → 0 < L.length) ∧ Own 3 wd.heap.size wr nv (ints L) ∧ Below wd.heap.size wd wr) (fun _ t _ => N - (intOf t).toNat)
            case atStart => exact ⟨0, [], Nat.zero_le _, rfl, Nat.le_refl _, (fun z hz => by cases hz), (fun h => by omega), World.ownsRow_nil _ _ _ _, Below.refl _ _⟩
            case round =>
              obtain ⟨a, L, ha, rfl, hLa, hLr, hLt, hnown, hnb⟩ := hrel
              by_cases haN : a < N
              · have gaN : (a : Int) < (N : Int) := by omega
                have HN1 := Lib.hid hnown
                have HNB := Lib.hid hnb
                have HLR := Lib.hid hLr
                have HLT := Lib.hid hLt
                have hl9 : L.length ≤ 9 := by omega
                clear hnown hnb hLr hLt
                cases hB : nearB (toE x) h a with
                | true =>
                  have hnr := fun W (hb : Below wd.heap.size wd W) => HNEAR.out W hb h (a : Int)
                  rw [hB] at hnr
                  have HNRR := Lib.hid hnr
                  clear hnr hB
                  go_wp2_with (first
                    | (go_at_call 39; refine (HNRR.out _ HBE.out).mono ?_; rintro e wf ⟨rfl, hbf⟩; have HBF := Lib.hid (HBE.out.trans (hbf.mono HBE.out.size)); have HN3 := Lib.hid (HN2.out.below hbf (Nat.le_refl _)); clear hbf)
                    | (go_at_call 40; refine (HHOLE.out _ HNB.out).mono ?_; rintro e we ⟨rfl, hbe⟩; have HBE := Lib.hid (HNB.out.trans (hbe.mono HNB.out.size)); have HN2 := Lib.hid (HN1.out.below hbe (Nat.le_refl _)); clear hbe)
                    | (at_builtin; refine wpList_append_box wf rfl (.tmp 86) (.tmp 88) 23 rfl 3 (.int .i64 0) 8 Tryd.underlying23 Tryd.infoI rfl (by omega) wd.heap.size u19 (ints L) rfl HN3.out (.int .i64 (a : Int)) rfl rfl (by rw [ints_length]; omega) HBF.out.size ?_; intro v2 w2 hown2 hb2 _; have HN4 := Lib.hid hown2; have HB4 := Lib.hid (HBF.out.trans hb2); clear hown2 hb2))
                  go_roundw
                  case rel =>
                    refine ⟨a + 1, L ++ [(a : Int)], by omega, by go_num, by simp; omega, fun z hz => ?_, fun _ => by simp, by rw [ints_append]; exact HN4.out, HB4.out⟩
                    rw [List.length_append, List.length_singleton] at hz
                    by_cases hzl : z < L.length
                    · have := HLR.out z hzl
                      rw [List.getD_eq_getElem?_getD, List.getElem?_append_left hzl, ← List.getD_eq_getElem?_getD]; exact this
                    · have : z = L.length := by omega
                      subst this
                      rw [List.getD_eq_getElem?_getD, List.getElem?_append_right (Nat.le_refl _), Nat.sub_self]
                      simp; omega
                  case measure => simp [intOf]; omega
                | false =>
                  have hne : ts ≠ a := by
                    rintro rfl
                    have := HTS.out
                    rw [hB] at this; cases this
                  have hnr := fun W (hb : Below wd.heap.size wd W) => HNEAR.out W hb h (a : Int)
                  rw [hB] at hnr
                  have HNRR := Lib.hid hnr
                  clear hnr hB
                  go_wp2_with (first
                    | (go_at_call 39; refine (HNRR.out _ HBE.out).mono ?_; rintro e wf ⟨rfl, hbf⟩; have HBF := Lib.hid (HBE.out.trans (hbf.mono HBE.out.size)); have HN3 := Lib.hid (HN2.out.below hbf (Nat.le_refl _)); clear hbf)
                    | (go_at_call 40; refine (HHOLE.out _ HNB.out).mono ?_; rintro e we ⟨rfl, hbe⟩; have HBE := Lib.hid (HNB.out.trans (hbe.mono HNB.out.size)); have HN2 := Lib.hid (HN1.out.below hbe (Nat.le_refl _)); clear hbe))
                  go_roundw
                  case rel => exact ⟨a + 1, L, by omega, by go_num, by omega, HLR.out, fun h => HLT.out (by omega), HN3.out, HBF.out⟩
                  case measure => simp [intOf]; omega
              · obtain rfl : a = N := by omega
                have hLpos := hLt hts
                obtain ⟨z, hz1, hz2⟩ := tmodN (M.getD j 0) L.length hLpos
                have hsl := hnown.sl.toA
                obtain ⟨adn, capn, hvn, hcn1, hcn2, hgn, hcn⟩ := hsl.int_at z hz1
                obtain ⟨to, hto⟩ : ∃ to, L.getD z 0 = to := ⟨_, rfl⟩
                have hrng := hLr z hz1
                rw [hto] at hcn hrng
                obtain ⟨adm, capm, hvm, _, _, hgm, hcm⟩ := ((HMC.out.below HB.out).below hnb).int_at j hlt
                cases hvm
                obtain ⟨mj, hmj⟩ : ∃ mj, M.getD j 0 = mj := ⟨_, rfl⟩
                rw [hmj] at hz2 hcm
                have gz : (z : Int) < (L.length : Int) := by omega
                have gL : IntKind.u64.wrap (L.length : Int) = (L.length : Int) := IntWalk.u64_in _ (by omega)
                have gzz : IntKind.i64.wrap (z : Int) = (z : Int) := IntWalk.i64_in _ (by omega)
                have gL0 : ¬ ((L.length : Int) = 0) := by omega
                unfold maxLen at hcn2
                have HNB := Lib.hid hnb
                have HOY := Lib.hid (HOWN.out.below hnb (Nat.le_refl _))
                have HQ2 := Lib.hid (HQ.out.below hnb)
                have HRNG := Lib.hid hrng
                have HBZ := Lib.hid (HB.out.trans (hnb.mono HB.out.size))
                have HYL := Lib.hid (show (ints Y).length ≤ 1000000 by rw [ints_length, HY.out]; omega)
                have HTN := Lib.hid (show to = ((to.toNat : Nat) : Int) by omega)
                have HTN2 := Lib.hid (show to.toNat < a by omega)
                obtain ⟨yv, hyv⟩ : ∃ yv, u16 = yv := ⟨_, rfl⟩
                subst hvn
                clear hnown hnb hsl hto hrng hLr hLt hmj
                go_wp2_with (first
                  | (at_builtin; refine wpList_append_box_at wr rfl (.tmp 103) (.tmp 105) 23 rfl 3 (.int .i64 0) 8 Tryd.underlying23 Tryd.infoI rfl (by omega) wc.heap.size u16 (ints Y) rfl HOY.out (.int .i64 to) rfl rfl HYL.out HBZ.out.size ?_; intro v2 w2 hown2 hb2 hgr hat; have HO5 := Lib.hid hown2; have HB5 := Lib.hid (HBZ.out.trans hb2); have HQ5 := Lib.hid (HQ2.out.grownBy hgr HAP.out); have HAT := Lib.hid hat; have HSZ := Lib.hid hgr.size; clear hown2 hb2 hgr hat)
                  | (go_at_call 41; refine (HMV.out _ Q to to.toNat w2 HQ5.out HWQ.out HTN2.out HTN.out).mono ?_; rintro e w3 ⟨v3, rfl, ho3, hb3⟩; have HO6 := Lib.hid (HO5.out.below hb3 (Nat.le_refl _)); have HQ6 := Lib.hid ho3; have HB6 := Lib.hid (HB5.out.trans (hb3.mono HB5.out.size)); clear ho3 hb3))
                go_roundw
                case rel =>
                  refine ⟨j + 1, movedL Q to.toNat, Y ++ [to], by omega, by go_num, by simp [HY.out], by rw [ints_append]; exact HO6.out, HQ6.out.sl.toA, HWQ.out.moved HTN2.out, fun g hg hg2 => ?_, HB6.out⟩
                  have hlt5 := (World.ownsRow.lt HO5.out g hg).2
                  have hge := (World.ownsRow.lt HQ6.out g hg2).1
                  omega
                case measure => simp [intOf]; omega
          · obtain rfl : j = M.length := by omega
            have HYY := Lib.hid hown.sl.toA
            have HBB := Lib.hid (HBW1.out.trans (hbel.mono HBW1.out.size))
            have hY40 : Y.length ≤ 40 := by omega
            clear hown hq hwq hap hbel
            go_wp2
            go_roundw
            case rel => exact ⟨k + 1, Y, by omega, by go_num, hY40, HYY.out, HBB.out⟩
            case measure => simp [intOf]; omega
      · obtain rfl : k = 2 := by omega
        have HB := Lib.hid hbel
        clear hm hbel
        go_wp2_with (first | (go_at_call 22; refine (HAW.out _ HB.out).mono ?_; rintro e wG ⟨rfl, hb2⟩; have HBG := Lib.hid (HB.out.trans (hb2.mono HB.out.size)); clear hb2))
        go_ret
        exact ⟨rfl, hBW.out.trans (HBG.out.mono hBW.out.size)⟩
end Go.Proofs.YtllhejjcmfiebaaDoor
