/- The program's offered and alone. -/
import Derived.Test.YthbfgmgpploneaaDoorR8
import Derived.Test.YthbfgmgpploneaaDoorR6
set_option linter.unusedVariables false
set_option linter.unusedSimpArgs false
set_option linter.unnecessarySimpa false
namespace Go.Proofs.YthbfgmgpploneaaDoor
open Go.RowKit

/-- what the bidders offer for their bundles -/
def offAt (bids : List (List Int)) (l : List Int) (i : Nat) : Int := (bids.getD i []).getD (l.getD i 0).toNat 0
def offP (bids : List (List Int)) (l : List Int) : List Int := (List.range l.length).map (offAt bids l)
theorem offP_len (bids : List (List Int)) (l : List Int) : (offP bids l).length = l.length := by simp [offP]
theorem offP_get (bids : List (List Int)) (l : List Int) (k : Nat) (hk : k < l.length) : (offP bids l).getD k 0 = offAt bids l k := by simp [offP, hk]
theorem offP_take (bids : List (List Int)) (l : List Int) (k : Nat) (hk : k < l.length) : (offP bids l).take (k + 1) = (offP bids l).take k ++ [offAt bids l k] := range_map_take _ _ _ hk
/-- these are bundles of which the bids speak -/
def Deals (bids : List (List Int)) (l : List Int) : Prop := l.length ≤ bids.length ∧ ∀ i, i < l.length → 0 ≤ l.getD i 0 ∧ (l.getD i 0).toNat < (bids.getD i []).length
set_option maxRecDepth 100000 in
set_option maxHeartbeats 2000000 in
theorem offered_go (N : Int) (v lv : Value) (bids : List (List Int)) (l : List Int) (w : World) (hl : Mat w v bids) (hll : Sl w lv (ints l)) (hn : bids.length ≤ 7) (hd : Deals bids l) :
    Calls Tryd.prog 49 #[.agg #[.int .i64 N, v], lv] w fun e w' => ∃ v', e = .returned v' ∧ Own 2 w.heap.size w' v' (ints (offP bids l)) ∧ Below w.heap.size w w' := by
  obtain ⟨p, cap, rfl, hlc, hcm⟩ := hl.form_
  obtain ⟨lp, lc, rfl, hllc, hlcm⟩ := hll.form
  unfold maxLen at hcm
  have hr0 := row_new 73 w #[.int .i64 N, .slice p bids.length cap]
  have hb0 := (Below.refl w.heap.size w).alloc (Nat.le_refl _) (.cells #[.int .i64 N, .slice p bids.length cap] 73)
  have HR0 := Lib.hid hr0
  have HB0 := Lib.hid hb0
  have HL := Lib.hid hl
  have HLL := Lib.hid hll
  have HD := Lib.hid hd
  have hln := hd.1
  have hl0 : (0 : Int) ≤ (l.length : Int) := by omega
  clear hl hll hd hr0 hb0
  go_enter Tryd.func49, Tryd.ntmps49
  go_wp2
  go_loopw [5, 10] (fun o i wr => ∃ k : Nat, k ≤ l.length ∧ i = .int .i64 k ∧ Own 2 (w.heap.size + 1) wr o (ints ((offP bids l).take k)) ∧ Row 73 wr w.heap.size [.int .i64 N, .slice p bids.length cap] ∧ Below w.heap.size w wr) (fun _ i _ => l.length - (intOf i).toNat)
  case atStart => exact ⟨0, Nat.zero_le _, rfl, World.ownsRow_nil _ _ _ _, HR0.out, HB0.out⟩
  case round =>
    clear HR0 HB0
    obtain ⟨k, hk, rfl, hown, hr0, hb⟩ := hrel
    by_cases hlt : k < l.length
    · have hdk := HD.out.2 k hlt
      obtain ⟨b3, o3, c3, hv, _, _, _, hcl⟩ := (HLL.out.below hb).int_at k hlt
      cases hv
      obtain ⟨b1, o1, c1, b2, o2, c2, hv, hcb, hcx, _, hlc2⟩ := (HL.out.below hb).at2 rfl (by omega : k < bids.length) (M := (bids.getD k []).length) (s := (l.getD k 0).toNat) rfl hdk.2 rfl
      cases hv
      have h0 := hr0.cell 0
      have h1 := hr0.cell 1
      simp only [List.getElem?_cons_zero, List.getElem?_cons_succ] at h0 h1
      have HTAKE := Lib.hid (offP_take bids l k hlt)
      have hkb : (k : Int) < (bids.length : Int) := by omega
      have HX : Hid (offAt bids l k = (bids.getD k []).getD (l.getD k 0).toNat 0) := rfl
      obtain ⟨q, hq⟩ : ∃ q, (l.getD k 0).toNat = q := ⟨_, rfl⟩
      have hqi : l.getD k 0 = (q : Int) := by omega
      rw [hq] at hcx hdk HX
      rw [hqi] at hcl
      obtain ⟨M, hM⟩ : ∃ M, (bids.getD k []).length = M := ⟨_, rfl⟩
      rw [hM] at hcb hdk hlc2
      have hqM := hdk.2
      obtain ⟨x, hx⟩ : ∃ x, (bids.getD k []).getD q 0 = x := ⟨_, rfl⟩
      rw [hx] at hcx HX
      have HOWN := Lib.hid hown
      have HR0 := Lib.hid hr0
      have HB := Lib.hid hb
      clear hown hr0 hb hq hqi hM hx hdk
      go_wp2_with (first | (at_builtin; refine wpList_append_box wr rfl (.tmp 15) (.tmp 24) 31 rfl 2 (.int .i64 0) 8 Tryd.underlying31 Tryd.info2 rfl (by omega) (w.heap.size + 1) u5 (ints ((offP bids l).take k)) rfl HOWN.out (.int .i64 x) rfl rfl ?a1 ?a2 ?_))
      case a1 => rw [ints_length, List.length_take]; omega
      case a2 => exact HR0.out.lt
      intro v' w' hown hbel hkeep
      have HOWN2 : Hid (Own 2 (w.heap.size + 1) w' v' (ints ((offP bids l).take (k + 1)))) := by
        rw [HTAKE.out, HX.out, ints_append]; exact hown
      have HR2 := Lib.hid (HR0.out.below hbel (Nat.lt_succ_self _))
      have HB2 := Lib.hid (HB.out.trans (hbel.mono (Nat.le_succ _)))
      clear hown hbel hkeep
      go_wp2
      go_roundw
      case rel => exact ⟨k + 1, by omega, by go_num, HOWN2.out, HR2.out, HB2.out⟩
      case measure => simp [intOf]; omega
    · obtain rfl : k = l.length := by omega
      rw [List.take_of_length_le (by rw [offP_len]; exact Nat.le_refl _)] at hown
      have HOWN := Lib.hid (hown.base (Nat.le_succ _))
      have HB := Lib.hid hb
      clear hown hr0 hb
      go_wp2
      go_ret
      exact ⟨_, rfl, HOWN.out, HB.out⟩
/-- the best worths with the first k of these bidders -/
def upTo (m : Nat) (bids : List (List Int)) (k : Nat) : List Int := (bids.take k).foldl (fun t b => rowT m b t true) []
theorem upTo_succ (m : Nat) (bids : List (List Int)) (k : Nat) (hk : k < bids.length) : upTo m bids (k + 1) = rowT m (bids.getD k []) (upTo m bids k) true := by
  unfold upTo
  rw [List.take_succ_eq_append_getElem hk, List.foldl_append, List.getD_eq_getElem?_getD, List.getElem?_eq_getElem hk]
  rfl
theorem upTo_bd {m : Nat} {bids : List (List Int)} (h : Offers m bids) (k : Nat) (hk : k ≤ bids.length) : ∀ s, 0 ≤ (upTo m bids k).getD s 0 ∧ (upTo m bids k).getD s 0 ≤ 1000000 * (k : Int) := by
  induction k with
  | zero => intro s; simp [upTo]
  | succ k ih =>
    intro s
    have hi := ih (by omega)
    rw [upTo_succ _ _ _ (by omega)]
    have ho := h.at_ (k := k) (by omega)
    by_cases hs : s < 2 ^ m
    · rw [rowT_get _ _ _ _ _ hs]
      refine ⟨bestTo_lo _ _ _ _ _, ?_⟩
      have := bestTo_hi (on := true) (B := 1000000) (C := 1000000 * (k : Int)) (fun s => (offerB_at ho s).2) (fun s => (hi s).2) (by omega) s (s + 1)
      omega
    · rw [rowT_out _ _ _ _ _ hs]; omega
def aloneP (m : Nat) (bids : List (List Int)) : Int := (upTo m bids bids.length).getD (2 ^ m - 1) 0
theorem Row.tab {T : TypeId} {w : World} {g : Nat} {t : List Int} (h : Row T w g (ints (pad64 t))) : Tab w g 0 (pad64 t) :=
  ⟨pad64_len t, fun j hj => by rw [h.cell, Nat.zero_add, ints_get _ _ (by rw [pad64_len]; exact hj)]⟩
theorem Row.setRow_same {T : TypeId} {w : World} {g : Nat} {xs ys : List Value} (h : Row T w g xs) : Row T (w.setRow g ys.toArray) g ys := setRow_heap w g xs.toArray ys.toArray T (0, 0) h
theorem Row.setRow_other {T : TypeId} {w : World} {g k : Nat} {xs : List Value} (h : Row T w k xs) (hk : k ≠ g) (ys : Array Value) : Row T (w.setRow g ys) k xs := (Go.setRow_other w g k ys hk).trans h
set_option maxRecDepth 100000 in
set_option maxHeartbeats 2000000 in
theorem alone_go (v bv : Value) (m : Nat) (bids : List (List Int)) (w : World) (hv : ∃ p n c, v = .slice p n c) (hl : Mat w bv bids) (hm : m ≤ 6) (hn : bids.length ≤ 7) (ho : Offers m bids) :
    Calls Tryd.prog 71 #[.agg #[.int .i64 ((2 ^ m - 1 : Nat) : Int), v], bv] w fun e w' => e = .returned (.int .i64 (aloneP m bids)) ∧ Below w.heap.size w w' := by
  obtain ⟨pv, nv, cv, rfl⟩ := hv
  obtain ⟨p, cap, rfl, hlc, hcm⟩ := hl.form_
  unfold maxLen at hcm
  have hM64 := pow_le64 hm
  have hM0 := pow_pos2 m
  have HRET : Hid (aloneP m bids = (upTo m bids bids.length).getD (2 ^ m - 1) 0) := rfl
  have HL := Lib.hid hl
  have HSTEP : Hid (∀ W, Below w.heap.size w W → ∀ k, k < bids.length → ∀ u, Sl W u (ints (bids.getD k [])) → ∀ g, Tab W g 0 (pad64 (upTo m bids k)) → Calls Tryd.prog 68 #[.pointer (some ⟨g, 0, none⟩), u] W fun e w' => e = .returned (.agg (ints (pad64 (upTo m bids (k + 1)))).toArray) ∧ Below W.heap.size W w') := fun W hb k hk u hu g hg => by
    rw [upTo_succ _ _ _ hk]
    have hof := ho.at_ hk
    have hbd := upTo_bd ho k (by omega)
    exact with_go u m (bids.getD k []) (upTo m bids k) g 0 W hu hg hm (offerB_len hof) (offerB_at hof) (fun s => ⟨(hbd s).1, by have := (hbd s).2; omega⟩)
  clear hl ho hm
  obtain ⟨N, hN⟩ : ∃ N : Nat, 2 ^ m - 1 = N := ⟨_, rfl⟩
  rw [hN] at HRET ⊢
  have hN64 : N < 64 := by omega
  have hr0 := (row_new 73 w #[.int .i64 N, .slice pv nv cv]).alloc (.cells (ints zeros64).toArray 95)
  have hr1 := row_new 95 (w.alloc (.cells #[.int .i64 N, .slice pv nv cv] 73)) (ints zeros64).toArray
  rw [World.size_alloc] at hr1
  have hb0 := ((Below.refl w.heap.size w).alloc (Nat.le_refl _) (.cells #[.int .i64 N, .slice pv nv cv] 73)).alloc (by simp) (.cells (ints zeros64).toArray 95)
  have HR0 := Lib.hid hr0
  have HR1 : Hid (Row 95 ((w.alloc (.cells #[.int .i64 N, .slice pv nv cv] 73)).alloc (.cells (ints zeros64).toArray 95)) (w.heap.size + 1) (ints (pad64 (upTo m bids 0)))) := by
    show Row _ _ _ _
    have e : pad64 (upTo m bids 0) = zeros64 := zeros64_pad.symm
    rw [e]; exact hr1
  have HB0 := Lib.hid hb0
  clear hr0 hr1 hb0 hN
  go_enter Tryd.func71, Tryd.ntmps71
  go_wp2_with (first | (refine wpList_alloc_arr rfl 95 rfl _ _ _ Tryd.info95 ?_))
  go_loopw [10] (fun i wr => ∃ k : Nat, k ≤ bids.length ∧ i = .int .i64 k ∧ Row 73 wr w.heap.size [.int .i64 N, .slice pv nv cv] ∧ Row 95 wr (w.heap.size + 1) (ints (pad64 (upTo m bids k))) ∧ Below w.heap.size w wr) (fun i _ => bids.length - (intOf i).toNat)
  case atStart => exact ⟨0, Nat.zero_le _, rfl, HR0.out, HR1.out, HB0.out⟩
  case round =>
    clear HR0 HR1 HB0
    obtain ⟨k, hk, rfl, hr0, hr1, hb⟩ := hrel
    have HR0 := Lib.hid hr0
    have HR1 := Lib.hid hr1
    have HB := Lib.hid hb
    by_cases hlt : k < bids.length
    · obtain ⟨b1, o1, c1, u, hv, _, _, _, hcu, hsu⟩ := (HL.out.below hb).row_at k hlt
      cases hv
      obtain ⟨up, uc, rfl, hulc, hucm⟩ := hsu.form
      have HW := Lib.hid (HSTEP.out wr hb k hlt _ hsu _ hr1.tab)
      obtain ⟨r, hr⟩ : ∃ r, (bids.getD k []).length = r := ⟨_, rfl⟩
      rw [hr] at hcu hulc HW
      obtain ⟨l2, hl2⟩ : ∃ l2, pad64 (upTo m bids (k + 1)) = l2 := ⟨_, rfl⟩
      obtain ⟨l1, hl1⟩ : ∃ l1, pad64 (upTo m bids k) = l1 := ⟨_, rfl⟩
      have hll2 : (ints l2).length = 64 := by rw [ints_length, ← hl2, pad64_len]
      have hll1 : (ints l1).length = 64 := by rw [ints_length, ← hl1, pad64_len]
      rw [hl2] at HW
      rw [hl1] at HR1
      have HPL := Lib.hid hl2
      have HONE := Lib.hid (one_ints l2)
      have hi1 : (Tryd.prog.info? 95).map (·.size) = some (ints l2).toArray.size := by rw [info_size Tryd.info95]; simp [hll2]
      have HI1 := Lib.hid hi1
      have HSZ : Hid ((ints l1).toArray.size = (ints l2).toArray.size) := by show _ = _; simp [hll1, hll2]
      clear hr0 hr1 hb hl1 hl2 hi1 hll1 hll2 hsu hr
      go_wp2_with (first
        | (go_at_call 68; refine HW.out.mono ?_; rintro e w1 ⟨rfl, hb1⟩; have HR0b := Lib.hid (HR0.out.below hb1 HR0.out.lt); have HR1b := Lib.hid (HR1.out.below hb1 HR1.out.lt); have HB1 := Lib.hid (HB.out.trans (hb1.mono HB.out.size)); clear hb1)
        | (refine wpList_store_row rfl 95 _ _ rfl (w.heap.size + 1) (ints l2).toArray rfl rfl 95 (ints l1).toArray HR1b.out HI1.out HSZ.out HONE.out ?_))
      go_roundw
      case rel =>
        refine ⟨k + 1, by omega, by go_num, HR0b.out.setRow_other (by omega) _, ?_, below_setRow2 HB1.out (by omega) _⟩
        rw [HPL.out]; exact HR1b.out.setRow_same
      case measure => simp [intOf]; omega
    · obtain rfl : k = bids.length := by omega
      have h0 := hr0.cell 0
      simp only [List.getElem?_cons_zero] at h0
      have hcx := hr1.cell N
      rw [ints_get _ _ (by rw [pad64_len]; exact hN64), pad64_get _ _ hN64, ← HRET.out] at hcx
      clear hr0 hr1
      go_wp2
      go_ret
      exact ⟨rfl, HB.out⟩
end Go.Proofs.YthbfgmgpploneaaDoor
