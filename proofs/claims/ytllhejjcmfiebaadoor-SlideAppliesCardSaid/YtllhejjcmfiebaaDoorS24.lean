/- The program's Sides. -/
import Derived.Test.YtllhejjcmfiebaaDoorS23
import Derived.Test.YtllhejjcmfiebaaDoorS16
import Derived.Deep.RegionWith
import Derived.Deep.RegionHeld3
set_option linter.unusedVariables false
set_option linter.unusedSimpArgs false
set_option linter.unnecessarySimpa false
namespace Go.Proofs.YtllhejjcmfiebaaDoor
open Go.RowKit Go.Shelf

set_option maxRecDepth 100000 in
set_option maxHeartbeats 2000000 in
theorem side1_go (g n c1 : Nat) (E : Es) (s : Nat) (hs : s < 512) (hE : Lt E 9) (w : World) (hb : BoardR w g n E) (ht : Tab w) (h1 : Row 75 w c1 [.pointer (some ⟨g, 0, none⟩)]) :
    Calls Tryd.prog 72 #[.int .u16 s, .pointer (some ⟨c1, 0, none⟩)] w fun e w' => e = .returned (.int .u16 (near E (near E s))) ∧ Below w.heap.size w w' := by
  have HN1 := Lib.hid (fun W (hB : Below w.heap.size w W) => near_go g n E s hs hE W (hb.below hB hb.lt) (ht.below hB ht.lt))
  have HN2 := Lib.hid (fun W (hB : Below w.heap.size w W) => near_go g n E (near E s) (near_lt (n := 9) hE s) hE W (hb.below hB hb.lt) (ht.below hB ht.lt))
  have hk1 := h1.cell 0
  simp only [List.getElem?_cons_zero] at hk1
  have H1 := Lib.hid h1
  obtain ⟨N, hN⟩ : ∃ N, near E s = N := ⟨_, rfl⟩
  rw [hN] at HN1 HN2 ⊢
  obtain ⟨M, hM⟩ : ∃ M, near E N = M := ⟨_, rfl⟩
  rw [hM] at HN2 ⊢
  clear hb ht h1 hN hM
  go_enter Tryd.func72, Tryd.ntmps72
  go_wp2
  go_region_held3 (fun w' => w'.cell? ⟨c1, 0, none⟩ = some (.pointer (some ⟨g, 0, none⟩)))
    (first | exact hk1 | exact k1 | exact k2)
    (first
      | (go_at_call 73; refine (HN2.out _ HB1.out).mono ?_; rintro e w2 ⟨rfl, hb2⟩; have HB2 := Lib.hid (HB1.out.trans (hb2.mono HB1.out.size)); have k2 := (H1.out.below HB2.out H1.out.lt).cell 0; simp only [List.getElem?_cons_zero] at k2; clear hb2)
      | (go_at_call 73; refine (HN1.out _ (Below.refl w.heap.size w).drew).mono ?_; rintro e w1 ⟨rfl, hb1⟩; have HB1 := Lib.hid ((Below.refl w.heap.size w).drew.trans hb1); have k1 := (H1.out.below HB1.out H1.out.lt).cell 0; simp only [List.getElem?_cons_zero] at k1; clear hb1))
  all_goals
    go_wp2
    go_ret
    exact ⟨rfl, HB2.out⟩
set_option maxRecDepth 100000 in
set_option maxHeartbeats 1000000 in
theorem grown_side (g n c1 : Nat) (E : Es) (s0 : Nat) (hs0 : s0 < 512) (hE : Lt E 9) (Inv : Nat → Prop) (h0 : Inv s0) (hI : ∀ s, s < 512 → Inv s → Inv (s ||| near E (near E s)))
    (w : World) (hb : BoardR w g n E) (ht : Tab w) (h1 : Row 75 w c1 [.pointer (some ⟨g, 0, none⟩)]) :
    Calls Tryd.prog 71 #[.int .u16 s0, .func (.func 72) #[] #[.pointer (some ⟨c1, 0, none⟩)]] w
      fun e w' => ∃ t, e = .returned (.int .u16 (t : Nat)) ∧ t < 512 ∧ Inv t ∧ t ||| near E (near E t) = t ∧ Below w.heap.size w w' := by
  have HC := Lib.hid (fun s hs W (hB : Below w.heap.size w W) => side1_go g n c1 E s hs hE W (hb.below hB hb.lt) (ht.below hB ht.lt) (h1.below hB h1.lt))
  have HI := Lib.hid hI
  have H0 := Lib.hid h0
  have HLT := Lib.hid (fun s => near_lt (n := 9) hE (near E s))
  clear hb ht h1 hI h0
  go_enter Tryd.func71, Tryd.ntmps71
  go_wp2
  go_loopw [0] (fun sv wr => ∃ s : Nat, sv = .int .u16 s ∧ s < 512 ∧ Inv s ∧ Below w.heap.size w wr) (fun sv _ => 9 - card (intOf sv).toNat)
  case atStart => exact ⟨s0, rfl, hs0, H0.out, Below.refl _ _⟩
  case round =>
    obtain ⟨s, rfl, hs, hi, hbel⟩ := hrel
    have HCC := Lib.hid (HC.out s hs wr hbel)
    have hor := or_u16 hs (HLT.out s)
    have HB := Lib.hid hbel
    have HNI := Lib.hid (HI.out s hs hi)
    have HIS := Lib.hid hi
    have HT512 : Hid (s ||| near E (near E s) < 512) := Nat.or_lt_two_pow (n := 9) hs (HLT.out s)
    have HM : Hid (s ||| near E (near E s) ≠ s → 9 - card (s ||| near E (near E s)) < 9 - card s) := by
      intro hne
      have h1 := card_lt (s := s) (t := s ||| near E (near E s)) HT512.out (fun i hi => by rw [Nat.testBit_or, hi]; rfl) (fun h => hne h.symm)
      have h2 := card_le (s ||| near E (near E s))
      omega
    obtain ⟨N, hN⟩ : ∃ N, near E (near E s) = N := ⟨_, rfl⟩
    obtain ⟨t, ht⟩ : ∃ t, s ||| near E (near E s) = t := ⟨_, rfl⟩
    have HTT := Lib.hid ht
    rw [ht] at HNI HT512 HM hor
    rw [hN] at HCC hor
    clear hi hbel ht hN
    by_cases heq : t = s
    · subst heq
      have hd : ((t : Int) == (t : Int)) = true := by simp
      go_wp2_with (first | (go_at_call 72; refine HCC.out.mono ?_; rintro e w1 ⟨rfl, hb1⟩; have HB1 := Lib.hid (HB.out.trans (hb1.mono HB.out.size)); clear hb1))
      go_ret
      exact ⟨t, rfl, hs, HIS.out, HTT.out, HB1.out⟩
    · have hd : ((t : Int) == (s : Int)) = false := by rw [beq_eq_false_iff_ne]; omega
      have HMM := Lib.hid (HM.out heq)
      clear HM heq
      go_wp2_with (first | (go_at_call 72; refine HCC.out.mono ?_; rintro e w1 ⟨rfl, hb1⟩; have HB1 := Lib.hid (HB.out.trans (hb1.mono HB.out.size)); clear hb1))
      go_roundw
      case rel => exact ⟨t, rfl, HT512.out, HNI.out, HB1.out⟩
      case measure => have := HMM.out; simpa [intOf] using this
theorem check_lt {n : Int} {l : Ps} (h : checkB n l = 0) : ∃ N : Nat, n = (N : Int) ∧ 2 ≤ N ∧ N ≤ 9 ∧ Lt (toE l) N := by
  have hs := size_of_check h
  have hs' := hs
  simp only [sizeB, Bool.and_eq_true, decide_eq_true_eq] at hs'
  obtain ⟨N, rfl⟩ : ∃ N : Nat, n = (N : Int) := ⟨n.toNat, by omega⟩
  refine ⟨N, rfl, by omega, by omega, ?_⟩
  unfold checkB at h
  rw [if_pos hs] at h
  split at h
  · rename_i hc
    have hok : boardOk N l = true := (Bool.and_eq_true _ _ ▸ hc : _ ∧ _).1
    have := ok_lt (n := N) (l := l) (k := l.length) (by omega) (Nat.le_refl _) fun j hj => List.all_eq_true.1 hok j (List.mem_range.2 hj)
    rwa [List.take_length] at this
  · cases h
/-- what the program answers -/
def sidesW (N : Nat) (E : Es) : Value := if (sdN E N).1 &&& (sdN E N).2 = 0 then .tuple #[.int .i64 ((sdN E N).1 : Nat), .bool true, .int .i64 0] else .tuple #[.int .i64 0, .bool false, .int .i64 0]
set_option maxRecDepth 100000 in
set_option maxHeartbeats 2000000 in
theorem side_go (g n : Nat) (E : Es) (hE : Lt E 9) (w : World) (hb : BoardR w g n E) (ht : Tab w) :
    Calls Tryd.prog 55 #[.pointer (some ⟨g, 0, none⟩)] w fun e w' => (∃ t, t < 512 ∧ InvS E t ∧ t ||| near E (near E t) = t ∧ (t &&& near E t = 0 → e = .returned (.tuple #[.int .u16 (t : Nat), .bool true])) ∧ (t &&& near E t ≠ 0 → e = .returned (.tuple #[.int .u16 0, .bool false]))) ∧ Below w.heap.size w w' := by
  have hr1 := row_new 75 w #[.pointer (some ⟨g, 0, none⟩)]
  have hB0 := (Below.refl w.heap.size w).alloc (Nat.le_refl _) (.cells #[.pointer (some ⟨g, 0, none⟩)] 75)
  obtain ⟨W0, hW0⟩ : ∃ W0, w.alloc (.cells #[.pointer (some ⟨g, 0, none⟩)] 75) = W0 := ⟨_, rfl⟩
  rw [hW0] at hr1 hB0
  have HG := Lib.hid (grown_side g n w.heap.size E 1 (by omega) hE (InvS E) (InvS.start E) (fun s _ h => h.step) W0 (hb.below hB0 hb.lt) (ht.below hB0 ht.lt) hr1)
  have HN := Lib.hid (fun t (h : t < 512) W (hB : Below w.heap.size w W) => near_go g n E t h hE W (hb.below hB hb.lt) (ht.below hB ht.lt))
  have HLT := Lib.hid (fun s => near_lt (n := 9) hE s)
  have HD := Lib.hid hB0
  have HR := Lib.hid hr1
  clear hb ht hr1 hB0
  go_enter Tryd.func55, Tryd.ntmps55
  go_wp2_with fail
  clear hW0
  refine HG.out.mono ?_
  rintro e w1 ⟨t, rfl, ht5, hinv, hfix, hb1⟩
  have k1 := (HR.out.below hb1 HR.out.lt).cell 0
  simp only [List.getElem?_cons_zero] at k1
  have HB1 := Lib.hid (HD.out.trans (hb1.mono HD.out.size))
  have HINV := Lib.hid hinv
  have HFIX := Lib.hid hfix
  have hand := and_u16 ht5 (HLT.out t)
  have HNT := Lib.hid (HN.out t ht5 w1 HB1.out)
  have HEX : Hid (∀ e : Ending, (t &&& near E t = 0 → e = .returned (.tuple #[.int .u16 (t : Nat), .bool true])) → (t &&& near E t ≠ 0 → e = .returned (.tuple #[.int .u16 0, .bool false])) → ∃ t, t < 512 ∧ InvS E t ∧ t ||| near E (near E t) = t ∧ (t &&& near E t = 0 → e = .returned (.tuple #[.int .u16 (t : Nat), .bool true])) ∧ (t &&& near E t ≠ 0 → e = .returned (.tuple #[.int .u16 0, .bool false]))) :=
    fun e h1 h2 => ⟨t, ht5, hinv, hfix, h1, h2⟩
  obtain ⟨M, hM⟩ : ∃ M, near E t = M := ⟨_, rfl⟩
  obtain ⟨N, hN⟩ : ∃ N, t &&& near E t = N := ⟨_, rfl⟩
  rw [hN] at hand
  rw [hM] at hand HNT
  have HNN := Lib.hid hN
  clear hb1 hinv hfix hM hN HN HG
  by_cases hz : N = 0
  · have HZ := Lib.hid hz
    subst hz
    go_wp2_with (first | (go_at_call 73; refine HNT.out.mono ?_; rintro e w2 ⟨rfl, hb2⟩; have HB2 := Lib.hid (HB1.out.trans (hb2.mono HB1.out.size)); clear hb2))
    go_ret2
    exact ⟨HEX.out _ (fun _ => rfl) (fun h => absurd HNN.out h), HB2.out⟩
  · have HZ := Lib.hid hz
    have hne : ((N : Int) != 0) = true := by rw [bne_iff_ne]; omega
    go_wp2_with (first | (go_at_call 73; refine HNT.out.mono ?_; rintro e w2 ⟨rfl, hb2⟩; have HB2 := Lib.hid (HB1.out.trans (hb2.mono HB1.out.size)); clear hb2))
    go_ret2
    exact ⟨HEX.out _ (fun h => absurd (HNN.out.symm.trans h) HZ.out) (fun _ => rfl), HB2.out⟩
set_option maxRecDepth 100000 in
set_option maxHeartbeats 2000000 in
theorem sides_go (v : Value) (n : Int) (l : Ps) (w : World) (hl : SlP w v l) (ht : Tab w) (h : checkB n l = 0) :
    Calls Tryd.prog 20 #[.int .i64 n, v] w fun e w' => e = .returned (sidesW n.toNat (toE l)) ∧ Below w.heap.size w w' := by
  have HG := Lib.hid (given_nil v n l w hl ht h)
  obtain ⟨N, rfl, hn2, hn9, hE⟩ := check_lt h
  have hE9 : Lt (toE l) 9 := fun e he => by have := hE e he; omega
  rw [Int.toNat_natCast] at HG ⊢
  have HSD := Lib.hid (fun g W (hb : BoardR W g N (toE l)) (hB : Below w.heap.size w W) => side_go g N (toE l) hE9 W hb (ht.below hB ht.lt))
  have HSAME := Lib.hid (fun t => @sides_same N (toE l) hE (by omega) hn9 t)
  have HSW : Hid (sidesW N (toE l) = if (sdN (toE l) N).1 &&& (sdN (toE l) N).2 = 0 then .tuple #[.int .i64 ((sdN (toE l) N).1 : Nat), .bool true, .int .i64 0] else .tuple #[.int .i64 0, .bool false, .int .i64 0]) := rfl
  obtain ⟨V, hV⟩ : ∃ V, sidesW N (toE l) = V := ⟨_, rfl⟩
  rw [hV] at HSW ⊢
  obtain ⟨p, cap, rfl, hl1, hl2⟩ := hl.len
  clear hl ht h hE hE9 hV
  go_enter Tryd.func20, Tryd.ntmps20
  go_wp2_with (go_at_call 49; refine (HG.out).mono ?_; rintro e w1 ⟨g, ⟨rfl, hg, hbr⟩, hb1⟩; have HS := Lib.hid (HSD.out g w1 hbr hb1); have HB1 := Lib.hid hb1; clear hb1 hbr)
  refine HS.out.mono ?_
  rintro e w2 ⟨⟨t, ht5, hinv, hfix, hy, hno⟩, hb2⟩
  have HB2 := Lib.hid (HB1.out.trans (hb2.mono HB1.out.size))
  obtain ⟨hs1, hs2⟩ := HSAME.out t hinv hfix
  by_cases hz : t &&& near (toE l) t = 0
  · obtain rfl := hy hz
    have hz2 := hs1.1 hz
    have ht2 := hs2 hz2
    have HV : Hid (V = .tuple #[.int .i64 (t : Nat), .bool true, .int .i64 0]) := by show _ = _; rw [HSW.out, if_pos hz2, ht2]
    have hw : IntKind.i64.wrap (t : Int) = (t : Int) := IntWalk.i64_in _ (by omega)
    clear hy hno hz hz2 ht2 hs1 hs2 HSW HSAME HSD HG HS hinv hfix hb2 HB1
    go_wp2
    go_ret3
    exact ⟨by rw [HV.out]; rfl, HB2.out⟩
  · obtain rfl := hno hz
    have hz2 : ¬ (sdN (toE l) N).1 &&& (sdN (toE l) N).2 = 0 := fun h => hz (hs1.2 h)
    have HV : Hid (V = .tuple #[.int .i64 0, .bool false, .int .i64 0]) := by show _ = _; rw [HSW.out, if_neg hz2]
    clear hy hno hz hz2 hs1 hs2 HSW HSAME HSD HG HS hinv hfix hb2 HB1
    go_wp2
    go_ret3
    exact ⟨by rw [HV.out]; rfl, HB2.out⟩
end Go.Proofs.YtllhejjcmfiebaaDoor
