/- The program's grown, isConnected. -/
import Derived.Test.YtllhejjcmfiebaaDoorS3
import Derived.Deep.RegionWith
set_option linter.unusedVariables false
set_option linter.unusedSimpArgs false
set_option linter.unnecessarySimpa false
namespace Go.Proofs.YtllhejjcmfiebaaDoor
open Go.RowKit Go.Shelf

/-- what isConnected's closure adds: the places of P near to s -/
def stepP (E : Es) (P s : Nat) : Nat := near E s &&& P
theorem stepP_lt {E : Es} (hE : Lt E 9) {P : Nat} (hP : P < 512) (s : Nat) : stepP E P s < 512 := Nat.lt_of_le_of_lt Nat.and_le_right hP
set_option maxRecDepth 100000 in
set_option maxHeartbeats 1000000 in
theorem conn1_go (g n c1 c2 P : Nat) (E : Es) (s : Nat) (hs : s < 512) (hP : P < 512) (hE : Lt E 9) (w : World) (hb : BoardR w g n E) (ht : Tab w) (h1 : Row 75 w c1 [.pointer (some ⟨g, 0, none⟩)]) (h2 : Row 86 w c2 [.int .u16 P]) :
    Calls Tryd.prog 86 #[.int .u16 s, .pointer (some ⟨c1, 0, none⟩), .pointer (some ⟨c2, 0, none⟩)] w fun e w' => e = .returned (.int .u16 (stepP E P s)) ∧ Below w.heap.size w w' := by
  have HN := Lib.hid (fun n' => near_go g n E s hs hE (w.drewN n') (hb.below (below_drewN (Below.refl w.heap.size w) n') hb.lt) (ht.below (below_drewN (Below.refl w.heap.size w) n') ht.lt))
  have hk1 := h1.cell 0
  have hk2 := h2.cell 0
  simp only [List.getElem?_cons_zero] at hk1 hk2
  have hand : bits .and .u16 (near E s : Nat) (P : Nat) = ((stepP E P s : Nat) : Int) := and_u16 (near_lt (n := 9) hE s) hP
  have H2 := Lib.hid h2
  obtain ⟨N, hN⟩ : ∃ N, near E s = N := ⟨_, rfl⟩
  obtain ⟨M, hM⟩ : ∃ M, stepP E P s = M := ⟨_, rfl⟩
  rw [hN] at HN hand
  rw [hM] at hand ⊢
  clear hb ht h1 h2 hN hM
  go_enter Tryd.func86, Tryd.ntmps86
  go_wp2
  go_region_with (go_at_call 73; refine (HN.out 1).mono ?_; rintro e w1 ⟨rfl, hb1⟩; have k2 := (H2.out.below (Below.trans (below_drewN (Below.refl w.heap.size w) 1) hb1) H2.out.lt).cell 0; simp only [List.getElem?_cons_zero] at k2; have HB1 := Lib.hid (Below.trans (below_drewN (Below.refl w.heap.size w) 1) hb1); clear hb1)
  all_goals
    go_wp2
    go_ret
    exact ⟨rfl, HB1.out⟩
set_option maxRecDepth 100000 in
set_option maxHeartbeats 1000000 in
theorem grown_conn (g n c1 c2 P : Nat) (E : Es) (s0 : Nat) (hs0 : s0 < 512) (hP : P < 512) (hE : Lt E 9) (Inv : Nat → Prop) (h0 : Inv s0) (hI : ∀ s, s < 512 → Inv s → Inv (s ||| stepP E P s))
    (w : World) (hb : BoardR w g n E) (ht : Tab w) (h1 : Row 75 w c1 [.pointer (some ⟨g, 0, none⟩)]) (h2 : Row 86 w c2 [.int .u16 P]) :
    Calls Tryd.prog 71 #[.int .u16 s0, .func (.func 86) #[] #[.pointer (some ⟨c1, 0, none⟩), .pointer (some ⟨c2, 0, none⟩)]] w
      fun e w' => ∃ t, e = .returned (.int .u16 (t : Nat)) ∧ t < 512 ∧ Inv t ∧ t ||| stepP E P t = t ∧ Below w.heap.size w w' := by
  have HC := Lib.hid (fun s hs W (hB : Below w.heap.size w W) => conn1_go g n c1 c2 P E s hs hP hE W (hb.below hB hb.lt) (ht.below hB ht.lt) (h1.below hB h1.lt) (h2.below hB h2.lt))
  have HI := Lib.hid hI
  have H0 := Lib.hid h0
  have HLT := Lib.hid (fun s => stepP_lt hE hP s)
  clear hb ht h1 h2 hI h0
  go_enter Tryd.func71, Tryd.ntmps71
  go_wp2
  go_loopw [0] (fun sv wr => ∃ s : Nat, sv = .int .u16 s ∧ s < 512 ∧ Inv s ∧ Below w.heap.size w wr) (fun sv _ => 9 - card (intOf sv).toNat)
  case atStart => exact ⟨s0, rfl, hs0, H0.out, Below.refl _ _⟩
  case round =>
    obtain ⟨s, rfl, hs, hi, hbel⟩ := hrel
    have HCC := Lib.hid (HC.out s hs wr hbel)
    have hor := or_u16 hs (HLT.out s)
    have HB := Lib.hid hbel
    have HNI := Lib.hid (HI.out s hs hi)
    have HIS := Lib.hid hi
    have HT512 : Hid (s ||| stepP E P s < 512) := Nat.or_lt_two_pow (n := 9) hs (HLT.out s)
    have HM : Hid (s ||| stepP E P s ≠ s → 9 - card (s ||| stepP E P s) < 9 - card s) := by
      intro hne
      have h1 := card_lt (s := s) (t := s ||| stepP E P s) HT512.out (fun i hi => by rw [Nat.testBit_or, hi]; rfl) (fun h => hne h.symm)
      have h2 := card_le (s ||| stepP E P s)
      omega
    have HEQ : Hid (∀ t, s ||| stepP E P s = t → s ||| stepP E P s = t) := fun _ h => h
    obtain ⟨N, hN⟩ : ∃ N, stepP E P s = N := ⟨_, rfl⟩
    obtain ⟨t, ht⟩ : ∃ t, s ||| stepP E P s = t := ⟨_, rfl⟩
    have HTT := Lib.hid ht
    rw [ht] at HNI HT512 HM hor
    rw [hN] at HCC hor
    clear hi hbel ht hN
    by_cases heq : t = s
    · subst heq
      have hd : ((t : Int) == (t : Int)) = true := by simp
      go_wp2_with (first | (go_at_call 86; refine HCC.out.mono ?_; rintro e w1 ⟨rfl, hb1⟩; have HB1 := Lib.hid (HB.out.trans (hb1.mono HB.out.size)); clear hb1))
      go_ret
      exact ⟨t, rfl, hs, HIS.out, HTT.out, HB1.out⟩
    · have hd : ((t : Int) == (s : Int)) = false := by rw [beq_eq_false_iff_ne]; omega
      have HMM := Lib.hid (HM.out heq)
      clear HM heq
      go_wp2_with (first | (go_at_call 86; refine HCC.out.mono ?_; rintro e w1 ⟨rfl, hb1⟩; have HB1 := Lib.hid (HB.out.trans (hb1.mono HB.out.size)); clear hb1))
      go_roundw
      case rel => exact ⟨t, rfl, HT512.out, HNI.out, HB1.out⟩
      case measure => have := HMM.out; simpa [intOf] using this
end Go.Proofs.YtllhejjcmfiebaaDoor
