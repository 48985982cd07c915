/- The program's isConnected. -/
import Derived.Test.YtllhejjcmfiebaaDoorS4
set_option linter.unusedVariables false
set_option linter.unusedSimpArgs false
set_option linter.unnecessarySimpa false
namespace Go.Proofs.YtllhejjcmfiebaaDoor
open Go.RowKit Go.Shelf

def lowOk (n : Nat) : Bool := bits .and .u16 (n : Int) (IntKind.u16.wrap (-(n : Int))) == ((2 ^ lowN 16 n : Nat) : Int) && decide (lowN 16 n < 9) && n.testBit (lowN 16 n)
theorem low_all : ((List.range 512).all fun n => n == 0 || lowOk n) = true := by decide +kernel
theorem low_facts {n : Nat} (h0 : 0 < n) (hn : n < 512) : bits .and .u16 (n : Int) (IntKind.u16.wrap (-(n : Int))) = ((2 ^ lowN 16 n : Nat) : Int) ∧ lowN 16 n < 9 ∧ n.testBit (lowN 16 n) = true := by
  have h := List.all_eq_true.1 low_all n (List.mem_range.2 hn)
  simp only [Bool.or_eq_true, beq_iff_eq, lowOk, Bool.and_eq_true, decide_eq_true_eq] at h
  rcases h with h | ⟨⟨h1, h2⟩, h3⟩
  · omega
  · exact ⟨h1, h2, h3⟩
/-- what grows -/
def InvC (E : Es) (P first s : Nat) : Prop := s.testBit first = true ∧ (∀ i, s.testBit i = true → P.testBit i = true) ∧
  ∀ T : Nat → Prop, T first → (∀ a b, Adj E a b → P.testBit a = true → P.testBit b = true → T a → T b) → ∀ i, s.testBit i = true → T i
theorem stepP_bit (E : Es) (P s j : Nat) : (stepP E P s).testBit j = true ↔ (∃ p, p < 9 ∧ s.testBit p = true ∧ Adj E p j) ∧ P.testBit j = true := by
  unfold stepP
  rw [Nat.testBit_and, Bool.and_eq_true, near_bit]
theorem InvC.start {E : Es} {P first : Nat} (h : P.testBit first = true) : InvC E P first (2 ^ first) := by
  have hb : ∀ i, (2 ^ first).testBit i = true → i = first := fun i hi => by rw [bit_pow] at hi; exact (of_decide_eq_true hi).symm
  exact ⟨by rw [bit_pow]; simp, fun i hi => by rw [hb i hi]; exact h, fun T hT _ i hi => by rw [hb i hi]; exact hT⟩
theorem InvC.step {E : Es} {P first s : Nat} (h : InvC E P first s) : InvC E P first (s ||| stepP E P s) := by
  obtain ⟨h1, h2, h3⟩ := h
  refine ⟨by rw [Nat.testBit_or, h1]; rfl, fun i hi => ?_, fun T hT hc i hi => ?_⟩
  · rw [Nat.testBit_or, Bool.or_eq_true, stepP_bit] at hi
    rcases hi with hi | hi
    · exact h2 i hi
    · exact hi.2
  · rw [Nat.testBit_or, Bool.or_eq_true, stepP_bit] at hi
    rcases hi with hi | ⟨⟨p, _, hp, ha⟩, hi⟩
    · exact h3 T hT hc i hi
    · exact hc p i ha (h2 p hp) hi (h3 T hT hc p hp)
theorem InvC.least {E : Es} {P first t : Nat} (h : InvC E P first t) (ht : t < 512) (hf : t ||| stepP E P t = t) : Least E (fun i => P.testBit i = true) first t := by
  obtain ⟨h1, h2, h3⟩ := h
  refine ⟨h1, h2, fun a b ha hPa hPb hta => ?_, h3⟩
  have : (t ||| stepP E P t).testBit b = true := by
    rw [Nat.testBit_or, Bool.or_eq_true, stepP_bit]
    exact .inr ⟨⟨a, bit_lt (n := 9) ht hta, hta, ha⟩, hPb⟩
  rw [hf] at this; exact this
set_option maxRecDepth 100000 in
set_option maxHeartbeats 1000000 in
theorem conn_go (g n P : Nat) (E : Es) (h0 : 0 < P) (hP : P < 512) (hE : Lt E 9) (w : World) (hb : BoardR w g n E) (ht : Tab w) :
    Calls Tryd.prog 70 #[.pointer (some ⟨g, 0, none⟩), .int .u16 P] w fun e w' => ∃ t, Least E (fun i => P.testBit i = true) (lowN 16 P) t ∧ e = .returned (.bool (decide (t = P))) ∧ Below w.heap.size w w' := by
  obtain ⟨hlow, hl9, hlb⟩ := low_facts h0 hP
  have hF : 2 ^ lowN 16 P < 512 := Nat.pow_lt_pow_right (by omega : 1 < 2) hl9
  have hr1 : Row 75 ((w.alloc (.cells #[.pointer (some ⟨g, 0, none⟩)] 75)).alloc (.cells #[.int .u16 P] 86)) w.heap.size [.pointer (some ⟨g, 0, none⟩)] := (row_new 75 w #[.pointer (some ⟨g, 0, none⟩)]).alloc _
  have hr2 := row_new 86 (w.alloc (.cells #[.pointer (some ⟨g, 0, none⟩)] 75)) #[.int .u16 P]
  rw [World.size_alloc] at hr2
  have hB0 : Below w.heap.size w ((w.alloc (.cells #[.pointer (some ⟨g, 0, none⟩)] 75)).alloc (.cells #[.int .u16 P] 86)) := ((Below.refl w.heap.size w).alloc (Nat.le_refl _) _).alloc (by simp) _
  obtain ⟨W0, hW0⟩ : ∃ W0, (w.alloc (.cells #[.pointer (some ⟨g, 0, none⟩)] 75)).alloc (.cells #[.int .u16 P] 86) = W0 := ⟨_, rfl⟩
  rw [hW0] at hr1 hr2 hB0
  have hsz : W0.heap.size = w.heap.size + 2 := by rw [← hW0]; simp
  have hd := below_drewN (Below.refl W0.heap.size W0) 1
  have HG := Lib.hid (grown_conn g n w.heap.size (w.heap.size + 1) P E (2 ^ lowN 16 P) hF hP hE (InvC E P (lowN 16 P)) (InvC.start hlb) (fun s _ h => h.step) (W0.drewN 1) ((hb.below hB0 hb.lt).below hd (by have := hb.lt; omega)) ((ht.below hB0 ht.lt).below hd (by have := ht.lt; omega)) (hr1.below hd hr1.lt) (hr2.below hd hr2.lt))
  have HD := Lib.hid (hB0.trans (hd.mono (by omega)))
  have HR2 := Lib.hid (hr2.below hd hr2.lt)
  have HSZ : Hid (w.heap.size ≤ (W0.drewN 1).heap.size) := HD.out.size
  obtain ⟨F, hFF⟩ : ∃ F, 2 ^ lowN 16 P = F := ⟨_, rfl⟩
  rw [hFF] at hlow HG
  have hk2 := hr2.cell 0
  have hk1 : ((w.alloc (.cells #[.pointer (some ⟨g, 0, none⟩)] 75)).alloc (.cells #[.int .u16 P] 86)).cell? ⟨w.heap.size + 1, 0, none⟩ = some (.int .u16 P) := by rw [hW0]; exact hk2
  simp only [List.getElem?_cons_zero] at hk2
  clear hb ht hr1 hr2 hB0 hlb hl9 hF hFF hd hsz
  go_enter Tryd.func70, Tryd.ntmps70
  go_wp2
  clear hk1 hW0
  go_region_with (go_at_call 71; refine HG.out.mono ?_; rintro e w1 ⟨t, rfl, ht5, hinv, hfix, hb1⟩; have k2 := (HR2.out.below hb1 HR2.out.lt).cell 0; simp only [List.getElem?_cons_zero] at k2; have HB1 := Lib.hid (HD.out.trans (hb1.mono HSZ.out)); have HL := Lib.hid (hinv.least ht5 hfix); clear hb1 hinv hfix)
  all_goals
    have HDD : Hid (((t : Int) == (P : Int)) = decide (t = P)) := by
      show _ = _
      by_cases h : t = P
      · subst h; simp
      · have h' : ((t : Int) == (P : Int)) = false := by rw [beq_eq_false_iff_ne]; omega
        rw [h']; simp [h]
    go_wp2
    go_ret
    refine ⟨t, HL.out, ?_, HB1.out⟩
    have hdd := HDD.out
    go_simp
end Go.Proofs.YtllhejjcmfiebaaDoor
