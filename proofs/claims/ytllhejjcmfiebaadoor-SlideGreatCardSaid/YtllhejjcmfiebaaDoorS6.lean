/- The program's near. -/
import Derived.Test.YtllhejjcmfiebaaDoorS2
import Derived.RegionIn
import Derived.BigRegionIn
import Derived.Deep.RegionWith
set_option linter.unusedVariables false
set_option linter.unusedSimpArgs false
set_option linter.unnecessarySimpa false
namespace Go.Proofs.YtllhejjcmfiebaaDoor
open Go.RowKit Go.Shelf
attribute [local go_sem] Oper.semAt_some
def boardC (n : Nat) (E : Es) : List Value := [.int .i64 n, .int .u16 (nb E 0), .int .u16 (nb E 1), .int .u16 (nb E 2), .int .u16 (nb E 3), .int .u16 (nb E 4), .int .u16 (nb E 5), .int .u16 (nb E 6), .int .u16 (nb E 7), .int .u16 (nb E 8)]
def BoardR (w : World) (g n : Nat) (E : Es) : Prop := Row 109 w g (boardC n E)
theorem BoardR.next {w : World} {g n : Nat} {E : Es} (h : BoardR w g n E) (i : Nat) (hi : i < 9) : w.cell? ⟨g, 1 + i, none⟩ = some (.int .u16 (nb E i)) := by
 have hc := h.cell (1 + i)
 rw [hc]
 rcases (by omega : i = 0 ∨ i = 1 ∨ i = 2 ∨ i = 3 ∨ i = 4 ∨ i = 5 ∨ i = 6 ∨ i = 7 ∨ i = 8) with rfl | rfl | rfl | rfl | rfl | rfl | rfl | rfl | rfl <;> rfl
theorem u16_small {m : Nat} (h : m < 512) : IntKind.u16.wrap (m : Int) = (m : Int) := by
 simp [IntKind.wrap, IntKind.bits, IntKind.signed]; omega
theorem or_u16 {a b : Nat} (ha : a < 512) (hb : b < 512) : bits .or .u16 (a : Int) (b : Int) = ((a ||| b : Nat) : Int) := by
 have e : (BitVec.ofInt 16 (a : Int) ||| BitVec.ofInt 16 (b : Int)).toNat = a ||| b := by
  rw [BitVec.toNat_or, BitVec.ofInt_natCast, BitVec.ofInt_natCast, BitVec.toNat_ofNat, BitVec.toNat_ofNat, Nat.mod_eq_of_lt (by omega), Nat.mod_eq_of_lt (by omega)]
 show IntKind.u16.wrap (((BitVec.ofInt 16 (a : Int) ||| BitVec.ofInt 16 (b : Int)).toNat : Nat) : Int) = _
 rw [e]
 exact u16_small (Nat.or_lt_two_pow (n := 9) ha hb)
theorem and_u16 {a b : Nat} (ha : a < 512) (hb : b < 512) : bits .and .u16 (a : Int) (b : Int) = ((a &&& b : Nat) : Int) := by
 have e : (BitVec.ofInt 16 (a : Int) &&& BitVec.ofInt 16 (b : Int)).toNat = a &&& b := by
  rw [BitVec.toNat_and, BitVec.ofInt_natCast, BitVec.ofInt_natCast, BitVec.toNat_ofNat, BitVec.toNat_ofNat, Nat.mod_eq_of_lt (by omega), Nat.mod_eq_of_lt (by omega)]
 show IntKind.u16.wrap (((BitVec.ofInt 16 (a : Int) &&& BitVec.ofInt 16 (b : Int)).toNat : Nat) : Int) = _
 rw [e]
 exact u16_small (Nat.lt_of_le_of_lt Nat.and_le_left ha)
theorem KeepsOthers.of_below {W W' : World} (h : Below W.heap.size W W') : KeepsOthers W W' :=
 ⟨h.size, fun k o hk _ => (h.block k (Array.getElem?_eq_some_iff.1 hk).1).trans hk⟩
theorem Row.turn {T B : Nat} {w w' : World} {g : Nat} {xs : List Value} {row : Option Nat} (h : Row T w g xs) (hg : w.grownBy w' row) (hr : ∀ r, row = some r → B ≤ r ∧ ∃ o : Obj, w.heap[r]? = some o ∧ o.isCells = false) : Row T w' g xs :=
 h.grown hg fun e => by
  obtain ⟨_, o, ho, hc⟩ := hr g e.symm
  unfold Row at h
  rw [h] at ho; cases ho; cases hc
theorem row_own (T g : Nat) (xs : List Value) {β : Type} (B : Nat) : OwnFrom B (fun (_ : β) W => Row T W g xs) := fun _ _ _ _ hs hg hr => hs.turn hg hr
theorem row_own2 (T g : Nat) {β : Type} (xs : β → List Value) (B : Nat) : OwnFrom B (fun (b : β) W => Row T W g (xs b)) := fun _ _ _ _ hs hg hr => hs.turn hg hr
set_option maxRecDepth 100000 in
set_option maxHeartbeats 2000000 in
theorem near_go (g n : Nat) (E : Es) (s : Nat) (hs : s < 512) (hE : Lt E 9) (w : World) (hb : BoardR w g n E) (ht : Tab w) :
  Calls Tryd.prog 73 #[.pointer (some ⟨g, 0, none⟩), .int .u16 s] w fun e w' => e = .returned (.int .u16 (near E s)) ∧ Below w.heap.size w w' := by
 have hg := hb.lt
 refine calls_marks Tryd.func73 rfl ?_
 intro Q hQ
 simp only [Tryd.ntmps73, List.size_toArray, List.length_cons, List.length_nil, Nat.reduceAdd, Nat.reduceSub, Array.replicate_succ, Array.replicate_zero, List.push_toArray, List.append_toArray, List.nil_append, List.cons_append]
 go_wp2_with (first | (go_at_call 69; refine (places_any s _).mono ?_; rintro e w1 ⟨rfl, rfl⟩))
 obtain ⟨W0, hW0⟩ : ∃ W0, ((w.alloc (.cells #[.pointer (some ⟨g, 0, none⟩)] 75)).alloc (.cells #[.int .u16 0] 86)).alloc (.cells #[.int .u16 s] 86) = W0 := ⟨_, rfl⟩
 have hsz : W0.heap.size = w.heap.size + 3 := by rw [← hW0]; simp
 have hr1 : Row 75 W0 w.heap.size [.pointer (some ⟨g, 0, none⟩)] := by rw [← hW0]; exact ((row_new 75 w #[.pointer (some ⟨g, 0, none⟩)]).alloc _).alloc _
 have hr2 : Row 86 W0 (w.heap.size + 1) [.int .u16 (nearOf E [])] := by rw [← hW0]; have := (row_new 86 (w.alloc (.cells #[.pointer (some ⟨g, 0, none⟩)] 75)) #[.int .u16 0]).alloc (.cells #[.int .u16 s] 86); rw [World.size_alloc] at this; exact this
 have hr3 : Row 86 W0 (w.heap.size + 1 + 1) [.int .u16 s] := by rw [← hW0]; have := row_new 86 ((w.alloc (.cells #[.pointer (some ⟨g, 0, none⟩)] 75)).alloc (.cells #[.int .u16 0] 86)) #[.int .u16 s]; rw [World.size_alloc, World.size_alloc] at this; exact this
 have hB0 : Below w.heap.size w W0 := by rw [← hW0]; exact (((Below.refl w.heap.size w).alloc (Nat.le_refl _) _).alloc (by simp) _).alloc (by simp; omega) _
 rw [hW0]
 clear hW0
 have HQ := Lib.hid hQ
 have HT := Lib.hid ht
 have HBD := Lib.hid hb
 clear hQ ht hb
 refine wp_range_places (s := s) (Bn := w.heap.size + 1 + 1) rfl hs hr3
  (fun pre W => (Row 75 W w.heap.size [.pointer (some ⟨g, 0, none⟩)] ∧ Row 86 W (w.heap.size + 1) [.int .u16 (nearOf E pre)]) ∧ Below w.heap.size w W)
  (fun _ _ _ => False)
  (((row_own _ _ _ _).and (row_own2 _ _ (fun pre => [.int .u16 (nearOf E pre)]) _)).and (ownFrom_below (Nat.le_refl _) (by omega)))
  (fun _ _ _ _ _ hs _ _ => hs)
  (fun pre W h => HT.out.below h.2 HT.out.lt)
  (fun pre W t h => ⟨⟨h.1.1.other _ (by dsimp only; omega) _, h.1.2.other _ (by dsimp only; omega) _⟩, h.2.setCell (by dsimp only; omega) _⟩)
  ⟨⟨hr1, hr2⟩, hB0⟩
  (fun x => { tmps := #[.pointer (some ⟨g, 0, none⟩), .int .u16 s, .pointer (some ⟨w.heap.size, 0, none⟩), undef, .int .u16 0, .pointer (some ⟨w.heap.size + 1, 0, none⟩), .int .i64 (x : Nat), .int .u16 s, .func (.func 84) #[] #[.pointer (some ⟨w.heap.size + 1 + 1, 0, none⟩)], .int .i64 (x : Nat), undef, undef, undef, undef, undef, undef, undef, undef, undef], defers := [] }) ?assign ?body ?done ?stop
 case assign =>
  intro l' x W K hK
  gi_wp2
  exact hK
 case body =>
  clear hr1 hr2 hr3 hB0
  rintro l' pre x W ⟨⟨h1, h2⟩, hb⟩ ⟨post, hpost⟩
  have hx9 : x < 9 := (mem_pls (s := s).1 (by rw [hpost]; simp)).1
  have hk1 := h1.cell 0
  have hk2 := h2.cell 0
  have hf2 := h2.free 0
  have hnx := BoardR.next (Row.below HBD.out hb hg) x hx9
  simp only [List.getElem?_cons_zero] at hk1 hk2
  have hor := or_u16 (nearOf_lt (n := 9) hE pre) (nb_lt (n := 9) hE x)
  rw [← nearOf_snoc] at hor
  have H1 := Lib.hid h1
  have H2 := Lib.hid h2
  have HB := Lib.hid hb
  clear h1 h2 hb hpost
  have HFIN : Hid (ownPostK (KeepB (w.heap.size + 1 + 1)) (fun pre W => (Row 75 W w.heap.size [.pointer (some ⟨g, 0, none⟩)] ∧ Row 86 W (w.heap.size + 1) [.int .u16 (nearOf E pre)]) ∧ Below w.heap.size w W) (fun _ _ _ => False) (pre ++ [x]) W Exit.normal (⟨#[], []⟩ : Act) (W.setCell ⟨w.heap.size + 1, 0, none⟩ (.int .u16 (nearOf E (pre ++ [x])))).drew) := by
   exact ⟨(KeepsOthers.setCell W ⟨w.heap.size + 1, 0, none⟩ (.int .u16 (nearOf E (pre ++ [x])))).trans ⟨Nat.le_refl _, fun _ _ h _ => h⟩, setCell_heap_ne (by omega), ⟨H1.out.other ⟨w.heap.size + 1, 0, none⟩ (by dsimp only; omega) _, H2.out.store 0 (.int .u16 (nearOf E (pre ++ [x])))⟩, (HB.out.setCell (p := ⟨w.heap.size + 1, 0, none⟩) (by dsimp only; omega) (.int .u16 (nearOf E (pre ++ [x])))).drew⟩
  clear HQ H1 H2 HB HT HBD
  gi_wp2
  gi_region
  all_goals (gi_wp2; exact HFIN.out)
 case done =>
  clear hr1 hr2 hr3
  rintro D W hD ⟨⟨h1, h2⟩, hb⟩ hK
  have hk2 := h2.cell 0
  simp only [List.getElem?_cons_zero] at hk2
  have HMK := Lib.hid ((Marks.nil w.heap.size W0).cons (Marks.nil _ _) hD (by omega) hK)
  have HB := Lib.hid hb
  have e1 : nearOf E (pls s) = near E s := rfl
  rw [e1] at hk2
  obtain ⟨N, hN⟩ : ∃ N, near E s = N := ⟨_, rfl⟩
  rw [hN] at hk2 HQ
  clear h1 h2 hb hB0 hN e1
  go_wp2
  refine (HQ.out _ _ ?_).1
  refine marks_leave HMK.out fun w' hb' hrow => ?_
  exact ⟨_, by simp [results, Tryd.results73, go_sem], rfl, HB.out.trans hb'⟩
 case stop => exact fun _ _ _ _ _ _ h => h.elim
end Go.Proofs.YtllhejjcmfiebaaDoor
namespace Go.Proofs.YtllhejjcmfiebaaDoor
open Go.RowKit Go.Shelf
def stepP (E : Es) (P s : Nat) : Nat := near E s &&& P
theorem stepP_lt {E : Es} (hE : Lt E 9) {P : Nat} (hP : P < 512) (s : Nat) : stepP E P s < 512 := Nat.lt_of_le_of_lt Nat.and_le_right hP
set_option maxRecDepth 100000 in
set_option maxHeartbeats 1000000 in
theorem conn1_go (g n c1 c2 P : Nat) (E : Es) (s : Nat) (hs : s < 512) (hP : P < 512) (hE : Lt E 9) (w : World) (hb : BoardR w g n E) (ht : Tab w) (h1 : Row 75 w c1 [.pointer (some ⟨g, 0, none⟩)]) (h2 : Row 86 w c2 [.int .u16 P]) :
  Calls Tryd.prog 86 #[.int .u16 s, .pointer (some ⟨c1, 0, none⟩), .pointer (some ⟨c2, 0, none⟩)] w fun e w' => e = .returned (.int .u16 (stepP E P s)) ∧ Below w.heap.size w w' := by
 have HN := Lib.hid (fun n' => near_go g n E s hs hE (w.drewN n') (hb.below (below_drewN (Below.refl w.heap.size w) n') hb.lt) (ht.below (below_drewN (Below.refl w.heap.size w) n') ht.lt))
 have hk1 := h1.cell 0
 have hk2 := h2.cell 0
 simp only [List.getElem?_cons_zero] at hk1 hk2
 have hand : bits .and .u16 (near E s : Nat) (P : Nat) = ((stepP E P s : Nat) : Int) := and_u16 (near_lt (n := 9) hE s) hP
 have H2 := Lib.hid h2
 obtain ⟨N, hN⟩ : ∃ N, near E s = N := ⟨_, rfl⟩
 obtain ⟨M, hM⟩ : ∃ M, stepP E P s = M := ⟨_, rfl⟩
 rw [hN] at HN hand
 rw [hM] at hand ⊢
 clear hb ht h1 h2 hN hM
 go_enter Tryd.func86, Tryd.ntmps86
 go_wp2
 go_region_with (go_at_call 73; refine (HN.out 1).mono ?_; rintro e w1 ⟨rfl, hb1⟩; have k2 := (H2.out.below (Below.trans (below_drewN (Below.refl w.heap.size w) 1) hb1) H2.out.lt).cell 0; simp only [List.getElem?_cons_zero] at k2; have HB1 := Lib.hid (Below.trans (below_drewN (Below.refl w.heap.size w) 1) hb1); clear hb1)
 all_goals
  go_wp2
  go_ret
  exact ⟨rfl, HB1.out⟩
set_option maxRecDepth 100000 in
set_option maxHeartbeats 1000000 in
theorem grown_conn (g n c1 c2 P : Nat) (E : Es) (s0 : Nat) (hs0 : s0 < 512) (hP : P < 512) (hE : Lt E 9) (Inv : Nat → Prop) (h0 : Inv s0) (hI : ∀ s, s < 512 → Inv s → Inv (s ||| stepP E P s))
  (w : World) (hb : BoardR w g n E) (ht : Tab w) (h1 : Row 75 w c1 [.pointer (some ⟨g, 0, none⟩)]) (h2 : Row 86 w c2 [.int .u16 P]) :
  Calls Tryd.prog 71 #[.int .u16 s0, .func (.func 86) #[] #[.pointer (some ⟨c1, 0, none⟩), .pointer (some ⟨c2, 0, none⟩)]] w
   fun e w' => ∃ t, e = .returned (.int .u16 (t : Nat)) ∧ t < 512 ∧ Inv t ∧ t ||| stepP E P t = t ∧ Below w.heap.size w w' := by
 have HC := Lib.hid (fun s hs W (hB : Below w.heap.size w W) => conn1_go g n c1 c2 P E s hs hP hE W (hb.below hB hb.lt) (ht.below hB ht.lt) (h1.below hB h1.lt) (h2.below hB h2.lt))
 have HI := Lib.hid hI
 have H0 := Lib.hid h0
 have HLT := Lib.hid (fun s => stepP_lt hE hP s)
 clear hb ht h1 h2 hI h0
 go_enter Tryd.func71, Tryd.ntmps71
 go_wp2
 go_loopw [0] (fun sv wr => ∃ s : Nat, sv = .int .u16 s ∧ s < 512 ∧ Inv s ∧ Below w.heap.size w wr) (fun sv _ => 9 - card (intOf sv).toNat)
 case atStart => exact ⟨s0, rfl, hs0, H0.out, Below.refl _ _⟩
 case round =>
  obtain ⟨s, rfl, hs, hi, hbel⟩ := hrel
  have HCC := Lib.hid (HC.out s hs wr hbel)
  have hor := or_u16 hs (HLT.out s)
  have HB := Lib.hid hbel
  have HNI := Lib.hid (HI.out s hs hi)
  have HIS := Lib.hid hi
  have HT512 : Hid (s ||| stepP E P s < 512) := Nat.or_lt_two_pow (n := 9) hs (HLT.out s)
  have HM : Hid (s ||| stepP E P s ≠ s → 9 - card (s ||| stepP E P s) < 9 - card s) := by
   intro hne
   have h1 := card_lt (s := s) (t := s ||| stepP E P s) HT512.out (fun i hi => by rw [Nat.testBit_or, hi]; rfl) (fun h => hne h.symm)
   have h2 := card_le (s ||| stepP E P s)
   omega
  have HEQ : Hid (∀ t, s ||| stepP E P s = t → s ||| stepP E P s = t) := fun _ h => h
  obtain ⟨N, hN⟩ : ∃ N, stepP E P s = N := ⟨_, rfl⟩
  obtain ⟨t, ht⟩ : ∃ t, s ||| stepP E P s = t := ⟨_, rfl⟩
  have HTT := Lib.hid ht
  rw [ht] at HNI HT512 HM hor
  rw [hN] at HCC hor
  clear hi hbel ht hN
  by_cases heq : t = s
  ·subst heq
   have hd : ((t : Int) == (t : Int)) = true := by simp
   go_wp2_with (first | (go_at_call 86; refine HCC.out.mono ?_; rintro e w1 ⟨rfl, hb1⟩; have HB1 := Lib.hid (HB.out.trans (hb1.mono HB.out.size)); clear hb1))
   go_ret
   exact ⟨t, rfl, hs, HIS.out, HTT.out, HB1.out⟩
  ·have hd : ((t : Int) == (s : Int)) = false := by rw [beq_eq_false_iff_ne]; omega
   have HMM := Lib.hid (HM.out heq)
   clear HM heq
   go_wp2_with (first | (go_at_call 86; refine HCC.out.mono ?_; rintro e w1 ⟨rfl, hb1⟩; have HB1 := Lib.hid (HB.out.trans (hb1.mono HB.out.size)); clear hb1))
   go_roundw
   case rel => exact ⟨t, rfl, HT512.out, HNI.out, HB1.out⟩
   case measure => have := HMM.out; simpa [intOf] using this
end Go.Proofs.YtllhejjcmfiebaaDoor
namespace Go.Proofs.YtllhejjcmfiebaaDoor
open Go.RowKit Go.Shelf
def lowOk (n : Nat) : Bool := bits .and .u16 (n : Int) (IntKind.u16.wrap (-(n : Int))) == ((2 ^ lowN 16 n : Nat) : Int) && decide (lowN 16 n < 9) && n.testBit (lowN 16 n)
theorem low_all : ((List.range 512).all fun n => n == 0 || lowOk n) = true := by decide +kernel
theorem low_facts {n : Nat} (h0 : 0 < n) (hn : n < 512) : bits .and .u16 (n : Int) (IntKind.u16.wrap (-(n : Int))) = ((2 ^ lowN 16 n : Nat) : Int) ∧ lowN 16 n < 9 ∧ n.testBit (lowN 16 n) = true := by
 have h := List.all_eq_true.1 low_all n (List.mem_range.2 hn)
 simp only [Bool.or_eq_true, beq_iff_eq, lowOk, Bool.and_eq_true, decide_eq_true_eq] at h
 rcases h with h | ⟨⟨h1, h2⟩, h3⟩
 ·omega
 ·exact ⟨h1, h2, h3⟩
def InvC (E : Es) (P first s : Nat) : Prop := s.testBit first = true ∧ (∀ i, s.testBit i = true → P.testBit i = true) ∧
 ∀ T : Nat → Prop, T first → (∀ a b, Adj E a b → P.testBit a = true → P.testBit b = true → T a → T b) → ∀ i, s.testBit i = true → T i
theorem stepP_bit (E : Es) (P s j : Nat) : (stepP E P s).testBit j = true ↔ (∃ p, p < 9 ∧ s.testBit p = true ∧ Adj E p j) ∧ P.testBit j = true := by
 unfold stepP
 rw [Nat.testBit_and, Bool.and_eq_true, near_bit]
theorem InvC.start {E : Es} {P first : Nat} (h : P.testBit first = true) : InvC E P first (2 ^ first) := by
 have hb : ∀ i, (2 ^ first).testBit i = true → i = first := fun i hi => by rw [bit_pow] at hi; exact (of_decide_eq_true hi).symm
 exact ⟨by rw [bit_pow]; simp, fun i hi => by rw [hb i hi]; exact h, fun T hT _ i hi => by rw [hb i hi]; exact hT⟩
theorem InvC.step {E : Es} {P first s : Nat} (h : InvC E P first s) : InvC E P first (s ||| stepP E P s) := by
 obtain ⟨h1, h2, h3⟩ := h
 refine ⟨by rw [Nat.testBit_or, h1]; rfl, fun i hi => ?_, fun T hT hc i hi => ?_⟩
 ·rw [Nat.testBit_or, Bool.or_eq_true, stepP_bit] at hi
  rcases hi with hi | hi
  ·exact h2 i hi
  ·exact hi.2
 ·rw [Nat.testBit_or, Bool.or_eq_true, stepP_bit] at hi
  rcases hi with hi | ⟨⟨p, _, hp, ha⟩, hi⟩
  ·exact h3 T hT hc i hi
  ·exact hc p i ha (h2 p hp) hi (h3 T hT hc p hp)
theorem InvC.least {E : Es} {P first t : Nat} (h : InvC E P first t) (ht : t < 512) (hf : t ||| stepP E P t = t) : Least E (fun i => P.testBit i = true) first t := by
 obtain ⟨h1, h2, h3⟩ := h
 refine ⟨h1, h2, fun a b ha hPa hPb hta => ?_, h3⟩
 have : (t ||| stepP E P t).testBit b = true := by
  rw [Nat.testBit_or, Bool.or_eq_true, stepP_bit]
  exact .inr ⟨⟨a, bit_lt (n := 9) ht hta, hta, ha⟩, hPb⟩
 rw [hf] at this; exact this
set_option maxRecDepth 100000 in
set_option maxHeartbeats 1000000 in
theorem conn_go (g n P : Nat) (E : Es) (h0 : 0 < P) (hP : P < 512) (hE : Lt E 9) (w : World) (hb : BoardR w g n E) (ht : Tab w) :
  Calls Tryd.prog 70 #[.pointer (some ⟨g, 0, none⟩), .int .u16 P] w fun e w' => ∃ t, Least E (fun i => P.testBit i = true) (lowN 16 P) t ∧ e = .returned (.bool (decide (t = P))) ∧ Below w.heap.size w w' := by
 obtain ⟨hlow, hl9, hlb⟩ := low_facts h0 hP
 have hF : 2 ^ lowN 16 P < 512 := Nat.pow_lt_pow_right (by omega : 1 < 2) hl9
 have hr1 : Row 75 ((w.alloc (.cells #[.pointer (some ⟨g, 0, none⟩)] 75)).alloc (.cells #[.int .u16 P] 86)) w.heap.size [.pointer (some ⟨g, 0, none⟩)] := (row_new 75 w #[.pointer (some ⟨g, 0, none⟩)]).alloc _
 have hr2 := row_new 86 (w.alloc (.cells #[.pointer (some ⟨g, 0, none⟩)] 75)) #[.int .u16 P]
 rw [World.size_alloc] at hr2
 have hB0 : Below w.heap.size w ((w.alloc (.cells #[.pointer (some ⟨g, 0, none⟩)] 75)).alloc (.cells #[.int .u16 P] 86)) := ((Below.refl w.heap.size w).alloc (Nat.le_refl _) _).alloc (by simp) _
 obtain ⟨W0, hW0⟩ : ∃ W0, (w.alloc (.cells #[.pointer (some ⟨g, 0, none⟩)] 75)).alloc (.cells #[.int .u16 P] 86) = W0 := ⟨_, rfl⟩
 rw [hW0] at hr1 hr2 hB0
 have hsz : W0.heap.size = w.heap.size + 2 := by rw [← hW0]; simp
 have hd := below_drewN (Below.refl W0.heap.size W0) 1
 have HG := Lib.hid (grown_conn g n w.heap.size (w.heap.size + 1) P E (2 ^ lowN 16 P) hF hP hE (InvC E P (lowN 16 P)) (InvC.start hlb) (fun s _ h => h.step) (W0.drewN 1) ((hb.below hB0 hb.lt).below hd (by have := hb.lt; omega)) ((ht.below hB0 ht.lt).below hd (by have := ht.lt; omega)) (hr1.below hd hr1.lt) (hr2.below hd hr2.lt))
 have HD := Lib.hid (hB0.trans (hd.mono (by omega)))
 have HR2 := Lib.hid (hr2.below hd hr2.lt)
 have HSZ : Hid (w.heap.size ≤ (W0.drewN 1).heap.size) := HD.out.size
 obtain ⟨F, hFF⟩ : ∃ F, 2 ^ lowN 16 P = F := ⟨_, rfl⟩
 rw [hFF] at hlow HG
 have hk2 := hr2.cell 0
 have hk1 : ((w.alloc (.cells #[.pointer (some ⟨g, 0, none⟩)] 75)).alloc (.cells #[.int .u16 P] 86)).cell? ⟨w.heap.size + 1, 0, none⟩ = some (.int .u16 P) := by rw [hW0]; exact hk2
 simp only [List.getElem?_cons_zero] at hk2
 clear hb ht hr1 hr2 hB0 hlb hl9 hF hFF hd hsz
 go_enter Tryd.func70, Tryd.ntmps70
 go_wp2
 clear hk1 hW0
 go_region_with (go_at_call 71; refine HG.out.mono ?_; rintro e w1 ⟨t, rfl, ht5, hinv, hfix, hb1⟩; have k2 := (HR2.out.below hb1 HR2.out.lt).cell 0; simp only [List.getElem?_cons_zero] at k2; have HB1 := Lib.hid (HD.out.trans (hb1.mono HSZ.out)); have HL := Lib.hid (hinv.least ht5 hfix); clear hb1 hinv hfix)
 all_goals
  have HDD : Hid (((t : Int) == (P : Int)) = decide (t = P)) := by
   show _ = _
   by_cases h : t = P
   ·subst h; simp
   ·have h' : ((t : Int) == (P : Int)) = false := by rw [beq_eq_false_iff_ne]; omega
    rw [h']; simp [h]
  go_wp2
  go_ret
  refine ⟨t, HL.out, ?_, HB1.out⟩
  have hdd := HDD.out
  go_simp
end Go.Proofs.YtllhejjcmfiebaaDoor
namespace Go.Proofs.YtllhejjcmfiebaaDoor
open Go.RowKit Go.Shelf
def cmpI (a b : Int) : Int := if a < b then -1 else if b < a then 1 else 0
theorem nan_go (a : Int) (w : World) : Calls Tryd.prog 95 #[.int .i64 a] w fun e w' => e = .returned (.bool false) ∧ w' = w := by
 have hd : (a != a) = false := by simp
 go_enter Tryd.func95, Tryd.ntmps95
 go_wp2
 go_ret
 exact ⟨rfl, rfl⟩
theorem cmp_go (a b : Int) (w : World) : Calls Tryd.prog 92 #[.int .i64 a, .int .i64 b] w fun e w' => e = .returned (.int .i64 (cmpI a b)) ∧ w' = w := by
 have HC : Hid (cmpI a b = if a < b then -1 else if b < a then 1 else 0) := rfl
 have HA := Lib.hid (fun W => nan_go a W)
 have HB := Lib.hid (fun W => nan_go b W)
 by_cases h1 : a < b
 ·have HR : Hid (cmpI a b = -1) := by show _ = _; rw [HC.out, if_pos h1]
  go_enter Tryd.func92, Tryd.ntmps92
  go_wp2_with fail
  refine (HA.out _).mono ?_
  rintro e w' ⟨rfl, rfl⟩
  go_wp2_with fail
  refine (HB.out _).mono ?_
  rintro e w' ⟨rfl, rfl⟩
  go_wp2
  go_ret
  exact ⟨by rw [HR.out]; rfl, rfl⟩
 ·by_cases h2 : b < a
  ·have HR : Hid (cmpI a b = 1) := by show _ = _; rw [HC.out, if_neg h1, if_pos h2]
   go_enter Tryd.func92, Tryd.ntmps92
   go_wp2_with fail
   refine (HA.out _).mono ?_
   rintro e w' ⟨rfl, rfl⟩
   go_wp2_with fail
   refine (HB.out _).mono ?_
   rintro e w' ⟨rfl, rfl⟩
   go_wp2
   go_ret
   exact ⟨by rw [HR.out]; rfl, rfl⟩
  ·have HR : Hid (cmpI a b = 0) := by show _ = _; rw [HC.out, if_neg h1, if_neg h2]
   go_enter Tryd.func92, Tryd.ntmps92
   go_wp2_with fail
   refine (HA.out _).mono ?_
   rintro e w' ⟨rfl, rfl⟩
   go_wp2_with fail
   refine (HB.out _).mono ?_
   rintro e w' ⟨rfl, rfl⟩
   go_wp2
   go_ret
   exact ⟨by rw [HR.out]; rfl, rfl⟩
def cmp2 (a b c d : Int) : Int := if cmpI a c = 0 then cmpI b d else cmpI a c
set_option maxRecDepth 100000 in
set_option maxHeartbeats 1000000 in
theorem compare2_go (g h : Nat) (a b c d : Int) (w : World) (ha : w.cell? ⟨g, 0, none⟩ = some (.int .i64 a)) (hb : w.cell? ⟨g, 1, none⟩ = some (.int .i64 b)) (hc : w.cell? ⟨h, 0, none⟩ = some (.int .i64 c)) (hd : w.cell? ⟨h, 1, none⟩ = some (.int .i64 d)) :
  Calls Tryd.prog 83 #[.slice (some ⟨g, 0, none⟩) 2 2, .slice (some ⟨h, 0, none⟩) 2 2] w fun e w' => e = .returned (.int .i64 (cmp2 a b c d)) ∧ w' = w := by
 have H1 := Lib.hid (fun W => cmp_go a c W)
 have H2 := Lib.hid (fun W => cmp_go b d W)
 have HR : Hid (cmp2 a b c d = if cmpI a c = 0 then cmpI b d else cmpI a c) := rfl
 obtain ⟨x, hx⟩ : ∃ x, cmpI a c = x := ⟨_, rfl⟩
 obtain ⟨y, hy⟩ : ∃ y, cmpI b d = y := ⟨_, rfl⟩
 obtain ⟨r, hr⟩ : ∃ r, cmp2 a b c d = r := ⟨_, rfl⟩
 rw [hx] at H1
 rw [hy] at H2
 rw [hr, hx, hy] at HR
 rw [hr]
 clear hx hy hr
 go_enter Tryd.func83, Tryd.ntmps83
 go_wp2
 go_loopw [11] (fun i wr => ∃ k : Nat, k ≤ 2 ∧ i = .int .i64 k ∧ wr = w ∧ (1 ≤ k → x = 0) ∧ (2 ≤ k → y = 0)) (fun i _ => 2 - (intOf i).toNat)
 case atStart => exact ⟨0, by omega, rfl, rfl, fun h => by omega, fun h => by omega⟩
 case round =>
  obtain ⟨k, hk, rfl, hwr, h1, h2⟩ := hrel
  subst hwr
  rcases (by omega : k = 0 ∨ k = 1 ∨ k = 2) with hk0 | hk1 | hk2
  ·have hkz : (k : Int) = 0 := by omega
   by_cases hx0 : x = 0
   ·have HX := Lib.hid hx0
    subst hx0
    subst hk0
    go_wp2_with fail
    refine (H1.out _).mono ?_
    rintro e w' ⟨rfl, rfl⟩
    go_wp2
    go_roundw
    case rel => exact ⟨1, by omega, rfl, by simp⟩
    case measure => simp [intOf]
   ·have hne : (x != 0) = true := by rw [bne_iff_ne]; exact hx0
    have HRR : Hid (r = x) := by show _ = _; rw [HR.out, if_neg hx0]
    subst hk0
    go_wp2_with fail
    refine (H1.out _).mono ?_
    rintro e w' ⟨rfl, rfl⟩
    go_wp2
    go_ret
    exact ⟨by rw [HRR.out]; rfl, rfl⟩
  ·have hx0 := h1 (by omega)
   subst hx0
   subst hk1
   by_cases hy0 : y = 0
   ·have HX := Lib.hid hy0
    subst hy0
    go_wp2_with fail
    refine (H2.out _).mono ?_
    rintro e w' ⟨rfl, rfl⟩
    go_wp2
    go_roundw
    case rel => exact ⟨2, by omega, rfl, by simp⟩
    case measure => simp [intOf]
   ·have hne : (y != 0) = true := by rw [bne_iff_ne]; exact hy0
    have HRR : Hid (r = y) := by show _ = _; rw [HR.out, if_pos rfl]
    go_wp2_with fail
    refine (H2.out _).mono ?_
    rintro e w' ⟨rfl, rfl⟩
    go_wp2
    go_ret
    exact ⟨by rw [HRR.out]; rfl, rfl⟩
  ·have hx0 := h1 (by omega)
   have hy0 := h2 (by omega)
   subst hx0 hy0 hk2
   have HRR : Hid (r = 0) := by show _ = _; rw [HR.out, if_pos rfl]
   go_wp2
   go_ret
   exact ⟨by rw [HRR.out]; rfl, rfl⟩
end Go.Proofs.YtllhejjcmfiebaaDoor
