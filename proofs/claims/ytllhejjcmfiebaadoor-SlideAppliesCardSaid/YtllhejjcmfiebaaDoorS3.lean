/- The program's near. -/
import Derived.Test.YtllhejjcmfiebaaDoorS2
import Derived.RegionIn
import Derived.BigRegionIn
set_option linter.unusedVariables false
set_option linter.unusedSimpArgs false
set_option linter.unnecessarySimpa false
namespace Go.Proofs.YtllhejjcmfiebaaDoor
open Go.RowKit Go.Shelf
attribute [local go_sem] Oper.semAt_some

/-- a board in memory: its number of places, and for each of nine places those to which it has edges -/
def boardC (n : Nat) (E : Es) : List Value := [.int .i64 n, .int .u16 (nb E 0), .int .u16 (nb E 1), .int .u16 (nb E 2), .int .u16 (nb E 3), .int .u16 (nb E 4), .int .u16 (nb E 5), .int .u16 (nb E 6), .int .u16 (nb E 7), .int .u16 (nb E 8)]
def BoardR (w : World) (g n : Nat) (E : Es) : Prop := Row 109 w g (boardC n E)
theorem BoardR.next {w : World} {g n : Nat} {E : Es} (h : BoardR w g n E) (i : Nat) (hi : i < 9) : w.cell? ⟨g, 1 + i, none⟩ = some (.int .u16 (nb E i)) := by
  have hc := h.cell (1 + i)
  rw [hc]
  rcases (by omega : i = 0 ∨ i = 1 ∨ i = 2 ∨ i = 3 ∨ i = 4 ∨ i = 5 ∨ i = 6 ∨ i = 7 ∨ i = 8) with rfl | rfl | rfl | rfl | rfl | rfl | rfl | rfl | rfl <;> rfl
theorem u16_small {m : Nat} (h : m < 512) : IntKind.u16.wrap (m : Int) = (m : Int) := by
  simp [IntKind.wrap, IntKind.bits, IntKind.signed]; omega
theorem or_u16 {a b : Nat} (ha : a < 512) (hb : b < 512) : bits .or .u16 (a : Int) (b : Int) = ((a ||| b : Nat) : Int) := by
  have e : (BitVec.ofInt 16 (a : Int) ||| BitVec.ofInt 16 (b : Int)).toNat = a ||| b := by
    rw [BitVec.toNat_or, BitVec.ofInt_natCast, BitVec.ofInt_natCast, BitVec.toNat_ofNat, BitVec.toNat_ofNat, Nat.mod_eq_of_lt (by omega), Nat.mod_eq_of_lt (by omega)]
  show IntKind.u16.wrap (((BitVec.ofInt 16 (a : Int) ||| BitVec.ofInt 16 (b : Int)).toNat : Nat) : Int) = _
  rw [e]
  exact u16_small (Nat.or_lt_two_pow (n := 9) ha hb)
theorem and_u16 {a b : Nat} (ha : a < 512) (hb : b < 512) : bits .and .u16 (a : Int) (b : Int) = ((a &&& b : Nat) : Int) := by
  have e : (BitVec.ofInt 16 (a : Int) &&& BitVec.ofInt 16 (b : Int)).toNat = a &&& b := by
    rw [BitVec.toNat_and, BitVec.ofInt_natCast, BitVec.ofInt_natCast, BitVec.toNat_ofNat, BitVec.toNat_ofNat, Nat.mod_eq_of_lt (by omega), Nat.mod_eq_of_lt (by omega)]
  show IntKind.u16.wrap (((BitVec.ofInt 16 (a : Int) &&& BitVec.ofInt 16 (b : Int)).toNat : Nat) : Int) = _
  rw [e]
  exact u16_small (Nat.lt_of_le_of_lt Nat.and_le_left ha)
theorem KeepsOthers.of_below {W W' : World} (h : Below W.heap.size W W') : KeepsOthers W W' :=
  ⟨h.size, fun k o hk _ => (h.block k (Array.getElem?_eq_some_iff.1 hk).1).trans hk⟩
theorem Row.turn {T B : Nat} {w w' : World} {g : Nat} {xs : List Value} {row : Option Nat} (h : Row T w g xs) (hg : w.grownBy w' row) (hr : ∀ r, row = some r → B ≤ r ∧ ∃ o : Obj, w.heap[r]? = some o ∧ o.isCells = false) : Row T w' g xs :=
  h.grown hg fun e => by
    obtain ⟨_, o, ho, hc⟩ := hr g e.symm
    unfold Row at h
    rw [h] at ho; cases ho; cases hc
theorem row_own (T g : Nat) (xs : List Value) {β : Type} (B : Nat) : OwnFrom B (fun (_ : β) W => Row T W g xs) := fun _ _ _ _ hs hg hr => hs.turn hg hr
theorem row_own2 (T g : Nat) {β : Type} (xs : β → List Value) (B : Nat) : OwnFrom B (fun (b : β) W => Row T W g (xs b)) := fun _ _ _ _ hs hg hr => hs.turn hg hr
set_option maxRecDepth 100000 in
set_option maxHeartbeats 2000000 in
theorem near_go (g n : Nat) (E : Es) (s : Nat) (hs : s < 512) (hE : Lt E 9) (w : World) (hb : BoardR w g n E) (ht : Tab w) :
    Calls Tryd.prog 73 #[.pointer (some ⟨g, 0, none⟩), .int .u16 s] w fun e w' => e = .returned (.int .u16 (near E s)) ∧ Below w.heap.size w w' := by
  have hg := hb.lt
  refine calls_marks Tryd.func73 rfl ?_
  intro Q hQ
  simp only [Tryd.ntmps73, List.size_toArray, List.length_cons, List.length_nil, Nat.reduceAdd, Nat.reduceSub, Array.replicate_succ, Array.replicate_zero, List.push_toArray, List.append_toArray, List.nil_append, List.cons_append]
  go_wp2_with (first | (go_at_call 69; refine (places_any s _).mono ?_; rintro e w1 ⟨rfl, rfl⟩))
  obtain ⟨W0, hW0⟩ : ∃ W0, ((w.alloc (.cells #[.pointer (some ⟨g, 0, none⟩)] 75)).alloc (.cells #[.int .u16 0] 86)).alloc (.cells #[.int .u16 s] 86) = W0 := ⟨_, rfl⟩
  have hsz : W0.heap.size = w.heap.size + 3 := by rw [← hW0]; simp
  have hr1 : Row 75 W0 w.heap.size [.pointer (some ⟨g, 0, none⟩)] := by rw [← hW0]; exact ((row_new 75 w #[.pointer (some ⟨g, 0, none⟩)]).alloc _).alloc _
  have hr2 : Row 86 W0 (w.heap.size + 1) [.int .u16 (nearOf E [])] := by rw [← hW0]; have := (row_new 86 (w.alloc (.cells #[.pointer (some ⟨g, 0, none⟩)] 75)) #[.int .u16 0]).alloc (.cells #[.int .u16 s] 86); rw [World.size_alloc] at this; exact this
  have hr3 : Row 86 W0 (w.heap.size + 1 + 1) [.int .u16 s] := by rw [← hW0]; have := row_new 86 ((w.alloc (.cells #[.pointer (some ⟨g, 0, none⟩)] 75)).alloc (.cells #[.int .u16 0] 86)) #[.int .u16 s]; rw [World.size_alloc, World.size_alloc] at this; exact this
  have hB0 : Below w.heap.size w W0 := by rw [← hW0]; exact (((Below.refl w.heap.size w).alloc (Nat.le_refl _) _).alloc (by simp) _).alloc (by simp; omega) _
  rw [hW0]
  clear hW0
  have HQ := Lib.hid hQ
  have HT := Lib.hid ht
  have HBD := Lib.hid hb
  clear hQ ht hb
  refine wp_range_places (s := s) (Bn := w.heap.size + 1 + 1) rfl hs hr3
    (fun pre W => (Row 75 W w.heap.size [.pointer (some ⟨g, 0, none⟩)] ∧ Row 86 W (w.heap.size + 1) [.int .u16 (nearOf E pre)]) ∧ Below w.heap.size w W)
    (fun _ _ _ => False)
    (((row_own _ _ _ _).and (row_own2 _ _ (fun pre => [.int .u16 (nearOf E pre)]) _)).and (ownFrom_below (Nat.le_refl _) (by omega)))
    (fun _ _ _ _ _ hs _ _ => hs)
    (fun pre W h => HT.out.below h.2 HT.out.lt)
    (fun pre W t h => ⟨⟨h.1.1.other _ (by dsimp only; omega) _, h.1.2.other _ (by dsimp only; omega) _⟩, h.2.setCell (by dsimp only; omega) _⟩)
    ⟨⟨hr1, hr2⟩, hB0⟩
    (fun x => { tmps := #[.pointer (some ⟨g, 0, none⟩), .int .u16 s, .pointer (some ⟨w.heap.size, 0, none⟩), undef, .int .u16 0, .pointer (some ⟨w.heap.size + 1, 0, none⟩), .int .i64 (x : Nat), .int .u16 s, .func (.func 84) #[] #[.pointer (some ⟨w.heap.size + 1 + 1, 0, none⟩)], .int .i64 (x : Nat), undef, undef, undef, undef, undef, undef, undef, undef, undef], defers := [] }) ?assign ?body ?done ?stop
  case assign =>
    intro l' x W K hK
    gi_wp2
    exact hK
  case body =>
    clear hr1 hr2 hr3 hB0
    rintro l' pre x W ⟨⟨h1, h2⟩, hb⟩ ⟨post, hpost⟩
    have hx9 : x < 9 := (mem_pls (s := s).1 (by rw [hpost]; simp)).1
    have hk1 := h1.cell 0
    have hk2 := h2.cell 0
    have hf2 := h2.free 0
    have hnx := BoardR.next (Row.below HBD.out hb hg) x hx9
    simp only [List.getElem?_cons_zero] at hk1 hk2
    have hor := or_u16 (nearOf_lt (n := 9) hE pre) (nb_lt (n := 9) hE x)
    rw [← nearOf_snoc] at hor
    have H1 := Lib.hid h1
    have H2 := Lib.hid h2
    have HB := Lib.hid hb
    clear h1 h2 hb hpost
    have HFIN : Hid (ownPostK (KeepB (w.heap.size + 1 + 1)) (fun pre W => (Row 75 W w.heap.size [.pointer (some ⟨g, 0, none⟩)] ∧ Row 86 W (w.heap.size + 1) [.int .u16 (nearOf E pre)]) ∧ Below w.heap.size w W) (fun _ _ _ => False) (pre ++ [x]) W Exit.normal (⟨#[], []⟩ : Act) (W.setCell ⟨w.heap.size + 1, 0, none⟩ (.int .u16 (nearOf E (pre ++ [x])))).drew) := by
      exact ⟨(KeepsOthers.setCell W ⟨w.heap.size + 1, 0, none⟩ (.int .u16 (nearOf E (pre ++ [x])))).trans ⟨Nat.le_refl _, fun _ _ h _ => h⟩, setCell_heap_ne (by omega), ⟨H1.out.other ⟨w.heap.size + 1, 0, none⟩ (by dsimp only; omega) _, H2.out.store 0 (.int .u16 (nearOf E (pre ++ [x])))⟩, (HB.out.setCell (p := ⟨w.heap.size + 1, 0, none⟩) (by dsimp only; omega) (.int .u16 (nearOf E (pre ++ [x])))).drew⟩
    clear HQ H1 H2 HB HT HBD
    gi_wp2
    gi_region
    all_goals (gi_wp2; exact HFIN.out)
  case done =>
    clear hr1 hr2 hr3
    rintro D W hD ⟨⟨h1, h2⟩, hb⟩ hK
    have hk2 := h2.cell 0
    simp only [List.getElem?_cons_zero] at hk2
    have HMK := Lib.hid ((Marks.nil w.heap.size W0).cons (Marks.nil _ _) hD (by omega) hK)
    have HB := Lib.hid hb
    have e1 : nearOf E (pls s) = near E s := rfl
    rw [e1] at hk2
    obtain ⟨N, hN⟩ : ∃ N, near E s = N := ⟨_, rfl⟩
    rw [hN] at hk2 HQ
    clear h1 h2 hb hB0 hN e1
    go_wp2
    refine (HQ.out _ _ ?_).1
    refine marks_leave HMK.out fun w' hb' hrow => ?_
    exact ⟨_, by simp [results, Tryd.results73, go_sem], rfl, HB.out.trans hb'⟩
  case stop => exact fun _ _ _ _ _ _ h => h.elim
end Go.Proofs.YtllhejjcmfiebaaDoor
