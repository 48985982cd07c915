/- The law's own board (tame): its walk. -/
import Derived.Test.YtllhejjcmfiebaaDoorS30
import Derived.Great.Walk
set_option linter.unusedVariables false
set_option linter.unusedSimpArgs false
set_option linter.unnecessarySimpa false
namespace Go.Proofs.YtllhejjcmfiebaaDoor
open Go.RowKit Go.Shelf
theorem PaA.toP {w : World} {v : Value} {l : Ps} (h : PaA w v l) : SlP w v l := by
 rcases h with ⟨rfl, rfl⟩ | ⟨ad, cap, rfl, h2, h3, h4⟩
 ·exact ⟨none, 0, rfl, Nat.le_refl _, Nat.zero_le _, fun h => absurd h (by simp)⟩
 ·refine ⟨some ad, cap, rfl, h2, h3, fun h0 => ⟨ad, rfl, ?_, fun i e he => ?_⟩⟩
  ·have := prs_get l 0 l[0] (List.getElem?_eq_getElem h0)
   have := World.block_lt_of_cell? _ _ (h4 (0 * 2) _ this.1)
   rw [block_add] at this; exact this
  ·obtain ⟨g1, g2⟩ := prs_get l i e he
   exact ⟨h4 _ _ g1, by rw [Go.Deep.add_add]; exact h4 _ _ g2⟩
theorem wpList_alloc_arr {P : Program} {ops : Array Oper} {rest : List Oper} {o : Oper} {a : Act} {w : World} {Q : Exit → Act → World → Prop} (hgd : o.guard = none) (t : TypeId) (ho : o.op = .alloc t) (z : Array Value) (n b : Nat)
  (hi : (P.info? t).map (fun i => (i.zero, i.size, i.bytes)) = some (some (.agg z), n, b))
  (h : wpList P ops Q rest (a.put o.dst (.pointer (some ⟨w.heap.size, 0, none⟩))) (w.alloc (.cells z t))) : wpList P ops Q (o :: rest) a w := by
 refine Go.Great.wpList_runTo hgd o.dst rfl _ (w.alloc (.cells z t)) ?_ h
 cases hq : P.info? t with
 | none => rw [hq] at hi; cases hi
 | some i =>
  rw [hq] at hi
  simp at hi
  unfold execOp
  rw [ho]
  simp [Instr.alloc, zeroValue, typeInfo, hq, hi.1, newVar, newRow, go_sem, Value.cells, Result.andThen]
theorem Tryd.info81 : (Tryd.prog.info? 98).map (fun i => (i.zero, i.size, i.bytes)) = some (some (.agg (seenC 81 0).toArray), 81, 81) := by kernel_rfl
theorem bdN {B : Nat} {a w : World} (h : Below B a w) (n : Nat) : Below B a (w.drewN n) := ⟨h.os, h.tape, h.output, h.size, h.block⟩
def isT : Option Value → Bool
 | some (.bool true) => true
 | _ => false
def leftW (w : World) (g : Nat) : Nat := (List.range 81).countP fun i => !isT (w.cell? ⟨g, i, none⟩)
theorem leftW_eq {T g U : Nat} {w : World} (h : Row T w g (seenC 81 U)) : leftW w g = left U := by
 unfold leftW left
 refine List.countP_congr fun i hi => ?_
 rw [h.cell i, seenC_get (List.mem_range.1 hi)]
 cases U.testBit i <;> simp [isT]
set_option maxRecDepth 100000 in
set_option maxHeartbeats 8000000 in
theorem tame_go (n : Int) (v : Value) (l : Ps) (most : Nat) (w : World) (hl : PaA w v l) (hm3 : 3 ≤ most) (hm9 : most ≤ 9) :
  Calls Tryd.prog 28 #[.int .i64 n, v, .int .i64 most] w fun e w' => ∃ (N : Nat) (x : Ps) (v' : Value), e = .returned (.tuple #[.int .i64 N, v']) ∧ 2 ≤ N ∧ N ≤ most ∧ OwnP w.heap.size w' v' x ∧ checkB N x = 0 ∧ Below w.heap.size w w' := by
 obtain ⟨p, cap, rfl, hl1, hl2⟩ := hl.form
 have HL := Lib.hid hl.toP
 clear hl
 have g1 : IntKind.i64.wrap ((most : Int) - 1) = (most : Int) - 1 := IntWalk.i64_in _ (by omega)
 have g2 : IntKind.u64.wrap ((most : Int) - 1) = (most : Int) - 1 := IntWalk.u64_in _ (by omega)
 obtain ⟨m, hm1, hm2⟩ := tmodN n (most - 1) (by omega)
 have g3 : (IntKind.u64.wrap n).tmod ((most : Int) - 1) = (m : Int) := by rw [show ((most : Int) - 1) = ((most - 1 : Nat) : Int) by omega]; exact hm2
 have g4 : IntKind.i64.wrap (m : Int) = (m : Int) := IntWalk.i64_in _ (by omega)
 have g5 : IntKind.i64.wrap (2 + (m : Int)) = ((m + 2 : Nat) : Int) := by rw [show (2 + (m : Int)) = ((m + 2 : Nat) : Int) by omega]; exact IntWalk.i64_in _ (by omega)
 obtain ⟨N, hN⟩ : ∃ N, m + 2 = N := ⟨_, rfl⟩
 rw [hN] at g5
 have hN2 : 2 ≤ N := by omega
 have hNm : N ≤ most := by omega
 have hN9 : N ≤ 9 := by omega
 have gm1 : ¬ ((most : Int) - 1 = 0) := by omega
 clear hm2 hN
 go_enter Tryd.func28, Tryd.ntmps28
 go_wp2_with (first | (refine wpList_alloc_arr rfl 98 rfl _ _ _ Tryd.info81 ?_))
 have hr0 := row_new 98 w (seenC 81 0).toArray
 have hb0 := (Below.refl w.heap.size w).alloc (Nat.le_refl _) (.cells (seenC 81 0).toArray 98)
 have HR0 := Lib.hid (show Row 98 _ w.heap.size (seenC 81 0) from hr0)
 have HB0 := Lib.hid hb0
 clear hr0 hb0 g1 g2 g3 g4 g5 gm1
 go_loopw [9] (fun i wr => ∃ k U : Nat, k ≤ l.length ∧ i = .int .i64 k ∧ Row 98 wr w.heap.size (seenC 81 U) ∧ Below w.heap.size w wr) (fun i _ => l.length - (intOf i).toNat)
 case atStart => exact ⟨0, 0, Nat.zero_le _, rfl, HR0.out, HB0.out⟩
 case round =>
  clear HR0 HB0
  obtain ⟨k, U, hk, rfl, hrow, hbel⟩ := hrel
  by_cases hin : k < l.length ∧ k < 20
  ·obtain ⟨hlt, h20⟩ := hin
   obtain ⟨ad, cap', e, hv, hg, hek, d1, d2⟩ := (HL.out.below hbel).at_ k hlt
   cases hv
   obtain ⟨x, y⟩ := e
   dsimp only at d1 d2
   obtain ⟨a, ha1, ha2⟩ := tmodN x N (by omega)
   obtain ⟨b, hb1, hb2⟩ := tmodN y N (by omega)
   have gN : IntKind.u64.wrap (N : Int) = (N : Int) := IntWalk.u64_in _ (by omega)
   have ga : IntKind.i64.wrap (a : Int) = (a : Int) := IntWalk.i64_in _ (by omega)
   have gb : IntKind.i64.wrap (b : Int) = (b : Int) := IntWalk.i64_in _ (by omega)
   have gN0 : ¬ ((N : Int) = 0) := by omega
   have gk20 : (k : Int) < 20 := by omega
   have HROW := Lib.hid hrow
   have HB := Lib.hid hbel
   clear hrow hbel hek
   by_cases hab : a = b
   ·subst hab
    go_wp2
    go_quiet (fail)
    go_wp2
    go_roundw
    case rel => exact ⟨k + 1, U, by omega, by go_num, HROW.out.below (bdN (Below.refl _ _) _) HROW.out.lt, bdN HB.out _⟩
    case measure => simp [intOf]; omega
   ·by_cases hlo : a < b
    ·skip
     obtain ⟨c, hc⟩ : ∃ c, a * 9 + b = c := ⟨_, rfl⟩
     have hc81 : c < 81 := by omega
     have gmin : min (a : Int) (b : Int) = (a : Int) := by omega
     have gmax : max (a : Int) (b : Int) = (b : Int) := by omega
     have gw1 : IntKind.i64.wrap ((a : Int) * 9) = (a : Int) * 9 := IntWalk.i64_in _ (by omega)
     have gw2 : IntKind.i64.wrap ((a : Int) * 9 + (b : Int)) = (c : Int) := by rw [show (a : Int) * 9 + (b : Int) = (c : Int) by omega]; exact IntWalk.i64_in _ (by omega)
     have gne : ((a : Int) != (b : Int)) = true := by rw [bne_iff_ne]; omega
     clear hc
     go_wp2
     go_quiet (fail)
     obtain ⟨W2, hW2⟩ : ∃ W2, wr.drewN nq = W2 := ⟨_, rfl⟩
     rw [hW2]
     have hb2 : Below wr.heap.size wr W2 := by rw [← hW2]; exact bdN (Below.refl _ _) nq
     have hr2 := HROW.out.below hb2 HROW.out.lt
     have HB2 := Lib.hid (HB.out.trans (hb2.mono HB.out.size))
     have k2 := hr2.cell c
     rw [seenC_get hc81] at k2
     have f2 := hr2.free c
     have hr3 := hr2.store c (.bool true)
     rw [seenC_set] at hr3
     have HR3 := Lib.hid hr3
     have HB3 := Lib.hid (HB2.out.setCell (p := ⟨w.heap.size, c, none⟩) (Nat.le_refl _) (.bool true))
     clear hW2 hb2 hr2 hr3 HB2
     go_wp2
     go_roundw
     case rel => exact ⟨k + 1, _, by omega, by go_num, HR3.out, HB3.out⟩
     case measure => simp [intOf]; omega
    ·have hlo2 : b < a := by omega
     clear hlo
     obtain ⟨c, hc⟩ : ∃ c, b * 9 + a = c := ⟨_, rfl⟩
     have hc81 : c < 81 := by omega
     have gmin : min (a : Int) (b : Int) = (b : Int) := by omega
     have gmax : max (a : Int) (b : Int) = (a : Int) := by omega
     have gw1 : IntKind.i64.wrap ((b : Int) * 9) = (b : Int) * 9 := IntWalk.i64_in _ (by omega)
     have gw2 : IntKind.i64.wrap ((b : Int) * 9 + (a : Int)) = (c : Int) := by rw [show (b : Int) * 9 + (a : Int) = (c : Int) by omega]; exact IntWalk.i64_in _ (by omega)
     have gne : ((a : Int) != (b : Int)) = true := by rw [bne_iff_ne]; omega
     clear hc
     go_wp2
     go_quiet (fail)
     obtain ⟨W2, hW2⟩ : ∃ W2, wr.drewN nq = W2 := ⟨_, rfl⟩
     rw [hW2]
     have hb2 : Below wr.heap.size wr W2 := by rw [← hW2]; exact bdN (Below.refl _ _) nq
     have hr2 := HROW.out.below hb2 HROW.out.lt
     have HB2 := Lib.hid (HB.out.trans (hb2.mono HB.out.size))
     have k2 := hr2.cell c
     rw [seenC_get hc81] at k2
     have f2 := hr2.free c
     have hr3 := hr2.store c (.bool true)
     rw [seenC_set] at hr3
     have HR3 := Lib.hid hr3
     have HB3 := Lib.hid (HB2.out.setCell (p := ⟨w.heap.size, c, none⟩) (Nat.le_refl _) (.bool true))
     clear hW2 hb2 hr2 hr3 HB2
     go_wp2
     go_roundw
     case rel => exact ⟨k + 1, _, by omega, by go_num, HR3.out, HB3.out⟩
     case measure => simp [intOf]; omega
  ·have hex : l.length ≤ k ∨ (k < l.length ∧ 20 ≤ k) := by omega
   have HROW := Lib.hid hrow
   have HB := Lib.hid hbel
   clear hrow hbel
   rcases hex with hex | ⟨hex1, hex2⟩
   ·have gkl : ¬ ((k : Int) < (l.length : Int)) := by omega
    clear hin
    go_wp2
    clear hk HL
    obtain ⟨wo, hwo⟩ : ∃ wo : World, wo = wr := ⟨_, rfl⟩
    subst hwo
    go_loopw [12] (fun _ wr => ∃ U : Nat, Row 98 wr w.heap.size (seenC 81 U) ∧ Below w.heap.size w wr) (fun _ wr => leftW wr w.heap.size)
    case atStart => exact ⟨U, HROW.out, HB.out⟩
    case round =>
     clear HROW HB
     obtain ⟨U, hrow, hbel⟩ := hrel
     have HROW := Lib.hid hrow
     have HB := Lib.hid hbel
     have HLEFT : Hid (leftW wr w.heap.size = left U) := leftW_eq hrow
     clear hrow hbel
     obtain ⟨wo2, hwo2⟩ : ∃ wo2 : World, wo2 = wr := ⟨_, rfl⟩
     subst hwo2
     go_wp2
     go_loopw [12, 13] (fun ov i wr => ∃ a : Nat, a ≤ N ∧ i = .int .i64 a ∧ OwnP w.heap.size wr ov (inR U N a) ∧ Row 98 wr w.heap.size (seenC 81 U) ∧ Below w.heap.size w wr) (fun _ i _ => N - (intOf i).toNat)
     case atStart => exact ⟨0, Nat.zero_le _, rfl, OwnP.nil _ _, HROW.out, HB.out⟩
     case round =>
      obtain ⟨a, ha, rfl, hown, hrow, hbel⟩ := hrel
      clear HROW HB
      by_cases han : a < N
      ·have gaN : (a : Int) < (N : Int) := by omega
       have ga1 : IntKind.i64.wrap ((a : Int) + 1) = ((a + 1 : Nat) : Int) := by rw [show (a : Int) + 1 = ((a + 1 : Nat) : Int) by omega]; exact IntWalk.i64_in _ (by omega)
       have e0 : inR U N a ++ inI U a (a + 1) = inR U N a := by rw [inI_start, List.append_nil]
       rw [← e0] at hown
       have HIN := Lib.hid hown
       have HROW := Lib.hid hrow
       have HB := Lib.hid hbel
       clear hown e0 hrow hbel
       obtain ⟨wo3, hwo3⟩ : ∃ wo3 : World, wo3 = wr := ⟨_, rfl⟩
       subst hwo3
       go_wp2
       go_loopw [12, 14] (fun ov i wr => ∃ b : Nat, a + 1 ≤ b ∧ b ≤ N ∧ i = .int .i64 b ∧ OwnP w.heap.size wr ov (inR U N a ++ inI U a b) ∧ Row 98 wr w.heap.size (seenC 81 U) ∧ Below w.heap.size w wr) (fun _ i _ => N - (intOf i).toNat)
       case atStart => exact ⟨a + 1, Nat.le_refl _, by omega, rfl, HIN.out, HROW.out, HB.out⟩
       case round =>
        obtain ⟨b, hab, hbN, rfl, hown, hrow, hbel⟩ := hrel
        clear HIN HROW HB
        by_cases hb : b < N
        ·have HSTEP := Lib.hid (inI_step (U := U) (show a < b by omega))
         obtain ⟨c, hc⟩ : ∃ c, a * 9 + b = c := ⟨_, rfl⟩
         rw [hc] at HSTEP
         have hc81 : c < 81 := by omega
         have gbN : (b : Int) < (N : Int) := by omega
         have gw1 : IntKind.i64.wrap ((a : Int) * 9) = (a : Int) * 9 := IntWalk.i64_in _ (by omega)
         have gw2 : IntKind.i64.wrap ((a : Int) * 9 + (b : Int)) = (c : Int) := by rw [show (a : Int) * 9 + (b : Int) = (c : Int) by omega]; exact IntWalk.i64_in _ (by omega)
         have ck := hrow.cell c
         rw [seenC_get hc81] at ck
         have hlen : (inR U N a ++ inI U a b).length ≤ 1000 := by
          rw [List.length_append]
          have := inR_len U N a
          have := inI_len U a b
          have : a * N ≤ 9 * 9 := Nat.mul_le_mul (by omega) (by omega)
          omega
         obtain ⟨X, hX⟩ : ∃ X, inR U N a ++ inI U a b = X := ⟨_, rfl⟩
         rw [hX] at hown hlen
         have HX := Lib.hid hX
         obtain ⟨po, co, rfl, hco1, hco2⟩ := hown.len
         have HOWN := Lib.hid hown
         have HROW := Lib.hid hrow
         have HB := Lib.hid hbel
         clear hown hrow hbel hc hX
         cases hbit : U.testBit c with
         | true =>
          rw [hbit] at ck HSTEP
          go_wp2_with (at_builtin; refine wpList_append_boxK wr rfl (.tmp 89) (.tmp 93) 22 rfl 90 _ 2 16 Tryd.underlying22 Tryd.infoP rfl (by omega) (by omega) w.heap.size (.slice po X.length co) X.length (prs X) rfl HOWN.out _ ?c9 _ rfl ?c0 ?c1 ?c2 ?c3 ?_)
          try (case c9 => rfl)
          case c0 => rfl
          case c1 => simp [Value.oneCell']
          case c2 => omega
          case c3 => exact HB.out.size
          intro v1 w1 ho hb1 hkp hrp
          have HO1 : Hid (OwnP w.heap.size w1 v1 (inR U N a ++ inI U a (b + 1))) := by
           show OwnK _ _ _ _ _ _ _
           rw [HSTEP.out, ← List.append_assoc, HX.out, if_pos trivial, prs_append, List.length_append]; exact ho
          have HR1 := Lib.hid (hrp _ _ _ (by decide) HROW.out)
          have HB1 := Lib.hid (HB.out.trans hb1)
          clear ho hb1 hkp hrp
          go_wp2
          go_roundw
          case rel => exact ⟨b + 1, by omega, by omega, by go_num, HO1.out, HR1.out, HB1.out⟩
          case measure => simp [intOf]; omega
         | false =>
          rw [hbit] at ck HSTEP
          have HO1 : Hid (OwnP w.heap.size wr (.slice po X.length co) (inR U N a ++ inI U a (b + 1))) := by
           show OwnK _ _ _ _ _ _ _
           rw [HSTEP.out, if_neg (by decide), List.append_nil, HX.out]; exact HOWN.out
          go_wp2
          go_roundw
          case rel => exact ⟨b + 1, by omega, by omega, by go_num, HO1.out, HROW.out, HB.out⟩
          case measure => simp [intOf]; omega
        ·obtain rfl : b = N := by omega
         have HOWN := Lib.hid hown
         have HROW := Lib.hid hrow
         have HB := Lib.hid hbel
         clear hown hrow hbel hab
         go_wp2
         go_roundw
         case rel => exact ⟨a + 1, by omega, by go_num, HOWN.out, HROW.out, HB.out⟩
         case measure => simp [intOf]; omega
      ·obtain rfl : a = N := by omega
       obtain ⟨X, hX⟩ : ∃ X, inR U a a = X := ⟨_, rfl⟩
       rw [hX] at hown
       have HX := Lib.hid hX
       have HBO := Lib.hid (rboard_go _ a X wr hown.sl hN2 hN9)
       obtain ⟨J, hJ⟩ : ∃ J, joinedP a (toE X) (-1) = J := ⟨_, rfl⟩
       have hBJ : (boardOk (a : Int) X && joinedP a (toE X) (-1)) = J := by rw [hJ, ← hX, inR_ok]; rfl
       rw [hBJ] at HBO
       have HJ := Lib.hid hJ
       obtain ⟨po, co, rfl, hco1, hco2⟩ := hown.len
       have HOWN := Lib.hid hown
       have HROW := Lib.hid hrow
       have HB := Lib.hid hbel
       clear hown hrow hbel hX hJ hBJ
       cases J with
       | true =>
        go_wp2_with (go_at_call 48; refine (HBO.out).mono ?_; rintro e w1 ⟨rfl, hb1⟩; have HB1 := Lib.hid hb1; clear hb1)
        go_ret2
        exact ⟨a, X, _, rfl, hN2, hNm, HOWN.out.below HB1.out (Nat.le_refl _), by rw [← HX.out]; exact inR_check hN2 hN9 (by rw [HX.out]; exact HJ.out), HB.out.trans (HB1.out.mono HB.out.size)⟩
       | false =>
        have HUN : Hid (∃ k, k < a ∧ (seenS U a a).testBit k = false) := unseen hN2 hN9 (by rw [HX.out]; exact HJ.out)
        have HOUT : Hid (∀ W1 : World, True → True) := fun _ h => h
        go_wp2_with (first
         | (go_at_call 48; refine (HBO.out).mono ?_; rintro e w1 ⟨rfl, hb1⟩; have HB1 := Lib.hid hb1; clear hb1)
         | (at_make; refine wpList_make_row _ rfl _ _ 99 rfl 4 (.bool false) 1 Tryd.underlying99 Tryd.infoB rfl .i64 .i64 _ _ a rfl rfl ?d1 ?d2 ?d3 ?d4 ?_))
        case d1 => rfl
        case d2 => rfl
        case d3 => omega
        case d4 => simp [maxLen]; omega
        intro W1 hrow1 hb2
        rw [seenC_zero] at hrow1
        obtain ⟨s, hs⟩ : ∃ s, w1.heap.size = s := ⟨_, rfl⟩
        rw [hs] at hrow1 ⊢
        have hbb := HB.out.trans (HB1.out.mono HB.out.size)
        have hws : w.heap.size < s := by have := HROW.out.lt; have := HB1.out.size; omega
        have h0a : 0 < a := by omega
        have hcf := hrow1.cell 0
        rw [seenC_get h0a] at hcf
        have hfz := hrow1.free 0
        have HROW0 : Hid (Row 4 (W1.setCell ⟨s, 0, none⟩ (.bool true)) s (seenC a (seenS U a 0))) := by
         show Row _ _ _ _
         have := hrow1.store 0 (.bool true)
         rw [seenC_set, Nat.zero_or] at this
         exact this
        have hq1 := (HROW.out.below HB1.out HROW.out.lt).below hb2 (by omega)
        have HQ0 := Lib.hid (hq1.other ⟨s, 0, none⟩ (by dsimp only; omega) (.bool true))
        have ho1 := (HOWN.out.below HB1.out (Nat.le_refl _)).below hb2 (by omega)
        have HO0 : Hid (OwnP w.heap.size (W1.setCell ⟨s, 0, none⟩ (.bool true)) (.slice po X.length co) X) := ho1.other hrow1 (by decide) 0 (.bool true)
        have HB0 := Lib.hid ((hbb.trans (hb2.mono hbb.size)).setCell (p := ⟨s, 0, none⟩) (by dsimp only; omega) (.bool true))
        clear hrow1 hb2 hs hbb hq1 ho1 HOWN HROW HB HB1 HOUT
        have HOWN0 := HO0
        go_wp2
        clear hcf hfz
        go_loopw [16] (fun rv wr => ∃ r : Nat, r ≤ a ∧ rv = .int .i64 r ∧ Row 4 wr s (seenC a (seenS U a r)) ∧ Row 98 wr w.heap.size (seenC 81 U) ∧ OwnP w.heap.size wr (.slice po X.length co) X ∧ Below w.heap.size w wr) (fun rv _ => a - (intOf rv).toNat)
        case atStart => exact ⟨0, Nat.zero_le _, rfl, HROW0.out, HQ0.out, HO0.out, HB0.out⟩
        case round =>
         obtain ⟨r, hr, rfl, hrow, hr81, hown, hbel⟩ := hrel
         clear HROW0 HQ0 HO0 HOWN0 HB0
         by_cases hrn : r < a
         ·have grn : (r : Int) < (a : Int) := by omega
          obtain ⟨S, hS⟩ : ∃ S, seenS U a r = S := ⟨_, rfl⟩
          rw [hS] at hrow
          have HS1 : Hid (seenS U a (r + 1) = rnd (-1) (toE X) S) := by show _ = _; rw [← hS, ← HX.out]; rfl
          have HROW1 : Hid (Row 4 wr s (seenC a (rnd (-1) (toE (X.take 0)) S))) := hrow
          have HQ1 := Lib.hid hr81
          have HO1 := Lib.hid hown
          have HB1 := Lib.hid hbel
          clear hrow hbel hS hr81 hown
          obtain ⟨wo4, hwo4⟩ : ∃ wo4 : World, wo4 = wr := ⟨_, rfl⟩
          subst hwo4
          go_wp2
          go_loopw [17] (fun kv wr => ∃ k : Nat, k ≤ X.length ∧ kv = .int .i64 k ∧ Row 4 wr s (seenC a (rnd (-1) (toE (X.take k)) S)) ∧ Row 98 wr w.heap.size (seenC 81 U) ∧ OwnP w.heap.size wr (.slice po X.length co) X ∧ Below w.heap.size w wr) (fun kv _ => X.length - (intOf kv).toNat)
          case atStart => exact ⟨0, Nat.zero_le _, rfl, HROW1.out, HQ1.out, HO1.out, HB1.out⟩
          case round =>
           obtain ⟨k, hk, rfl, hrow, hr81, hown, hbel⟩ := hrel
           clear HROW1 HQ1 HO1 HB1
           by_cases hlt : k < X.length
           ·obtain ⟨ad, cap', e, hv, hg, hek, d1, d2⟩ := hown.sl.at_ k hlt
            cases hv
            have hmem : e ∈ inR U a a := by rw [HX.out]; exact List.mem_of_getElem? hek
            obtain ⟨i, j, hij, hi9, hj9, _, _⟩ := (inR_mem a).1 hmem
            subst hij
            dsimp only at d1 d2
            have hij := hek
            have HNEXT : Hid (rnd (-1) (toE (X.take (k + 1))) S = seeS (-1) (rnd (-1) (toE (X.take k)) S) (i, j)) := by show _ = _; rw [toE_snoc hij, rnd_snoc]
            obtain ⟨V, hV⟩ : ∃ V, rnd (-1) (toE (X.take k)) S = V := ⟨_, rfl⟩
            rw [hV] at hrow HNEXT
            clear hek hmem
            have ci := hrow.cell i
            have cj := hrow.cell j
            rw [seenC_get hi9] at ci
            rw [seenC_get hj9] at cj
            have HROW := Lib.hid hrow
            have HR81 := Lib.hid hr81
            have HOWN := Lib.hid hown
            have HB := Lib.hid hbel
            have gi9 : (i : Int) < (a : Int) := by omega
            have gj9 : (j : Int) < (a : Int) := by omega
            clear hrow hbel hij hV hr81 hown
            by_cases hsee : V.testBit i = true ∨ V.testBit j = true
            ·have HSEE := Lib.hid hsee
             cases hti : V.testBit i with
             | true =>
              rw [hti] at ci
              clear hsee
              go_wp2
              go_quiet (fail)
              obtain ⟨W2, hW2⟩ : ∃ W2, wr.drewN nq = W2 := ⟨_, rfl⟩
              rw [hW2]
              have hb2 : Below wr.heap.size wr W2 := by rw [← hW2]; exact bdN (Below.refl _ _) nq
              have hr2 := HROW.out.below hb2 HROW.out.lt
              have HB2 := Lib.hid (HB.out.trans (hb2.mono HB.out.size))
              have k2 := hr2.cell i
              rw [seenC_get hi9] at k2
              have k3 := hr2.cell j
              rw [seenC_get hj9] at k3
              have f2 := hr2.free i
              have hr3 := hr2.store i (.bool true)
              rw [seenC_set] at hr3
              have m3 := hr3.cell j
              rw [seenC_get hj9] at m3
              have f3 := hr3.free j
              have hr4 := hr3.store j (.bool true)
              rw [seenC_set] at hr4
              have HR4 : Hid (Row 4 ((W2.setCell ⟨s, i, none⟩ (.bool true)).setCell ⟨s, j, none⟩ (.bool true)) s (seenC a (rnd (-1) (toE (X.take (k + 1))) S))) := by
               show Row _ _ _ _
               rw [HNEXT.out, seeS_yes (by omega) (by omega) HSEE.out]; exact hr4
              have hq2 := HR81.out.below hb2 HR81.out.lt
              have HQ4 := Lib.hid ((hq2.other ⟨s, i, none⟩ (by dsimp only; omega) (.bool true)).other ⟨s, j, none⟩ (by dsimp only; omega) (.bool true))
              have ho2 := HOWN.out.below hb2 (Nat.le_refl _)
              have HO4 := Lib.hid ((ho2.other hr2 (by decide) i (.bool true)).other hr3 (by decide) j (.bool true))
              have HB4 := Lib.hid ((HB2.out.setCell (p := ⟨s, i, none⟩) (by dsimp only; omega) (.bool true)).setCell (p := ⟨s, j, none⟩) (by dsimp only; omega) (.bool true))
              clear hW2 hb2 hr2 hr3 hr4 ci cj hq2 ho2
              rw [hti] at k2
              go_wp2
              go_roundw
              case rel => exact ⟨k + 1, by omega, by go_num, HR4.out, HQ4.out, HO4.out, HB4.out⟩
              case measure => simp [intOf]; omega
             | false =>
              have htj : V.testBit j = true := by rcases hsee with h | h; (rw [hti] at h; cases h); exact h
              rw [hti] at ci
              rw [htj] at cj
              clear hsee
              go_wp2
              go_quiet (fail)
              obtain ⟨W2, hW2⟩ : ∃ W2, wr.drewN nq = W2 := ⟨_, rfl⟩
              rw [hW2]
              have hb2 : Below wr.heap.size wr W2 := by rw [← hW2]; exact bdN (Below.refl _ _) nq
              have hr2 := HROW.out.below hb2 HROW.out.lt
              have HB2 := Lib.hid (HB.out.trans (hb2.mono HB.out.size))
              have k2 := hr2.cell i
              rw [seenC_get hi9] at k2
              have k3 := hr2.cell j
              rw [seenC_get hj9] at k3
              have f2 := hr2.free i
              have hr3 := hr2.store i (.bool true)
              rw [seenC_set] at hr3
              have m3 := hr3.cell j
              rw [seenC_get hj9] at m3
              have f3 := hr3.free j
              have hr4 := hr3.store j (.bool true)
              rw [seenC_set] at hr4
              have HR4 : Hid (Row 4 ((W2.setCell ⟨s, i, none⟩ (.bool true)).setCell ⟨s, j, none⟩ (.bool true)) s (seenC a (rnd (-1) (toE (X.take (k + 1))) S))) := by
               show Row _ _ _ _
               rw [HNEXT.out, seeS_yes (by omega) (by omega) HSEE.out]; exact hr4
              have hq2 := HR81.out.below hb2 HR81.out.lt
              have HQ4 := Lib.hid ((hq2.other ⟨s, i, none⟩ (by dsimp only; omega) (.bool true)).other ⟨s, j, none⟩ (by dsimp only; omega) (.bool true))
              have ho2 := HOWN.out.below hb2 (Nat.le_refl _)
              have HO4 := Lib.hid ((ho2.other hr2 (by decide) i (.bool true)).other hr3 (by decide) j (.bool true))
              have HB4 := Lib.hid ((HB2.out.setCell (p := ⟨s, i, none⟩) (by dsimp only; omega) (.bool true)).setCell (p := ⟨s, j, none⟩) (by dsimp only; omega) (.bool true))
              clear hW2 hb2 hr2 hr3 hr4 ci cj hq2 ho2
              rw [hti] at k2
              rw [htj] at k3
              go_wp2
              go_roundw
              case rel => exact ⟨k + 1, by omega, by go_num, HR4.out, HQ4.out, HO4.out, HB4.out⟩
              case measure => simp [intOf]; omega
            ·have h1 : V.testBit i = false := by cases h : V.testBit i; rfl; exact absurd (.inl h) hsee
             have h2 : V.testBit j = false := by cases h : V.testBit j; rfl; exact absurd (.inr h) hsee
             have HWHY : Hid ((i : Int) = -1 ∨ (j : Int) = -1 ∨ (V.testBit i = false ∧ V.testBit j = false)) := .inr (.inr ⟨h1, h2⟩)
             rw [h1] at ci
             rw [h2] at cj
             clear hsee
             go_wp2
             go_quiet (fail)
             go_wp2
             go_roundw
             case rel => exact ⟨k + 1, by omega, by go_num, by rw [HNEXT.out, seeS_no HWHY.out]; exact HROW.out.below (bdN (Below.refl _ _) _) HROW.out.lt, HR81.out.below (bdN (Below.refl _ _) _) HR81.out.lt, HOWN.out.below (bdN (Below.refl _ _) _) (Nat.le_refl _), bdN HB.out _⟩
             case measure => simp [intOf]; omega
           ·obtain rfl : k = X.length := by omega
            rw [List.take_length] at hrow
            have HROW := Lib.hid hrow
            have HQ := Lib.hid hr81
            have HO := Lib.hid hown
            have HB := Lib.hid hbel
            clear hrow hbel hr81 hown
            go_wp2
            go_roundw
            case rel => exact ⟨r + 1, by omega, by go_num, by rw [HS1.out]; exact HROW.out, HQ.out, HO.out, HB.out⟩
            case measure => simp [intOf]; omega
         ·obtain rfl : r = a := by omega
          obtain ⟨V, hV⟩ : ∃ V, seenS U r r = V := ⟨_, rfl⟩
          rw [hV] at hrow
          have HFREE : Hid (∀ k, k < r → V.testBit k = false → (∀ j, j < k → V.testBit j = true) → 1 ≤ k ∧ U.testBit ((k - 1) * 9 + k) = false) := fun k hk h1 h2 => by
           rw [← hV] at h1 h2
           exact unseen_free hN2 hN9 hk h1 h2
          obtain ⟨k0, hk0, hk0b⟩ := HUN.out
          rw [hV] at hk0b
          have HK0 := Lib.hid hk0b
          have HROW := Lib.hid hrow
          have HQ := Lib.hid hr81
          have HB := Lib.hid hbel
          obtain ⟨wo5, hwo5⟩ : ∃ wo5 : World, wo5 = wr := ⟨_, rfl⟩
          subst hwo5
          clear hrow hbel hr81 hown hV hk0b HUN
          go_wp2
          go_loopw [20] (fun kv wr => ∃ k : Nat, k ≤ k0 ∧ kv = .int .i64 k ∧ (∀ t, t < k → V.testBit t = true) ∧ wr = wo5) (fun kv _ => k0 - (intOf kv).toNat)
          case atStart => exact ⟨0, Nat.zero_le _, rfl, fun t ht => by omega, rfl⟩
          case round =>
           obtain ⟨k, hk, rfl, hall, hwr⟩ := hrel
           subst hwr
           have hkr : k < r := by omega
           have gkr : (k : Int) < (r : Int) := by omega
           have ck := HROW.out.cell k
           rw [seenC_get hkr] at ck
           have HALL := Lib.hid hall
           clear hall
           cases hbit : V.testBit k with
           | true =>
            rw [hbit] at ck
            have hkk : k < k0 := by
             rcases Nat.lt_or_ge k k0 with h | h
             ·exact h
             ·exfalso
              have : k = k0 := by omega
              subst this
              have := HK0.out
              rw [hbit] at this; cases this
            have HNX : Hid (∀ t, t < k + 1 → V.testBit t = true) := fun t ht => by
             rcases Nat.lt_or_ge t k with g | g
             ·exact HALL.out t g
             ·have : t = k := by omega
              subst this; exact hbit
            go_wp2
            go_roundw
            case rel => exact ⟨k + 1, by omega, by go_num, HNX.out, trivial⟩
            case measure => simp [intOf]; omega
           | false =>
            rw [hbit] at ck
            obtain ⟨hk1, hfree⟩ := HFREE.out k hkr hbit HALL.out
            obtain ⟨c, hc⟩ : ∃ c, (k - 1) * 9 + k = c := ⟨_, rfl⟩
            rw [hc] at hfree
            have hc81 : c < 81 := by omega
            have gw0 : IntKind.i64.wrap ((k : Int) - 1) = (k : Int) - 1 := IntWalk.i64_in _ (by omega)
            have gw1 : IntKind.i64.wrap (((k : Int) - 1) * 9) = ((k : Int) - 1) * 9 := IntWalk.i64_in _ (by omega)
            have gw2 : IntKind.i64.wrap (((k : Int) - 1) * 9 + (k : Int)) = (c : Int) := by rw [show ((k : Int) - 1) * 9 + (k : Int) = (c : Int) by omega]; exact IntWalk.i64_in _ (by omega)
            have q2 := HQ.out.cell c
            rw [seenC_get hc81] at q2
            have f2 := HQ.out.free c
            have hr3 := HQ.out.store c (.bool true)
            rw [seenC_set] at hr3
            have HR3 := Lib.hid hr3
            have HB3 := Lib.hid (HB.out.setCell (p := ⟨w.heap.size, c, none⟩) (Nat.le_refl _) (.bool true))
            have HLT := Lib.hid (left_lt hc81 hfree)
            clear hr3 hfree hc
            go_wp2
            go_roundw
            case rel => exact ⟨_, HR3.out, HB3.out⟩
            case measure =>
             rw [leftW_eq HR3.out, HLEFT.out]
             exact HLT.out
   ·have gkl : (k : Int) < (l.length : Int) := by omega
    have gk20 : ¬ ((k : Int) < 20) := by omega
    clear hin
    go_wp2
    clear hk HL
    obtain ⟨wo, hwo⟩ : ∃ wo : World, wo = wr := ⟨_, rfl⟩
    subst hwo
    go_loopw [12] (fun _ wr => ∃ U : Nat, Row 98 wr w.heap.size (seenC 81 U) ∧ Below w.heap.size w wr) (fun _ wr => leftW wr w.heap.size)
    case atStart => exact ⟨U, HROW.out, HB.out⟩
    case round =>
     clear HROW HB
     obtain ⟨U, hrow, hbel⟩ := hrel
     have HROW := Lib.hid hrow
     have HB := Lib.hid hbel
     have HLEFT : Hid (leftW wr w.heap.size = left U) := leftW_eq hrow
     clear hrow hbel
     obtain ⟨wo2, hwo2⟩ : ∃ wo2 : World, wo2 = wr := ⟨_, rfl⟩
     subst hwo2
     go_wp2
     go_loopw [12, 13] (fun ov i wr => ∃ a : Nat, a ≤ N ∧ i = .int .i64 a ∧ OwnP w.heap.size wr ov (inR U N a) ∧ Row 98 wr w.heap.size (seenC 81 U) ∧ Below w.heap.size w wr) (fun _ i _ => N - (intOf i).toNat)
     case atStart => exact ⟨0, Nat.zero_le _, rfl, OwnP.nil _ _, HROW.out, HB.out⟩
     case round =>
      obtain ⟨a, ha, rfl, hown, hrow, hbel⟩ := hrel
      clear HROW HB
      by_cases han : a < N
      ·have gaN : (a : Int) < (N : Int) := by omega
       have ga1 : IntKind.i64.wrap ((a : Int) + 1) = ((a + 1 : Nat) : Int) := by rw [show (a : Int) + 1 = ((a + 1 : Nat) : Int) by omega]; exact IntWalk.i64_in _ (by omega)
       have e0 : inR U N a ++ inI U a (a + 1) = inR U N a := by rw [inI_start, List.append_nil]
       rw [← e0] at hown
       have HIN := Lib.hid hown
       have HROW := Lib.hid hrow
       have HB := Lib.hid hbel
       clear hown e0 hrow hbel
       obtain ⟨wo3, hwo3⟩ : ∃ wo3 : World, wo3 = wr := ⟨_, rfl⟩
       subst hwo3
       go_wp2
       go_loopw [12, 14] (fun ov i wr => ∃ b : Nat, a + 1 ≤ b ∧ b ≤ N ∧ i = .int .i64 b ∧ OwnP w.heap.size wr ov (inR U N a ++ inI U a b) ∧ Row 98 wr w.heap.size (seenC 81 U) ∧ Below w.heap.size w wr) (fun _ i _ => N - (intOf i).toNat)
       case atStart => exact ⟨a + 1, Nat.le_refl _, by omega, rfl, HIN.out, HROW.out, HB.out⟩
       case round =>
        obtain ⟨b, hab, hbN, rfl, hown, hrow, hbel⟩ := hrel
        clear HIN HROW HB
        by_cases hb : b < N
        ·have HSTEP := Lib.hid (inI_step (U := U) (show a < b by omega))
         obtain ⟨c, hc⟩ : ∃ c, a * 9 + b = c := ⟨_, rfl⟩
         rw [hc] at HSTEP
         have hc81 : c < 81 := by omega
         have gbN : (b : Int) < (N : Int) := by omega
         have gw1 : IntKind.i64.wrap ((a : Int) * 9) = (a : Int) * 9 := IntWalk.i64_in _ (by omega)
         have gw2 : IntKind.i64.wrap ((a : Int) * 9 + (b : Int)) = (c : Int) := by rw [show (a : Int) * 9 + (b : Int) = (c : Int) by omega]; exact IntWalk.i64_in _ (by omega)
         have ck := hrow.cell c
         rw [seenC_get hc81] at ck
         have hlen : (inR U N a ++ inI U a b).length ≤ 1000 := by
          rw [List.length_append]
          have := inR_len U N a
          have := inI_len U a b
          have : a * N ≤ 9 * 9 := Nat.mul_le_mul (by omega) (by omega)
          omega
         obtain ⟨X, hX⟩ : ∃ X, inR U N a ++ inI U a b = X := ⟨_, rfl⟩
         rw [hX] at hown hlen
         have HX := Lib.hid hX
         obtain ⟨po, co, rfl, hco1, hco2⟩ := hown.len
         have HOWN := Lib.hid hown
         have HROW := Lib.hid hrow
         have HB := Lib.hid hbel
         clear hown hrow hbel hc hX
         cases hbit : U.testBit c with
         | true =>
          rw [hbit] at ck HSTEP
          go_wp2_with (at_builtin; refine wpList_append_boxK wr rfl (.tmp 89) (.tmp 93) 22 rfl 90 _ 2 16 Tryd.underlying22 Tryd.infoP rfl (by omega) (by omega) w.heap.size (.slice po X.length co) X.length (prs X) rfl HOWN.out _ ?e9 _ rfl ?e0 ?e1 ?e2 ?e3 ?_)
          try (case e9 => rfl)
          case e0 => rfl
          case e1 => simp [Value.oneCell']
          case e2 => omega
          case e3 => exact HB.out.size
          intro v1 w1 ho hb1 hkp hrp
          have HO1 : Hid (OwnP w.heap.size w1 v1 (inR U N a ++ inI U a (b + 1))) := by
           show OwnK _ _ _ _ _ _ _
           rw [HSTEP.out, ← List.append_assoc, HX.out, if_pos trivial, prs_append, List.length_append]; exact ho
          have HR1 := Lib.hid (hrp _ _ _ (by decide) HROW.out)
          have HB1 := Lib.hid (HB.out.trans hb1)
          clear ho hb1 hkp hrp
          go_wp2
          go_roundw
          case rel => exact ⟨b + 1, by omega, by omega, by go_num, HO1.out, HR1.out, HB1.out⟩
          case measure => simp [intOf]; omega
         | false =>
          rw [hbit] at ck HSTEP
          have HO1 : Hid (OwnP w.heap.size wr (.slice po X.length co) (inR U N a ++ inI U a (b + 1))) := by
           show OwnK _ _ _ _ _ _ _
           rw [HSTEP.out, if_neg (by decide), List.append_nil, HX.out]; exact HOWN.out
          go_wp2
          go_roundw
          case rel => exact ⟨b + 1, by omega, by omega, by go_num, HO1.out, HROW.out, HB.out⟩
          case measure => simp [intOf]; omega
        ·obtain rfl : b = N := by omega
         have HOWN := Lib.hid hown
         have HROW := Lib.hid hrow
         have HB := Lib.hid hbel
         clear hown hrow hbel hab
         go_wp2
         go_roundw
         case rel => exact ⟨a + 1, by omega, by go_num, HOWN.out, HROW.out, HB.out⟩
         case measure => simp [intOf]; omega
      ·obtain rfl : a = N := by omega
       obtain ⟨X, hX⟩ : ∃ X, inR U a a = X := ⟨_, rfl⟩
       rw [hX] at hown
       have HX := Lib.hid hX
       have HBO := Lib.hid (rboard_go _ a X wr hown.sl hN2 hN9)
       obtain ⟨J, hJ⟩ : ∃ J, joinedP a (toE X) (-1) = J := ⟨_, rfl⟩
       have hBJ : (boardOk (a : Int) X && joinedP a (toE X) (-1)) = J := by rw [hJ, ← hX, inR_ok]; rfl
       rw [hBJ] at HBO
       have HJ := Lib.hid hJ
       obtain ⟨po, co, rfl, hco1, hco2⟩ := hown.len
       have HOWN := Lib.hid hown
       have HROW := Lib.hid hrow
       have HB := Lib.hid hbel
       clear hown hrow hbel hX hJ hBJ
       cases J with
       | true =>
        go_wp2_with (go_at_call 48; refine (HBO.out).mono ?_; rintro e w1 ⟨rfl, hb1⟩; have HB1 := Lib.hid hb1; clear hb1)
        go_ret2
        exact ⟨a, X, _, rfl, hN2, hNm, HOWN.out.below HB1.out (Nat.le_refl _), by rw [← HX.out]; exact inR_check hN2 hN9 (by rw [HX.out]; exact HJ.out), HB.out.trans (HB1.out.mono HB.out.size)⟩
       | false =>
        have HUN : Hid (∃ k, k < a ∧ (seenS U a a).testBit k = false) := unseen hN2 hN9 (by rw [HX.out]; exact HJ.out)
        have HOUT : Hid (∀ W1 : World, True → True) := fun _ h => h
        go_wp2_with (first
         | (go_at_call 48; refine (HBO.out).mono ?_; rintro e w1 ⟨rfl, hb1⟩; have HB1 := Lib.hid hb1; clear hb1)
         | (at_make; refine wpList_make_row _ rfl _ _ 99 rfl 4 (.bool false) 1 Tryd.underlying99 Tryd.infoB rfl .i64 .i64 _ _ a rfl rfl ?f1 ?f2 ?f3 ?f4 ?_))
        case f1 => rfl
        case f2 => rfl
        case f3 => omega
        case f4 => simp [maxLen]; omega
        intro W1 hrow1 hb2
        rw [seenC_zero] at hrow1
        obtain ⟨s, hs⟩ : ∃ s, w1.heap.size = s := ⟨_, rfl⟩
        rw [hs] at hrow1 ⊢
        have hbb := HB.out.trans (HB1.out.mono HB.out.size)
        have hws : w.heap.size < s := by have := HROW.out.lt; have := HB1.out.size; omega
        have h0a : 0 < a := by omega
        have hcf := hrow1.cell 0
        rw [seenC_get h0a] at hcf
        have hfz := hrow1.free 0
        have HROW0 : Hid (Row 4 (W1.setCell ⟨s, 0, none⟩ (.bool true)) s (seenC a (seenS U a 0))) := by
         show Row _ _ _ _
         have := hrow1.store 0 (.bool true)
         rw [seenC_set, Nat.zero_or] at this
         exact this
        have hq1 := (HROW.out.below HB1.out HROW.out.lt).below hb2 (by omega)
        have HQ0 := Lib.hid (hq1.other ⟨s, 0, none⟩ (by dsimp only; omega) (.bool true))
        have ho1 := (HOWN.out.below HB1.out (Nat.le_refl _)).below hb2 (by omega)
        have HO0 : Hid (OwnP w.heap.size (W1.setCell ⟨s, 0, none⟩ (.bool true)) (.slice po X.length co) X) := ho1.other hrow1 (by decide) 0 (.bool true)
        have HB0 := Lib.hid ((hbb.trans (hb2.mono hbb.size)).setCell (p := ⟨s, 0, none⟩) (by dsimp only; omega) (.bool true))
        clear hrow1 hb2 hs hbb hq1 ho1 HOWN HROW HB HB1 HOUT
        have HOWN0 := HO0
        go_wp2
        clear hcf hfz
        go_loopw [16] (fun rv wr => ∃ r : Nat, r ≤ a ∧ rv = .int .i64 r ∧ Row 4 wr s (seenC a (seenS U a r)) ∧ Row 98 wr w.heap.size (seenC 81 U) ∧ OwnP w.heap.size wr (.slice po X.length co) X ∧ Below w.heap.size w wr) (fun rv _ => a - (intOf rv).toNat)
        case atStart => exact ⟨0, Nat.zero_le _, rfl, HROW0.out, HQ0.out, HO0.out, HB0.out⟩
        case round =>
         obtain ⟨r, hr, rfl, hrow, hr81, hown, hbel⟩ := hrel
         clear HROW0 HQ0 HO0 HOWN0 HB0
         by_cases hrn : r < a
         ·have grn : (r : Int) < (a : Int) := by omega
          obtain ⟨S, hS⟩ : ∃ S, seenS U a r = S := ⟨_, rfl⟩
          rw [hS] at hrow
          have HS1 : Hid (seenS U a (r + 1) = rnd (-1) (toE X) S) := by show _ = _; rw [← hS, ← HX.out]; rfl
          have HROW1 : Hid (Row 4 wr s (seenC a (rnd (-1) (toE (X.take 0)) S))) := hrow
          have HQ1 := Lib.hid hr81
          have HO1 := Lib.hid hown
          have HB1 := Lib.hid hbel
          clear hrow hbel hS hr81 hown
          obtain ⟨wo4, hwo4⟩ : ∃ wo4 : World, wo4 = wr := ⟨_, rfl⟩
          subst hwo4
          go_wp2
          go_loopw [17] (fun kv wr => ∃ k : Nat, k ≤ X.length ∧ kv = .int .i64 k ∧ Row 4 wr s (seenC a (rnd (-1) (toE (X.take k)) S)) ∧ Row 98 wr w.heap.size (seenC 81 U) ∧ OwnP w.heap.size wr (.slice po X.length co) X ∧ Below w.heap.size w wr) (fun kv _ => X.length - (intOf kv).toNat)
          case atStart => exact ⟨0, Nat.zero_le _, rfl, HROW1.out, HQ1.out, HO1.out, HB1.out⟩
          case round =>
           obtain ⟨k, hk, rfl, hrow, hr81, hown, hbel⟩ := hrel
           clear HROW1 HQ1 HO1 HB1
           by_cases hlt : k < X.length
           ·obtain ⟨ad, cap', e, hv, hg, hek, d1, d2⟩ := hown.sl.at_ k hlt
            cases hv
            have hmem : e ∈ inR U a a := by rw [HX.out]; exact List.mem_of_getElem? hek
            obtain ⟨i, j, hij, hi9, hj9, _, _⟩ := (inR_mem a).1 hmem
            subst hij
            dsimp only at d1 d2
            have hij := hek
            have HNEXT : Hid (rnd (-1) (toE (X.take (k + 1))) S = seeS (-1) (rnd (-1) (toE (X.take k)) S) (i, j)) := by show _ = _; rw [toE_snoc hij, rnd_snoc]
            obtain ⟨V, hV⟩ : ∃ V, rnd (-1) (toE (X.take k)) S = V := ⟨_, rfl⟩
            rw [hV] at hrow HNEXT
            clear hek hmem
            have ci := hrow.cell i
            have cj := hrow.cell j
            rw [seenC_get hi9] at ci
            rw [seenC_get hj9] at cj
            have HROW := Lib.hid hrow
            have HR81 := Lib.hid hr81
            have HOWN := Lib.hid hown
            have HB := Lib.hid hbel
            have gi9 : (i : Int) < (a : Int) := by omega
            have gj9 : (j : Int) < (a : Int) := by omega
            clear hrow hbel hij hV hr81 hown
            by_cases hsee : V.testBit i = true ∨ V.testBit j = true
            ·have HSEE := Lib.hid hsee
             cases hti : V.testBit i with
             | true =>
              rw [hti] at ci
              clear hsee
              go_wp2
              go_quiet (fail)
              obtain ⟨W2, hW2⟩ : ∃ W2, wr.drewN nq = W2 := ⟨_, rfl⟩
              rw [hW2]
              have hb2 : Below wr.heap.size wr W2 := by rw [← hW2]; exact bdN (Below.refl _ _) nq
              have hr2 := HROW.out.below hb2 HROW.out.lt
              have HB2 := Lib.hid (HB.out.trans (hb2.mono HB.out.size))
              have k2 := hr2.cell i
              rw [seenC_get hi9] at k2
              have k3 := hr2.cell j
              rw [seenC_get hj9] at k3
              have f2 := hr2.free i
              have hr3 := hr2.store i (.bool true)
              rw [seenC_set] at hr3
              have m3 := hr3.cell j
              rw [seenC_get hj9] at m3
              have f3 := hr3.free j
              have hr4 := hr3.store j (.bool true)
              rw [seenC_set] at hr4
              have HR4 : Hid (Row 4 ((W2.setCell ⟨s, i, none⟩ (.bool true)).setCell ⟨s, j, none⟩ (.bool true)) s (seenC a (rnd (-1) (toE (X.take (k + 1))) S))) := by
               show Row _ _ _ _
               rw [HNEXT.out, seeS_yes (by omega) (by omega) HSEE.out]; exact hr4
              have hq2 := HR81.out.below hb2 HR81.out.lt
              have HQ4 := Lib.hid ((hq2.other ⟨s, i, none⟩ (by dsimp only; omega) (.bool true)).other ⟨s, j, none⟩ (by dsimp only; omega) (.bool true))
              have ho2 := HOWN.out.below hb2 (Nat.le_refl _)
              have HO4 := Lib.hid ((ho2.other hr2 (by decide) i (.bool true)).other hr3 (by decide) j (.bool true))
              have HB4 := Lib.hid ((HB2.out.setCell (p := ⟨s, i, none⟩) (by dsimp only; omega) (.bool true)).setCell (p := ⟨s, j, none⟩) (by dsimp only; omega) (.bool true))
              clear hW2 hb2 hr2 hr3 hr4 ci cj hq2 ho2
              rw [hti] at k2
              go_wp2
              go_roundw
              case rel => exact ⟨k + 1, by omega, by go_num, HR4.out, HQ4.out, HO4.out, HB4.out⟩
              case measure => simp [intOf]; omega
             | false =>
              have htj : V.testBit j = true := by rcases hsee with h | h; (rw [hti] at h; cases h); exact h
              rw [hti] at ci
              rw [htj] at cj
              clear hsee
              go_wp2
              go_quiet (fail)
              obtain ⟨W2, hW2⟩ : ∃ W2, wr.drewN nq = W2 := ⟨_, rfl⟩
              rw [hW2]
              have hb2 : Below wr.heap.size wr W2 := by rw [← hW2]; exact bdN (Below.refl _ _) nq
              have hr2 := HROW.out.below hb2 HROW.out.lt
              have HB2 := Lib.hid (HB.out.trans (hb2.mono HB.out.size))
              have k2 := hr2.cell i
              rw [seenC_get hi9] at k2
              have k3 := hr2.cell j
              rw [seenC_get hj9] at k3
              have f2 := hr2.free i
              have hr3 := hr2.store i (.bool true)
              rw [seenC_set] at hr3
              have m3 := hr3.cell j
              rw [seenC_get hj9] at m3
              have f3 := hr3.free j
              have hr4 := hr3.store j (.bool true)
              rw [seenC_set] at hr4
              have HR4 : Hid (Row 4 ((W2.setCell ⟨s, i, none⟩ (.bool true)).setCell ⟨s, j, none⟩ (.bool true)) s (seenC a (rnd (-1) (toE (X.take (k + 1))) S))) := by
               show Row _ _ _ _
               rw [HNEXT.out, seeS_yes (by omega) (by omega) HSEE.out]; exact hr4
              have hq2 := HR81.out.below hb2 HR81.out.lt
              have HQ4 := Lib.hid ((hq2.other ⟨s, i, none⟩ (by dsimp only; omega) (.bool true)).other ⟨s, j, none⟩ (by dsimp only; omega) (.bool true))
              have ho2 := HOWN.out.below hb2 (Nat.le_refl _)
              have HO4 := Lib.hid ((ho2.other hr2 (by decide) i (.bool true)).other hr3 (by decide) j (.bool true))
              have HB4 := Lib.hid ((HB2.out.setCell (p := ⟨s, i, none⟩) (by dsimp only; omega) (.bool true)).setCell (p := ⟨s, j, none⟩) (by dsimp only; omega) (.bool true))
              clear hW2 hb2 hr2 hr3 hr4 ci cj hq2 ho2
              rw [hti] at k2
              rw [htj] at k3
              go_wp2
              go_roundw
              case rel => exact ⟨k + 1, by omega, by go_num, HR4.out, HQ4.out, HO4.out, HB4.out⟩
              case measure => simp [intOf]; omega
            ·have h1 : V.testBit i = false := by cases h : V.testBit i; rfl; exact absurd (.inl h) hsee
             have h2 : V.testBit j = false := by cases h : V.testBit j; rfl; exact absurd (.inr h) hsee
             have HWHY : Hid ((i : Int) = -1 ∨ (j : Int) = -1 ∨ (V.testBit i = false ∧ V.testBit j = false)) := .inr (.inr ⟨h1, h2⟩)
             rw [h1] at ci
             rw [h2] at cj
             clear hsee
             go_wp2
             go_quiet (fail)
             go_wp2
             go_roundw
             case rel => exact ⟨k + 1, by omega, by go_num, by rw [HNEXT.out, seeS_no HWHY.out]; exact HROW.out.below (bdN (Below.refl _ _) _) HROW.out.lt, HR81.out.below (bdN (Below.refl _ _) _) HR81.out.lt, HOWN.out.below (bdN (Below.refl _ _) _) (Nat.le_refl _), bdN HB.out _⟩
             case measure => simp [intOf]; omega
           ·obtain rfl : k = X.length := by omega
            rw [List.take_length] at hrow
            have HROW := Lib.hid hrow
            have HQ := Lib.hid hr81
            have HO := Lib.hid hown
            have HB := Lib.hid hbel
            clear hrow hbel hr81 hown
            go_wp2
            go_roundw
            case rel => exact ⟨r + 1, by omega, by go_num, by rw [HS1.out]; exact HROW.out, HQ.out, HO.out, HB.out⟩
            case measure => simp [intOf]; omega
         ·obtain rfl : r = a := by omega
          obtain ⟨V, hV⟩ : ∃ V, seenS U r r = V := ⟨_, rfl⟩
          rw [hV] at hrow
          have HFREE : Hid (∀ k, k < r → V.testBit k = false → (∀ j, j < k → V.testBit j = true) → 1 ≤ k ∧ U.testBit ((k - 1) * 9 + k) = false) := fun k hk h1 h2 => by
           rw [← hV] at h1 h2
           exact unseen_free hN2 hN9 hk h1 h2
          obtain ⟨k0, hk0, hk0b⟩ := HUN.out
          rw [hV] at hk0b
          have HK0 := Lib.hid hk0b
          have HROW := Lib.hid hrow
          have HQ := Lib.hid hr81
          have HB := Lib.hid hbel
          obtain ⟨wo5, hwo5⟩ : ∃ wo5 : World, wo5 = wr := ⟨_, rfl⟩
          subst hwo5
          clear hrow hbel hr81 hown hV hk0b HUN
          go_wp2
          go_loopw [20] (fun kv wr => ∃ k : Nat, k ≤ k0 ∧ kv = .int .i64 k ∧ (∀ t, t < k → V.testBit t = true) ∧ wr = wo5) (fun kv _ => k0 - (intOf kv).toNat)
          case atStart => exact ⟨0, Nat.zero_le _, rfl, fun t ht => by omega, rfl⟩
          case round =>
           obtain ⟨k, hk, rfl, hall, hwr⟩ := hrel
           subst hwr
           have hkr : k < r := by omega
           have gkr : (k : Int) < (r : Int) := by omega
           have ck := HROW.out.cell k
           rw [seenC_get hkr] at ck
           have HALL := Lib.hid hall
           clear hall
           cases hbit : V.testBit k with
           | true =>
            rw [hbit] at ck
            have hkk : k < k0 := by
             rcases Nat.lt_or_ge k k0 with h | h
             ·exact h
             ·exfalso
              have : k = k0 := by omega
              subst this
              have := HK0.out
              rw [hbit] at this; cases this
            have HNX : Hid (∀ t, t < k + 1 → V.testBit t = true) := fun t ht => by
             rcases Nat.lt_or_ge t k with g | g
             ·exact HALL.out t g
             ·have : t = k := by omega
              subst this; exact hbit
            go_wp2
            go_roundw
            case rel => exact ⟨k + 1, by omega, by go_num, HNX.out, trivial⟩
            case measure => simp [intOf]; omega
           | false =>
            rw [hbit] at ck
            obtain ⟨hk1, hfree⟩ := HFREE.out k hkr hbit HALL.out
            obtain ⟨c, hc⟩ : ∃ c, (k - 1) * 9 + k = c := ⟨_, rfl⟩
            rw [hc] at hfree
            have hc81 : c < 81 := by omega
            have gw0 : IntKind.i64.wrap ((k : Int) - 1) = (k : Int) - 1 := IntWalk.i64_in _ (by omega)
            have gw1 : IntKind.i64.wrap (((k : Int) - 1) * 9) = ((k : Int) - 1) * 9 := IntWalk.i64_in _ (by omega)
            have gw2 : IntKind.i64.wrap (((k : Int) - 1) * 9 + (k : Int)) = (c : Int) := by rw [show ((k : Int) - 1) * 9 + (k : Int) = (c : Int) by omega]; exact IntWalk.i64_in _ (by omega)
            have q2 := HQ.out.cell c
            rw [seenC_get hc81] at q2
            have f2 := HQ.out.free c
            have hr3 := HQ.out.store c (.bool true)
            rw [seenC_set] at hr3
            have HR3 := Lib.hid hr3
            have HB3 := Lib.hid (HB.out.setCell (p := ⟨w.heap.size, c, none⟩) (Nat.le_refl _) (.bool true))
            have HLT := Lib.hid (left_lt hc81 hfree)
            clear hr3 hfree hc
            go_wp2
            go_roundw
            case rel => exact ⟨_, HR3.out, HB3.out⟩
            case measure =>
             rw [leftW_eq HR3.out, HLEFT.out]
             exact HLT.out
end Go.Proofs.YtllhejjcmfiebaaDoor
