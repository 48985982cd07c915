/- The program's iterator over the places of a set. -/
import Derived.Test.YtllhejjcmfiebaaDoorS0
import Derived.Test.YtllhejjcmfiebaaDoorTz
import Derived.RangeFuncNested
import Derived.RangeFuncBound
import Derived.RangeFuncCalls
import Derived.RangeFuncLeaves
import Derived.RangeFuncFrom
import Derived.Shelf.Abstract
import Derived.Shelf.RegionOpen
import Derived.OwnWalkIn
import Derived.TacticsInMore
import Derived.LoopNIn
import Derived.LoopIn
set_option linter.unusedVariables false
set_option linter.unusedSimpArgs false
set_option linter.unnecessarySimpa false
namespace Go.Proofs.YtllhejjcmfiebaaDoor
open Go.RowKit Go.Shelf
attribute [local go_sem] Oper.semAt_some
def lowOff (s : Nat) : Int := bits .and .u16 (s : Int) ((s : Int) - 1)
def restOk (s : Nat) : Bool := s == 0 || (pls s == lowN 16 s :: pls (lowOff s).toNat && decide (0 ≤ lowOff s) && decide ((lowOff s).toNat < s))
theorem rest_all : ((List.range 512).all restOk) = true := by decide +kernel
theorem rest_facts {s : Nat} (h0 : 0 < s) (hs : s < 512) : ∃ t : Nat, lowOff s = (t : Int) ∧ t < s ∧ pls s = lowN 16 s :: pls t := by
 have h := List.all_eq_true.1 rest_all s (List.mem_range.2 hs)
 simp only [restOk, Bool.or_eq_true, beq_iff_eq, Bool.and_eq_true, decide_eq_true_eq] at h
 rcases h with h | ⟨⟨h1, h2⟩, h3⟩
 ·omega
 ·exact ⟨(lowOff s).toNat, by omega, h3, h1⟩
theorem pls_zero : pls 0 = [] := by decide
theorem places_any (s : Nat) (w : World) :
  Calls Tryd.prog 69 #[.int .u16 s] w fun e w' => e = .returned (.func (.func 84) #[] #[.pointer (some ⟨w.heap.size, 0, none⟩)]) ∧ w' = w.alloc (.cells #[.int .u16 s] 86) := by
 go_enter Tryd.func69, Tryd.ntmps69
 go_wp2
 go_ret
 exact ⟨rfl, rfl⟩
def cellN (B : Nat) (W : World) : Nat := match W.cell? ⟨B, 0, none⟩ with | some (.int _ n) => n.toNat | _ => 0
theorem cellN_row {B s : Nat} {W : World} (h : Row 86 W B [.int .u16 s]) : cellN B W = s := by
 unfold cellN
 rw [show W.cell? ⟨B, 0, none⟩ = some (.int .u16 s) from h.cell 0]
 simp
def KeepB (B : Nat) (W W' : World) : Prop := W'.heap[B]? = W.heap[B]?
set_option maxRecDepth 100000 in
set_option maxHeartbeats 2000000 in
theorem places1_in (n : Nat) (hn : 1 ≤ n) (l Bn : Nat) (s0 : Nat) (hs0 : s0 < 512) (J Jx : List Nat → World → Prop)
  (hJT : ∀ pre W, J pre W → Tab W) (hJw : ∀ pre W (t : Nat), J pre W → J pre (W.setCell ⟨Bn, 0, none⟩ (.int .u16 t)))
  (hY : ∀ pre x W, J pre W → (∃ post, pls s0 = pre ++ x :: post) → YieldAt Fence.wide (n - 1) Tryd.prog l #[.int .i64 (x : Nat)] W fun e W' =>
   (e = .returned (.bool true) ∧ J (pre ++ [x]) W' ∧ KeepB Bn W W') ∨ (e = .returned (.bool false) ∧ Jx (pre ++ [x]) W'))
  (W : World) (hBn : Row 86 W Bn [.int .u16 s0]) (h0 : J [] W) :
  CallsIn Fence.wide n Tryd.prog 84 #[.func (.yield l) #[] #[], .pointer (some ⟨Bn, 0, none⟩)] W fun e W' => (∃ v, e = .returned v) ∧
   (J (pls s0) W' ∨ (∃ pre, pre <+: pls s0 ∧ Jx pre W')) := by
 have HJT := Lib.hid hJT
 have HJW := Lib.hid hJw
 have HROW0 := Lib.hid hBn
 refine callsIn_of_wp Tryd.func84 rfl trivial ?_ rfl
 simp only [Tryd.ntmps84, List.size_toArray, List.length_cons, List.length_nil, Nat.reduceAdd, Nat.reduceSub, Array.replicate_succ, Array.replicate_zero, List.push_toArray, List.append_toArray, List.nil_append, List.cons_append]
 clear hJT hJw hBn
 gi_wp2
 gi_loopw [] (fun wr => ∃ (pre : List Nat) (s : Nat), s < 512 ∧ pls s0 = pre ++ pls s ∧ Row 86 wr Bn [.int .u16 s] ∧ J pre wr)
  (fun wr => cellN Bn wr)
 case atStart => exact ⟨[], s0, hs0, rfl, HROW0.out, h0⟩
 case round =>
  obtain ⟨pre, s, hs, hp, hrow, hJ⟩ := hrel
  have hc := hrow.cell 0
  have hfz := hrow.free 0
  simp only [List.getElem?_cons_zero] at hc
  have HROW := Lib.hid hrow
  have HC : Hid (cellN Bn wr = s) := cellN_row hrow
  clear HROW0
  by_cases h0 : s = 0
  ·subst h0
   have hpre : pls s0 = pre := by rw [hp, pls_zero, List.append_nil]
   have HJ := Lib.hid hJ
   have HP := Lib.hid hpre
   clear hp hpre hJ hrow hY
   have hz : ((0 : Int) != 0) = false := rfl
   gi_wp2
   go_end0
   exact ⟨⟨_, rfl⟩, .inl (by rw [HP.out]; exact HJ.out)⟩
  ·obtain ⟨t, ht, hts, hpl⟩ := rest_facts (by omega : 0 < s) hs
   obtain ⟨fn, tmps, assign, body, hy, hR⟩ := hY pre (lowN 16 s) wr hJ ⟨pls t, by rw [hp, hpl]⟩
   have HR := Lib.hid hR
   have HTZ := Lib.hid (tz_go s (by omega) hs wr (HJT.out _ _ hJ))
   have HPL : Hid (pls s0 = (pre ++ [lowN 16 s]) ++ pls t) := by show _ = _; rw [hp, hpl]; simp
   have HPRE : Hid ((pre ++ [lowN 16 s]) <+: pls s0) := ⟨pls t, HPL.out.symm⟩
   obtain ⟨x, hx⟩ : ∃ x, lowN 16 s = x := ⟨_, rfl⟩
   rw [hx] at hy HR HTZ HPL HPRE
   have hne : ((s : Int) != 0) = true := by rw [bne_iff_ne]; omega
   have hsub : IntKind.u16.wrap ((s : Int) - 1) = (s : Int) - 1 := by simp [IntKind.wrap, IntKind.bits, IntKind.signed]; omega
   have hlo : bits .and .u16 (s : Int) ((s : Int) - 1) = (t : Int) := ht
   have HT := Lib.hid hts
   clear hp hpl hJ hrow hR hx ht hY
   gi_wp2
   refine ⟨trivial, (callsIn_wide.2 HTZ.out).mono ?_⟩
   rintro e w1 ⟨rfl, rfl⟩
   gi_wp2
   refine HR.out.mono ?_
   rintro e W3 (⟨rfl, hJ3, hk3⟩ | ⟨rfl, hJx3⟩)
   ·have hrow3 : Row 86 W3 Bn [.int .u16 s] := by have := HROW.out; unfold Row at this ⊢; rw [hk3]; exact this
    have hc3 := hrow3.cell 0
    have hf3 := hrow3.free 0
    simp only [List.getElem?_cons_zero] at hc3
    have HROW3 := Lib.hid (hrow3.store 0 (.int .u16 t))
    have HJ3 := Lib.hid (HJW.out _ _ t hJ3)
    clear hrow3 hJ3 hk3
    gi_wp2
    go_roundw
    case rel => exact ⟨pre ++ [x], t, by have := HT.out; omega, HPL.out, HROW3.out, HJ3.out⟩
    case measure => rw [cellN_row HROW3.out, HC.out]; exact HT.out
   ·gi_wp2
    exact bodyPost_ret (v := .tuple #[]) (by simp [results, Tryd.results84, go_sem]) rfl ⟨⟨_, rfl⟩, .inr ⟨pre ++ [x], HPRE.out, hJx3⟩⟩
end Go.Proofs.YtllhejjcmfiebaaDoor
