/- SlideApplies: the law. -/
import Derived.Test.YtllhejjcmfiebaaDoorS37
import Derived.Test.YtllhejjcmfiebaaDoorAwake
import Derived.Maps.AppendAt
set_option linter.unusedVariables false
set_option linter.unusedSimpArgs false
set_option linter.unnecessarySimpa false
namespace Go.Proofs.YtllhejjcmfiebaaDoor
open Go.RowKit Go.Shelf
theorem stays_of {ks : List Kd} (hM : ∀ (i : Nat) M, ks[i]? = some (.mem M) → ∀ v w w', M v w → Below w.heap.size w w' → M v w') (hF : ∀ (j b k T n : Nat), ks[j]? ≠ some (.fill b k T n)) : Stays ks :=
 ⟨fun i M v w w' hk h hb => hM i M hk v w w' h hb, fun i M v w w' j g b k T n xs hk hf => absurd hf (hF j b k T n)⟩
theorem PaA.below {w w' : World} {v : Value} {l : Ps} (h : PaA w v l) (hb : Below w.heap.size w w') : PaA w' v l := by
 rcases h with h | ⟨ad, cap, rfl, h2, h3, h4⟩
 ·exact .inl h
 ·refine .inr ⟨ad, cap, rfl, h2, h3, fun j u hj => ?_⟩
  have := h4 j u hj
  exact (hb.cell (p := ad.add j) (World.block_lt_of_cell? _ _ this)).trans this
theorem ok_of_check {N : Nat} {l : Ps} (h : checkB N l = 0) : (∀ j, j < l.length → okAt N l j = true) ∧ joinedP N (toE l) (-1) = true := by
 unfold checkB at h
 split at h
 ·split at h
  ·rename_i hb
   rw [Bool.and_eq_true, Int.toNat_natCast] at hb
   exact ⟨fun j hj => List.all_eq_true.1 hb.1 j (List.mem_range.2 hj), hb.2⟩
  ·cases h
 ·cases h
theorem SlA.grownBy {w w' : World} {v : Value} {xs : List Value} {row : Option Nat} (h : SlA w v xs) (hg : w.grownBy w' row) (hne : ∀ g, row = some g → v.ownBlock ≠ some g) : SlA w' v xs := by
 obtain ⟨p, cap, rfl, h1, h2, h3, h4⟩ := h
 refine ⟨p, cap, rfl, h1, h2, h3, fun h0 => ?_⟩
 obtain ⟨ad, rfl, hlt, hc⟩ := h4 h0
 refine ⟨ad, rfl, Nat.lt_of_lt_of_le hlt hg.size, fun i hi => ?_⟩
 rw [← hc i hi]
 refine World.cell?_of_block ?_
 rw [block_add]
 refine hg.block _ hlt fun he => ?_
 exact hne ad.block he.symm rfl
set_option maxRecDepth 100000 in
set_option maxHeartbeats 2000000 in
theorem ints_same (va vb : Value) (l : List Int) (w : World) (ha : SlA w va (ints l)) (hb : SlA w vb (ints l)) :
  Calls Tryd.prog 38 #[va, vb] w fun e w' => e = .returned (.bool true) ∧ Below w.heap.size w w' := by
 obtain ⟨pa, ca, rfl, ha1, ha2⟩ := ha.form
 obtain ⟨pb, cb, rfl, hb1, hb2⟩ := hb.form
 have HA := Lib.hid ha
 have HB := Lib.hid hb
 have hne : ((l.length : Int) != (l.length : Int)) = false := by simp
 clear ha hb
 go_enter Tryd.func38, Tryd.ntmps38
 go_wp2
 go_loopw [5] (fun i wr => ∃ k : Nat, k ≤ l.length ∧ i = .int .i64 k ∧ Below w.heap.size w wr) (fun i _ => l.length - (intOf i).toNat)
 case atStart => exact ⟨0, Nat.zero_le _, rfl, Below.refl _ _⟩
 case round =>
  obtain ⟨k, hk, rfl, hbel⟩ := hrel
  by_cases hlt : k < l.length
  ·obtain ⟨ad, cap, hv, _, _, hg, hc⟩ := (HA.out.below hbel).int_at k hlt
   cases hv
   obtain ⟨ad', cap', hv, _, _, hg', hc'⟩ := (HB.out.below hbel).int_at k hlt
   cases hv
   obtain ⟨y, hy⟩ : ∃ y, l.getD k 0 = y := ⟨_, rfl⟩
   rw [hy] at hc hc'
   have hyy : (y != y) = false := by simp
   have gk : (k : Int) < (l.length : Int) := by omega
   have HBEL := Lib.hid hbel
   clear hbel hy
   go_wp2
   go_quiet (fail)
   go_wp2
   go_roundw
   case rel => exact ⟨k + 1, by omega, by go_num, bdN HBEL.out _⟩
   case measure => simp [intOf]; omega
  ·obtain rfl : k = l.length := by omega
   go_wp2
   go_ret
   exact ⟨rfl, hbel⟩
theorem ordN_nodup (l : List Int) : ∀ x, (ordN l x).Nodup
 | 0 => List.nodup_nil
 | x + 1 => by
  have ih := ordN_nodup l x
  have hmem := ordN_mem l x
  have hp : (ordN l (x + 1)).Perm ((x : Int) :: ordN l x) := by
   show (insN (ordN l x) (atN l x) x).Perm _
   unfold insN
   rw [List.append_assoc, List.singleton_append]
   refine List.perm_middle.trans ?_
   rw [List.take_append_drop]
  rw [hp.nodup_iff, List.nodup_cons]
  exact ⟨fun h => by have := (hmem _).1 h; omega, ih⟩
end Go.Proofs.YtllhejjcmfiebaaDoor
