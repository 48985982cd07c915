/- The contract that answers the evaluator's calls of TrailingZeros16. -/
import Derived.Test.YtllhejjcmfiebaaDoorEvS
import Derived.Test.YtllhejjcmfiebaaDoorTz
set_option linter.unusedVariables false
set_option linter.unusedSimpArgs false
set_option linter.unnecessarySimpa false
namespace Go.Proofs.YtllhejjcmfiebaaDoor
open Go.RowKit
theorem tzN_eq : ∀ (k n : Nat), Go.Ev.tzN k n = lowN k n
 | 0, _ => rfl
 | k + 1, n => by
  unfold Go.Ev.tzN lowN
  have hb : Nat.beq (n % 2) 1 = decide (n % 2 = 1) := by rw [Bool.eq_iff_iff]; simp
  rw [hb]
  by_cases h : n % 2 = 1
  ·rw [if_pos h]; simp [h]
  ·rw [if_neg h]; simp [h, tzN_eq k]
theorem tab_of_okw {W : World} (h : Go.Ev.OKW W) : Tab W := by
 obtain ⟨h1, h2⟩ := h
 refine ⟨fun r hr => ?_, h1⟩
 have := h2 (⟨0, r, none⟩, .int .u8 (Go.Ev.tab32.getD r 0)) (List.mem_map.2 ⟨r, List.mem_range.2 hr, rfl⟩)
 exact this.2
theorem okw_of_tab {W : World} (h : Tab W) : Go.Ev.OKW W := by
 refine ⟨h.lt, fun p hp => ?_⟩
 obtain ⟨r, hr, rfl⟩ := List.mem_map.1 hp
 exact ⟨Nat.lt_succ_self _, h.c r (List.mem_range.1 hr)⟩
instance orc_sound : Go.Ev.OrcSound Tryd.prog where
 ok := by
  intro f vs v ho w hw
  unfold Go.Ev.orc at ho
  split at ho
  ·rename_i hf
   have hf' : f = 85 := Nat.eq_of_beq_eq_true hf
   subst hf'
   split at ho
   ·rename_i n
    split at ho
    ·rename_i hc
     cases ho
     simp only [Bool.and_eq_true] at hc
     have h0 : 0 < n := Nat.le_of_ble_eq_true hc.1
     have hn : n < 512 := Nat.le_of_ble_eq_true hc.2
     rw [tzN_eq]
     exact tz_go n h0 hn w (tab_of_okw hw)
    ·cases ho
   ·cases ho
  ·cases ho
end Go.Proofs.YtllhejjcmfiebaaDoor
