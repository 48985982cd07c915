/- Of what are no bids, every question answers with the same error. -/
import Derived.Test.YtoenpecdhjadmaaDoorR6
import Derived.Test.YtoenpecdhjadmaaDoorL4
set_option linter.unusedVariables false
set_option linter.unusedSimpArgs false
set_option linter.unnecessarySimpa false
namespace Go.Proofs.YtoenpecdhjadmaaDoor
open Go.RowKit

set_option maxRecDepth 100000 in
set_option maxHeartbeats 2000000 in
theorem no_gain (v : Value) (m who : Int) (bids : List (List Int)) (w : World) (hl : Mat w v bids) (hm : I64 m) (hf : Few bids) (hc : checkP m bids ≠ 0) :
    Calls Tryd.prog 19 #[.int .i64 m, v, .int .i64 who, .slice none 0 0] w fun e w' => e = .returned (.tuple #[.int .i64 0, .int .i64 (checkP m bids)]) ∧ Below w.heap.size w w' := by
  have HNW := Lib.hid (new_go v m bids w hl hm hf)
  have e1 : newR m bids v = .agg #[.int .i64 0, .slice none 0 0] := by unfold newR; rw [if_neg hc]
  rw [e1] at HNW
  obtain ⟨c, hcc⟩ : ∃ c, checkP m bids = c := ⟨_, rfl⟩
  rw [hcc] at HNW hc ⊢
  have hne : (c != 0) = true := by rw [bne_iff_ne]; exact hc
  have hne2 : (c == 0) = false := by rw [beq_eq_false_iff_ne]; exact hc
  clear hl hm hf e1 hcc hc
  go_enter Tryd.func19, Tryd.ntmps19
  go_wp2_with (first
    | (go_at_call 46; refine HNW.out.mono ?_; rintro e w1 ⟨rfl, hb1⟩; have HB1 := Lib.hid hb1; clear hb1))
  go_ret2
  exact ⟨rfl, HB1.out.alloc HB1.out.size _⟩
set_option maxRecDepth 100000 in
set_option maxHeartbeats 2000000 in
theorem no_isSingle (v : Value) (m : Int) (bids : List (List Int)) (w : World) (hl : Mat w v bids) (hm : I64 m) (hf : Few bids) (hc : checkP m bids ≠ 0) :
    Calls Tryd.prog 20 #[.int .i64 m, v] w fun e w' => e = .returned (.tuple #[.bool false, .int .i64 (checkP m bids)]) ∧ Below w.heap.size w w' := by
  have HNW := Lib.hid (new_go v m bids w hl hm hf)
  have e1 : newR m bids v = .agg #[.int .i64 0, .slice none 0 0] := by unfold newR; rw [if_neg hc]
  rw [e1] at HNW
  obtain ⟨c, hcc⟩ : ∃ c, checkP m bids = c := ⟨_, rfl⟩
  rw [hcc] at HNW hc ⊢
  have hne : (c != 0) = true := by rw [bne_iff_ne]; exact hc
  have hne2 : (c == 0) = false := by rw [beq_eq_false_iff_ne]; exact hc
  clear hl hm hf e1 hcc hc
  go_enter Tryd.func20, Tryd.ntmps20
  go_wp2_with (first
    | (go_at_call 46; refine HNW.out.mono ?_; rintro e w1 ⟨rfl, hb1⟩; have HB1 := Lib.hid hb1; clear hb1))
  go_ret2
  exact ⟨rfl, HB1.out.alloc HB1.out.size _⟩
set_option maxRecDepth 100000 in
set_option maxHeartbeats 2000000 in
theorem no_prices (v : Value) (m : Int) (bids : List (List Int)) (w : World) (hl : Mat w v bids) (hm : I64 m) (hf : Few bids) (hc : checkP m bids ≠ 0) :
    Calls Tryd.prog 21 #[.int .i64 m, v] w fun e w' => ∃ v', e = .returned (.tuple #[v', .int .i64 (checkP m bids)]) ∧ Sl w' v' [] ∧ Below w.heap.size w w' := by
  have HNW := Lib.hid (new_go v m bids w hl hm hf)
  have e1 : newR m bids v = .agg #[.int .i64 0, .slice none 0 0] := by unfold newR; rw [if_neg hc]
  rw [e1] at HNW
  obtain ⟨c, hcc⟩ : ∃ c, checkP m bids = c := ⟨_, rfl⟩
  rw [hcc] at HNW hc ⊢
  have hne : (c != 0) = true := by rw [bne_iff_ne]; exact hc
  have hne2 : (c == 0) = false := by rw [beq_eq_false_iff_ne]; exact hc
  clear hl hm hf e1 hcc hc
  go_enter Tryd.func21, Tryd.ntmps21
  go_wp2_with (first
    | (go_at_call 46; refine HNW.out.mono ?_; rintro e w1 ⟨rfl, hb1⟩; have HB1 := Lib.hid hb1; clear hb1))
  go_ret2
  exact ⟨_, rfl, Sl.nil _, HB1.out.alloc HB1.out.size _⟩
set_option maxRecDepth 100000 in
set_option maxHeartbeats 2000000 in
theorem no_clears (v : Value) (m : Int) (bids : List (List Int)) (w : World) (hl : Mat w v bids) (hm : I64 m) (hf : Few bids) (hc : checkP m bids ≠ 0) :
    Calls Tryd.prog 22 #[.int .i64 m, v, .slice none 0 0, .slice none 0 0] w fun e w' => e = .returned (.tuple #[.bool false, .int .i64 (checkP m bids)]) ∧ Below w.heap.size w w' := by
  have HNW := Lib.hid (new_go v m bids w hl hm hf)
  have e1 : newR m bids v = .agg #[.int .i64 0, .slice none 0 0] := by unfold newR; rw [if_neg hc]
  rw [e1] at HNW
  obtain ⟨c, hcc⟩ : ∃ c, checkP m bids = c := ⟨_, rfl⟩
  rw [hcc] at HNW hc ⊢
  have hne : (c != 0) = true := by rw [bne_iff_ne]; exact hc
  have hne2 : (c == 0) = false := by rw [beq_eq_false_iff_ne]; exact hc
  clear hl hm hf e1 hcc hc
  go_enter Tryd.func22, Tryd.ntmps22
  go_wp2_with (first
    | (go_at_call 46; refine HNW.out.mono ?_; rintro e w1 ⟨rfl, hb1⟩; have HB1 := Lib.hid hb1; clear hb1))
  go_ret2
  exact ⟨rfl, HB1.out.alloc HB1.out.size _⟩
set_option maxRecDepth 100000 in
set_option maxHeartbeats 2000000 in
theorem no_isCore (v : Value) (m : Int) (bids : List (List Int)) (w : World) (hl : Mat w v bids) (hm : I64 m) (hf : Few bids) (hc : checkP m bids ≠ 0) :
    Calls Tryd.prog 23 #[.int .i64 m, v, .slice none 0 0] w fun e w' => e = .returned (.tuple #[.bool false, .int .i64 (checkP m bids)]) ∧ Below w.heap.size w w' := by
  have HNW := Lib.hid (new_go v m bids w hl hm hf)
  have e1 : newR m bids v = .agg #[.int .i64 0, .slice none 0 0] := by unfold newR; rw [if_neg hc]
  rw [e1] at HNW
  obtain ⟨c, hcc⟩ : ∃ c, checkP m bids = c := ⟨_, rfl⟩
  rw [hcc] at HNW hc ⊢
  have hne : (c != 0) = true := by rw [bne_iff_ne]; exact hc
  have hne2 : (c == 0) = false := by rw [beq_eq_false_iff_ne]; exact hc
  clear hl hm hf e1 hcc hc
  go_enter Tryd.func23, Tryd.ntmps23
  go_wp2_with (first
    | (go_at_call 46; refine HNW.out.mono ?_; rintro e w1 ⟨rfl, hb1⟩; have HB1 := Lib.hid hb1; clear hb1))
  go_ret2
  exact ⟨rfl, HB1.out.alloc HB1.out.size _⟩
set_option maxRecDepth 100000 in
set_option maxHeartbeats 2000000 in
theorem no_isAlloc (v lv : Value) (m : Int) (bids : List (List Int)) (w : World) (hl : Mat w v bids) (hm : I64 m) (hf : Few bids) (hc : checkP m bids ≠ 0) :
    Calls Tryd.prog 24 #[.int .i64 m, v, lv] w fun e w' => e = .returned (.bool false) ∧ Below w.heap.size w w' := by
  have HNW := Lib.hid (new_go v m bids w hl hm hf)
  have e1 : newR m bids v = .agg #[.int .i64 0, .slice none 0 0] := by unfold newR; rw [if_neg hc]
  rw [e1] at HNW
  obtain ⟨c, hcc⟩ : ∃ c, checkP m bids = c := ⟨_, rfl⟩
  rw [hcc] at HNW hc
  have hne : (c != 0) = true := by rw [bne_iff_ne]; exact hc
  have hne2 : (c == 0) = false := by rw [beq_eq_false_iff_ne]; exact hc
  clear hl hm hf e1 hcc hc
  go_enter Tryd.func24, Tryd.ntmps24
  go_wp2_with (first
    | (go_at_call 46; refine HNW.out.mono ?_; rintro e w1 ⟨rfl, hb1⟩; have HB1 := Lib.hid hb1; clear hb1))
  go_ret
  exact ⟨rfl, HB1.out.alloc HB1.out.size _⟩
theorem refuses : Refuses where
  gain := fun v m who bids w hl hm _ hf hc => no_gain v m who bids w hl hm hf hc
  isSingle := no_isSingle
  prices := no_prices
  clears := no_clears
  isCore := no_isCore
  isAlloc := fun v lv m bids _ w hl _ _ hm hf hc => no_isAlloc v lv m bids w hl hm hf hc
end Go.Proofs.YtoenpecdhjadmaaDoor
