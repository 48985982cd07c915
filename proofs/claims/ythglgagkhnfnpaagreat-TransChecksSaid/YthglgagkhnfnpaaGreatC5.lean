/- strings.ContainsRune at a rune beyond ASCII, in a string of two ASCII letters. -/
import Derived.Test.YthglgagkhnfnpaaGreatC4
import Derived.Laws.RangeAny
set_option linter.unusedVariables false
set_option linter.unusedSimpArgs false
set_option linter.unnecessarySimpa false
namespace Go.Proofs.YthglgagkhnfnpaaGreat
open Go.RowKit

theorem below_drewN (w : World) : ∀ n : Nat, Below w.heap.size w (w.drewN n)
  | 0 => Below.refl _ _
  | n + 1 => (below_drewN w n).drew
theorem encode_cases (c : Int) (h : 128 ≤ c) (hv : Lib.validRune c = true) :
    (∃ a b : UInt8, Utf8.encode c = ⟨#[a, b]⟩ ∧ 128 ≤ b.toNat) ∨ 3 ≤ (Utf8.encode c).size := by
  have hv' : Utf8.valid c = true := by
    simp [Lib.validRune, Utf8.valid] at hv ⊢; omega
  unfold Utf8.encode
  simp only [hv', if_true]
  split
  · omega
  · split
    · refine .inl ⟨_, _, rfl, ?_⟩
      simp; omega
    · split
      · exact .inr (by simp [ByteArray.size])
      · exact .inr (by simp [ByteArray.size])
set_option maxRecDepth 100000 in
set_option maxHeartbeats 1000000 in
theorem indexRune_bad (c : Int) (w : World) (h : 128 ≤ c) (h2 : c ≤ 2147483647) (hne : c ≠ 65533) (hv : Lib.validRune c = false) :
    Calls Tryz.prog 66 #[.string ⟨#[120, 121]⟩, .int .i32 c] w fun e w' => e = .returned (.int .i64 (-1)) ∧ Below w.heap.size w w' := by
  have hb : (c == 65533) = false := by rw [beq_eq_false_iff_ne]; exact hne
  have HV : Hid (∀ w, Calls Tryz.prog 87 #[.int .i32 c] w fun e w' => e = .returned (.bool false) ∧ w = w') := fun w => hv ▸ (Tryz.utf8_ValidRune c w).mono fun _ _ h => ⟨h.1, h.2.symm⟩
  clear hv hne
  go_enter Tryz.func66, Tryz.ntmps66
  go_wp2_with (go_at_call 87; refine (HV.out _).mono ?_; rintro e w' ⟨rfl, rfl⟩)
  go_ret
  exact ⟨rfl, Below.refl _ _⟩
set_option maxRecDepth 100000 in
set_option maxHeartbeats 1000000 in
theorem indexRune_long (c : Int) (rs : ByteArray) (w : World) (h : 128 ≤ c) (h2 : c ≤ 2147483647) (hne : c ≠ 65533) (hv : Lib.validRune c = true) (he : Utf8.encode c = rs) (hr : 3 ≤ rs.size) (hr2 : rs.size ≤ 4) :
    Calls Tryz.prog 66 #[.string ⟨#[120, 121]⟩, .int .i32 c] w fun e w' => e = .returned (.int .i64 (-1)) ∧ Below w.heap.size w w' := by
  have hb : (c == 65533) = false := by rw [beq_eq_false_iff_ne]; exact hne
  have HV : Hid (∀ w, Calls Tryz.prog 87 #[.int .i32 c] w fun e w' => e = .returned (.bool true) ∧ w = w') := fun w => hv ▸ (Tryz.utf8_ValidRune c w).mono fun _ _ h => ⟨h.1, h.2.symm⟩
  clear hv hne
  go_enter Tryz.func66, Tryz.ntmps66
  go_wp2_with (go_at_call 87; refine (HV.out _).mono ?_; rintro e w' ⟨rfl, rfl⟩)
  go_step3
  go_wp2
  refine wp_loop_rounds 1 ?_
  rw [rounds_succ]
  go_wp2
  rw [Exit.noGoto_ret]
  go_ret
  exact ⟨rfl, Below.refl _ _⟩
set_option maxRecDepth 100000 in
set_option maxHeartbeats 1000000 in
theorem indexRune_two (c : Int) (a b : UInt8) (w : World) (h : 128 ≤ c) (h2 : c ≤ 2147483647) (hne : c ≠ 65533) (hv : Lib.validRune c = true) (he : Utf8.encode c = ⟨#[a, b]⟩) (hr : 128 ≤ b.toNat) :
    Calls Tryz.prog 66 #[.string ⟨#[120, 121]⟩, .int .i32 c] w fun e w' => e = .returned (.int .i64 (-1)) ∧ Below w.heap.size w w' := by
  have hb : (c == 65533) = false := by rw [beq_eq_false_iff_ne]; exact hne
  have HV : Hid (∀ w, Calls Tryz.prog 87 #[.int .i32 c] w fun e w' => e = .returned (.bool true) ∧ w = w') := fun w => hv ▸ (Tryz.utf8_ValidRune c w).mono fun _ _ h => ⟨h.1, h.2.symm⟩
  clear hv hne
  go_enter Tryz.func66, Tryz.ntmps66
  go_wp2_with (go_at_call 87; refine (HV.out _).mono ?_; rintro e w' ⟨rfl, rfl⟩)
  go_step3
  go_wp2
  refine wp_loop_rounds 1 ?_
  rw [rounds_succ]
  go_wp2
  go_step3
  have hb2 : ((((⟨#[120, 121]⟩ : ByteArray)[1]'(by decide)).toNat : Int) != (((⟨#[a, b]⟩ : ByteArray)[1]'(by show 1 < 2; omega)).toNat : Int)) = true := by
    rw [bne_iff_ne]; show (121 : Int) ≠ (b.toNat : Int); omega
  go_wp2
  go_quiet (fail)
  obtain ⟨w1, hw1⟩ : ∃ w1, w.drewN nq = w1 := ⟨_, rfl⟩
  have HB1 : Hid (Below w.heap.size w w1) := hw1 ▸ below_drewN w nq
  rw [hw1]
  clear hw1
  go_wp2
  have hw2 : IntKind.i64.wrap 2 = 2 := by decide
  go_quiet ((go_at_call 61; exact Calls.quiet_of_same (Tryz.strings_IndexByte _ _ _)))
  go_wp2
  rw [Exit.noGoto_ret]
  simp only [Exit.inBlock, Exit.then]
  rw [Exit.noGoto_ret]
  simp only [Exit.inBlock, Exit.then]
  go_ret
  exact ⟨rfl, HB1.out.trans ((below_drewN _ _).mono HB1.out.size)⟩
set_option maxRecDepth 100000 in
set_option maxHeartbeats 1000000 in
theorem indexRune_err (w : World) :
    Calls Tryz.prog 66 #[.string ⟨#[120, 121]⟩, .int .i32 65533] w fun e w' => e = .returned (.int .i64 (-1)) ∧ Below w.heap.size w w' := by
  go_enter Tryz.func66, Tryz.ntmps66
  go_wp2
  go_loopw [4, 5, 6] (fun _ _ _ wr => ∃ pos : Nat, pos ≤ 2 ∧ wr = w.iter ⟨#[120, 121]⟩ pos) (fun _ _ _ wr => 2 - wr.iterPos w.heap.size)
  case atStart => exact ⟨0, by omega, rfl⟩
  case round =>
    obtain ⟨pos, hp, rfl⟩ := hrel
    rcases (by omega : pos = 0 ∨ pos = 1 ∨ pos = 2) with rfl | rfl | rfl
    · have hn := @run_next_ascii Tryz.prog w ⟨#[120, 121]⟩ 0
      have hn := fun ty => hn ty (by decide) (by decide)
      go_wp2
      go_roundw
      case rel => exact ⟨1, by omega, rfl⟩
      case measure => simp
    · have hn := @run_next_ascii Tryz.prog w ⟨#[120, 121]⟩ 1
      have hn := fun ty => hn ty (by decide) (by decide)
      go_wp2
      go_roundw
      case rel => exact ⟨2, by omega, rfl⟩
      case measure => simp
    · have hn := fun ty => @run_next_end Tryz.prog w ⟨#[120, 121]⟩ 2 ty (by decide)
      go_wp2
      go_ret
      exact ⟨rfl, (Below.refl _ _).alloc (Nat.le_refl _) _⟩
theorem indexRune_high (c : Int) (w : World) (h : 128 ≤ c) (h2 : c ≤ 2147483647) :
    Calls Tryz.prog 66 #[.string ⟨#[120, 121]⟩, .int .i32 c] w fun e w' => e = .returned (.int .i64 (-1)) ∧ Below w.heap.size w w' := by
  by_cases hne : c = 65533
  · subst hne; exact indexRune_err w
  · cases hv : Lib.validRune c with
    | false => exact indexRune_bad c w h h2 hne hv
    | true =>
      have hs4 : (Utf8.encode c).size ≤ 4 := by
        unfold Utf8.encode
        obtain ⟨x, hx⟩ : ∃ x, (if Utf8.valid c = true then c.toNat else Utf8.runeError) = x := ⟨_, rfl⟩
        simp only [hx]
        split
        · exact (by omega : 1 ≤ 4)
        · split
          · exact (by omega : 2 ≤ 4)
          · split
            · exact (by omega : 3 ≤ 4)
            · exact (by omega : 4 ≤ 4)
      rcases encode_cases c h hv with ⟨a, b, he, hb⟩ | h3
      · exact indexRune_two c a b w h h2 hne hv he hb
      · exact indexRune_long c _ w h h2 hne hv rfl h3 hs4
theorem containsRune_high (c : Int) (w : World) (h : 128 ≤ c) (h2 : c ≤ 2147483647) :
    Calls Tryz.prog 36 #[.string ⟨#[120, 121]⟩, .int .i32 c] w fun e w' => e = .returned (.bool false) ∧ Below w.heap.size w w' := by
  have HC : Hid (∀ w, Calls Tryz.prog 66 #[.string ⟨#[120, 121]⟩, .int .i32 c] w fun e w' => e = .returned (.int .i64 (-1)) ∧ Below w.heap.size w w') := fun w => indexRune_high c w h h2
  go_enter Tryz.func36, Tryz.ntmps36
  go_wp2_with (go_at_call 66; refine (HC.out _).mono ?_; rintro e w' ⟨rfl, hb⟩)
  go_ret
  exact ⟨rfl, hb⟩
theorem containsRune_low (c : Nat) (w : World) (h : c < 128) :
    Calls Tryz.prog 36 #[.string ⟨#[120, 121]⟩, .int .i32 c] w fun e w' => e = .returned (.bool (c == 120 || c == 121)) ∧ w = w' := by
  refine (Tryz.strings_ContainsRune_ascii ⟨#[120, 121]⟩ c w (by omega) (by omega)).mono fun e w' hh => ⟨hh.1.trans ?_, hh.2.symm⟩
  have hd : ∀ c : Nat, c < 128 → (decide (0 ≤ Lib.indexByte [120, 121] ((c : Int).toNat.toUInt8))) = (c == 120 || c == 121) := by decide
  have := hd c h
  show Ending.returned (.bool (decide (0 ≤ Lib.indexByte [120, 121] ((c : Int).toNat.toUInt8)))) = _
  rw [this]
/-- IsWord: letters of 'xy', at most three -/
def wordP (s : ByteArray) : Bool := decide (s.size ≤ 3) && allOf s.data.toList 120 121
set_option maxRecDepth 100000 in
set_option maxHeartbeats 1000000 in
theorem isWord_any (s : ByteArray) (w : World) (hs : s.size ≤ 1000) :
    Calls Tryz.prog 20 #[.string s, .string ⟨#[120, 121]⟩, .int .i64 3] w fun e w' => e = .returned (.bool (wordP s)) ∧ Below w.heap.size w w' := by
  by_cases h3 : s.size ≤ 3
  · have HW : Hid (wordP s = allOf s.data.toList 120 121) := by show _ = _; simp [wordP, h3]
    go_enter Tryz.func20, Tryz.ntmps20
    go_wp2
    go_loopw [6, 8] (fun _ _ wr => ∃ pos : Nat, pos ≤ s.size ∧ wr = w.iter s pos ∧ allOf (s.data.toList.take pos) 120 121 = true) (fun _ _ wr => s.size - wr.iterPos w.heap.size)
    case atStart => exact ⟨0, Nat.zero_le _, rfl, by simp [allOf]⟩
    case round =>
      obtain ⟨k, hk, rfl, hall⟩ := hrel
      have HALL := Lib.hid hall
      clear hall
      by_cases hlt : k < s.size
      · have HT := Lib.hid (take_snocB s k hlt)
        have HS := Lib.hid (allOf_snoc (s.data.toList.take k) s[k] 120 121)
        by_cases ha : (s[k]'hlt).toNat < 128
        · have hn := fun ty => @run_next_ascii Tryz.prog w s k ty hlt ha
          obtain ⟨c, hc⟩ : ∃ c, s[k].toNat = c := ⟨_, rfl⟩
          rw [hc] at ha
          simp only [hc] at hn
          have HC := Lib.hid hc
          clear hc
          by_cases hx : (c == 120 || c == 121) = true
          · have HR : Hid (∀ w, Calls Tryz.prog 36 #[.string ⟨#[120, 121]⟩, .int .i32 c] w fun e w' => e = .returned (.bool true) ∧ w = w') := fun w => hx ▸ containsRune_low c w ha
            have HN : Hid (allOf (s.data.toList.take (k + 1)) 120 121 = true) := by show _ = _; rw [HT.out, HS.out, HALL.out, HC.out, hx]; rfl
            clear hx ha
            go_wp2_with (go_at_call 36; refine (HR.out _).mono ?_; rintro e w' ⟨rfl, rfl⟩)
            go_roundw
            case rel => exact ⟨k + 1, by omega, rfl, HN.out⟩
            case measure => simp; omega
          · have hx : (c == 120 || c == 121) = false := by simpa using hx
            have HR : Hid (∀ w, Calls Tryz.prog 36 #[.string ⟨#[120, 121]⟩, .int .i32 c] w fun e w' => e = .returned (.bool false) ∧ w = w') := fun w => hx ▸ containsRune_low c w ha
            have HN : Hid (allOf s.data.toList 120 121 = false) := by
              refine allOf_take_false (k := k + 1) ?_
              rw [HT.out, HS.out, HALL.out, HC.out, hx]; rfl
            clear hx ha
            go_wp2_with (go_at_call 36; refine (HR.out _).mono ?_; rintro e w' ⟨rfl, rfl⟩)
            go_ret
            exact ⟨by rw [HW.out, HN.out]; rfl, (Below.refl _ _).alloc (Nat.le_refl _) _⟩
        · have hn := fun ty => @run_next_any Tryz.prog w s k ty hlt
          have hd := decode_high s k hlt (by omega)
          have hd2 := decode_le s k
          have HN : Hid (allOf s.data.toList 120 121 = false) := by
            refine allOf_take_false (k := k + 1) ?_
            rw [HT.out, HS.out, HALL.out]
            have h1 : (s[k].toNat == 120) = false := by rw [beq_eq_false_iff_ne]; omega
            have h2 : (s[k].toNat == 121) = false := by rw [beq_eq_false_iff_ne]; omega
            simp [h1, h2]
          obtain ⟨c, hc⟩ : ∃ c, (Utf8.decode s k).1 = c := ⟨_, rfl⟩
          obtain ⟨d, hd'⟩ : ∃ d, (Utf8.decode s k).2 = d := ⟨_, rfl⟩
          rw [hc] at hd hd2
          simp only [hc, hd'] at hn
          have HR : Hid (∀ w, Calls Tryz.prog 36 #[.string ⟨#[120, 121]⟩, .int .i32 c] w fun e w' => e = .returned (.bool false) ∧ Below w.heap.size w w') := fun w => containsRune_high c w (by omega) (by omega)
          clear hc hd' hd hd2 ha
          go_wp2_with (go_at_call 36; refine (HR.out _).mono ?_; rintro e w' ⟨rfl, hb⟩; have HB := Lib.hid hb; clear hb)
          go_ret
          exact ⟨by rw [HW.out, HN.out]; rfl, ((Below.refl w.heap.size w).alloc (Nat.le_refl _) _).trans (HB.out.mono (by simp [World.iter]))⟩
      · have HN : Hid (allOf s.data.toList 120 121 = true) := by
          have := HALL.out
          rw [List.take_of_length_le (by simp; omega)] at this
          exact this
        have hn := fun ty => @run_next_end Tryz.prog w s k ty hlt
        go_wp2
        go_ret
        exact ⟨by rw [HW.out, HN.out]; rfl, (Below.refl _ _).alloc (Nat.le_refl _) _⟩
  · have HW : Hid (wordP s = false) := by show _ = _; simp [wordP, h3]
    go_enter Tryz.func20, Tryz.ntmps20
    go_wp2
    go_ret
    exact ⟨by rw [HW.out]; rfl, Below.refl _ _⟩
end Go.Proofs.YthglgagkhnfnpaaGreat
