/- Joined texts. -/
import Derived.Test.YtmhmkhdgpfhnfaaGreatDoorChecked
import Derived.Test.YtmhmkhdgpfhnfaaGreatDoorBase
set_option linter.unusedVariables false
set_option linter.unusedSimpArgs false
set_option linter.unnecessarySimpa false
namespace Go.Proofs.YtmhmkhdgpfhnfaaGreatDoor
open Go.RowKit

def digs (n : Nat) : Nat := if h : n < 10 then 1 else 1 + digs (n / 10)
  termination_by n
  decreasing_by omega

theorem digs_lt (n : Nat) (h : n < 10) : digs n = 1 := by rw [digs]; simp [h]
theorem digs_ge (n : Nat) (h : ¬ n < 10) : digs n = 1 + digs (n / 10) := by rw [digs]; simp [h]
theorem digs_le (n : Nat) (k : Nat) (h : n < 10 ^ k) (hk : 0 < k) : digs n ≤ k := by
  induction k generalizing n with
  | zero => omega
  | succ k ih =>
    by_cases h1 : n < 10
    · rw [digs_lt n h1]; omega
    · rw [digs_ge n h1]
      have : 0 < k := by rcases k with _ | k; · simp at h; omega
                         · omega
      have := ih (n / 10) (by rw [Nat.pow_succ] at h; omega) this
      omega

set_option maxHeartbeats 400000 in
theorem limbLength_any (n : Nat) (w : World) (h : n < 1000000000):
    Calls Tryz.prog 134 #[.int .u32 n] w fun e w' => e = .returned (.int .i64 (digs n)) ∧ w = w' := by
  have hd := digs_le n 9 (by simpa using h) (by omega)
  go_enter Tryz.func134, Tryz.ntmps134
  go_wp2
  go_loop [0, 3] (fun a k => ∃ m c : Nat, a = .int .u32 m ∧ k = .int .i64 c ∧ m ≤ n ∧ 1 ≤ c ∧ c + digs m = digs n + 1) (fun a _ => (intOf a).toNat)
  case atStart => exact ⟨n, 1, rfl, rfl, by omega, by omega, by omega⟩
  case round =>
    obtain ⟨m, c, rfl, rfl, hm, hc, hcd⟩ := hrel
    by_cases hlt : m < 10
    · have e := digs_lt m hlt
      have hc' : c = digs n := by omega
      clear hcd
      go_wp2
      go_ret
      exact ⟨rfl, rfl⟩
    · have e := digs_ge m hlt
      have hpos : 0 < digs (m/10) := by unfold digs; split <;> omega
      have hc9 : c ≤ 9 := by omega
      have H := Lib.hid hcd; have E := Lib.hid e
      clear hcd e
      go_wp2
      go_round
      case rel => exact ⟨m / 10, c + 1, by go_num, by go_num, by omega, by omega, by have := H.out; have := E.out; omega⟩
      case measure => simp [intOf]; omega

set_option maxHeartbeats 400000 in
theorem cut_any (b off cap : Nat) (l : List Nat) (w : World) (hl : l.length ≤ cap) (hm : l.length ≤ 1099511627776) (hb : b < w.heap.size)
    (hc : ∀ i, i < l.length → w.cell? ⟨b, off + i, none⟩ = some (.int .u32 (l.getD i 0))) :
    Calls Tryz.prog 121 #[.slice (some ⟨b, off, none⟩) l.length cap] w fun e w' =>
      e = .returned (natV b off (trimL l)) ∧ w = w' := by
  go_enter Tryz.func121, Tryz.ntmps121
  go_wp2
  go_loop [3] (fun s => ∃ k : Nat, k ≤ l.length ∧ s = .int .i64 k ∧ trimL (l.take k) = trimL l) (fun s => (intOf s).toNat)
  case atStart => exact ⟨l.length, by omega, rfl, by simp⟩
  case round =>
    obtain ⟨k, hk, rfl, ht⟩ := hrel
    have HT := Lib.hid ht; clear ht
    by_cases h0 : k = 0
    · subst h0
      have ht := HT.out
      have hn : trimL l = [] := by rw [← ht]; simp [trimL_nil]
      have HN := Lib.hid hn
      clear ht hn
      go_wp2
      go_ret
      exact ⟨by rw [natV_nil _ _ HN.out]; rfl, rfl⟩
    · have hpos : 0 < k := by omega
      have hk1 : k - 1 < l.length := by omega
      have hcell := hc (k - 1) hk1
      have hs := trimL_take l (k - 1) hk1
      have hk2 : k - 1 + 1 = k := by omega
      rw [hk2] at hs
      clear hc hk2
      obtain ⟨d, hd⟩ : ∃ d, l.getD (k - 1) 0 = d := ⟨_, rfl⟩
      rw [hd] at hcell hs
      have HS := Lib.hid hs
      clear hs hd
      have hi : IntKind.i64.wrap ((k : Int) - 1) = (k : Int) - 1 := IntWalk.i64_in _ (by omega)
      have hi0 : (0 : Int) ≤ (k : Int) - 1 := by omega
      have hi1 : ((k : Int) - 1).toNat = k - 1 := by omega
      have hkb : ((k : Int) == 0) = false := by simp; omega
      by_cases hz : d = 0
      · subst hz
        have hz' : trimL (l.take (k - 1)) = trimL l := by rw [← HT.out, HS.out, if_pos rfl]
        have HZ := Lib.hid hz'; clear hz'
        go_wp2
        go_round
        case rel => exact ⟨k - 1, by omega, by go_num, HZ.out⟩
        case measure => simp [intOf]; omega
      · have hz' : trimL l = l.take k := by rw [← HT.out, HS.out, if_neg hz]
        have hlen : (l.take k).length = k := by simp; omega
        have hne : l.take k ≠ [] := by intro h; rw [h] at hlen; simp at hlen; omega
        have HZ : Hid (natV b off (trimL l) = .slice (some ⟨b, off, none⟩) k k) := by rw [hz']; show natV _ _ _ = _; rw [natV_pos _ _ hne, hlen]
        clear hz' hne hlen
        have hz2 : ((d : Int) == 0) = false := by simp; omega
        clear hz
        go_wp2
        go_ret
        exact ⟨by rw [HZ.out]; rfl, rfl⟩

end Go.Proofs.YtmhmkhdgpfhnfaaGreatDoor
namespace Go.Proofs.YtmhmkhdgpfhnfaaGreatDoor
open Go.RowKit

theorem Tryz.info153 : (Tryz.prog.info? 153).map (fun i => (i.zero, i.size, i.bytes)) = some (some (.int .u32 0), 1, 4) := by kernel_rfl

theorem mul_step (P V m c d o : Nat) (h : o + P * c = V * m) :
    (o + P * ((d * m + c) % 1000000000)) + P * 1000000000 * ((d * m + c) / 1000000000) = (V + P * d) * m := by
  have e : (d * m + c) % 1000000000 + 1000000000 * ((d * m + c) / 1000000000) = d * m + c := Nat.mod_add_div _ _
  grind

def ScRel (l : List Nat) (m : Nat) (w wr : World) (k y : Nat) : Prop :=
  ∃ O, O.length = k ∧ Lo O ∧ y < 1000000000 ∧ val O + 1000000000 ^ k * y = val (l.take k) * m ∧ Row 153 wr w.heap.size (nums .u32 (O ++ List.replicate (l.length + 1 - k) 0)) ∧ Below w.heap.size w wr
theorem set_snoc (O : List Nat) (k n z v : Nat) (hO : O.length = k) (hk : k < n) : (O ++ List.replicate (n - k) z).set k v = (O ++ [v]) ++ List.replicate (n - (k + 1)) z := by
  subst hO
  rw [List.set_append_right (h := Nat.le_refl _)]
  obtain ⟨j, hj⟩ : ∃ j, n - O.length = j + 1 := ⟨n - O.length - 1, by omega⟩
  have hj' : n - (O.length + 1) = j := by omega
  rw [hj, hj', List.replicate_succ]
  simp
theorem get_snoc (O : List Nat) (k n z : Nat) (hO : O.length = k) (hk : k < n) : (O ++ List.replicate (n - k) z).getD k 0 = z := by
  subst hO
  have : O.length < n := hk
  rw [List.getD_eq_getElem?_getD, List.getElem?_append_right (Nat.le_refl _), Nat.sub_self, List.getElem?_replicate, if_pos (by omega)]
  rfl
theorem Lo.snoc {O : List Nat} (h : Lo O) {d : Nat} (hd : d < 1000000000) : Lo (O ++ [d]) := h.append (fun x hx => by simp at hx; omega)
theorem val_snoc (O : List Nat) (d : Nat) : val (O ++ [d]) = val O + 1000000000 ^ O.length * d := by rw [val_append]; simp [val]
theorem val_take_succ (l : List Nat) (k : Nat) (h : k < l.length) : val (l.take (k + 1)) = val (l.take k) + 1000000000 ^ k * l.getD k 0 := by
  rw [take_snoc' l k h, val_snoc, List.length_take, Nat.min_eq_left (by omega)]
theorem ScRel.step {l : List Nat} {m : Nat} {w wr : World} {k y d : Nat} {O : List Nat} (hk : k < l.length) (hd : l.getD k 0 = d) (hO : O.length = k) (hOlo : Lo O)
    (hv : val O + 1000000000 ^ k * y = val (l.take k) * m) (hdm : d * m + y < 1000000000000000000) (hrow : Row 153 wr w.heap.size (nums .u32 (O ++ List.replicate (l.length + 1 - k) 0))) (hb : Below w.heap.size w wr) :
    ScRel l m w (wr.setCell ⟨w.heap.size, k, none⟩ (.int .u32 (((d : Int) * m + y) % 1000000000))) (k + 1) ((d * m + y) / 1000000000) := by
  have he : (((d : Int) * m + y) % 1000000000) = (((d * m + y) % 1000000000 : Nat) : Int) := by rw [Int.natCast_emod, Int.natCast_add, Int.natCast_mul]; rfl
  rw [he]
  refine ⟨O ++ [(d * m + y) % 1000000000], by simp [hO], hOlo.snoc (by omega), by omega, ?_, ?_, hb.setCell (Nat.le_refl _) _⟩
  · rw [val_snoc, val_take_succ l k hk, hd, hO, Nat.pow_succ]
    exact mul_step _ _ _ _ _ _ hv
  · have := hrow.store k (.int .u32 ((d * m + y) % 1000000000 : Nat))
    rw [nums_set, set_snoc O k _ 0 _ hO (by omega)] at this
    exact this
set_option maxRecDepth 100000 in
set_option maxHeartbeats 400000 in
theorem scaled_any (x : Value) (l : List Nat) (m : Nat) (w : World) (hx : Rd .u32 w x l) (hlo : Lo l) (hm : m < 1000000000) (hl : l.length ≤ 1073741824) :
    Calls Tryz.prog 158 #[x, .int .u32 m] w fun e w' => ∃ out, out.length = l.length + 1 ∧ Lo out ∧ val out = val l * m ∧
      e = .returned (.slice (some ⟨w.heap.size, 0, none⟩) (l.length + 1) (l.length + 1)) ∧ Row 153 w' w.heap.size (nums .u32 out) ∧ Below w.heap.size w w' := by
  obtain ⟨p, cap, rfl, hlc, hcm, hn, hp⟩ := hx
  go_enter Tryz.func158, Tryz.ntmps158
  go_wp2_with (first | (at_make; refine wpList_make_row _ rfl _ _ 23 rfl 153 (.int .u32 0) 4 Tryz.underlying23 Tryz.info153 rfl .i64 .i64 _ _ (l.length + 1) rfl rfl ?c1 ?c2 ?c3 ?c4 ?_))
  case c1 => simp
  case c2 => simp
  case c3 => omega
  case c4 => unfold maxLen; omega
  intro w1 hrow hbel
  have HR : Hid (Row 153 w1 w.heap.size (nums .u32 (List.replicate (l.length + 1) 0))) := by rw [← nums_replicate]; exact hrow
  have HB := Lib.hid hbel
  have HP := Lib.hid hp
  clear hrow hbel hp
  go_wp2
  go_loopw [6, 16] (fun c i wr => ∃ k y : Nat, k ≤ l.length ∧ c = .int .u64 y ∧ i = .int .i64 k ∧ ScRel l m w wr k y) (fun _ i _ => l.length - (intOf i).toNat)
  case atStart => exact ⟨0, 0, Nat.zero_le _, rfl, rfl, [], rfl, (by intro d hd; simp at hd), by omega, by simp [val], HR.out, HB.out⟩
  case round =>
    obtain ⟨k, y, hk, rfl, rfl, hrel⟩ := hrel
    obtain ⟨O, hO, hOlo, hy, hval, hrow, hbel⟩ := hrel
    have HV := Lib.hid hval
    clear hval HR HB
    by_cases hlt : k < l.length
    · obtain ⟨b, off, rfl, hbs, hc⟩ := HP.out (by omega)
      have hcell : wr.cell? ⟨b, off + k, none⟩ = some (.int .u32 (l.getD k 0 : Nat)) := by rw [hbel.cell (p := ⟨b, off + k, none⟩) hbs]; exact hc k hlt
      have hd := hlo.getD k
      obtain ⟨d, hdd⟩ : ∃ d, l.getD k 0 = d := ⟨_, rfl⟩
      rw [hdd] at hcell hd
      have HD := Lib.hid hdd
      have hfr := hrow.free k
      have hcs : wr.cell? ⟨w.heap.size, k, none⟩ = some (.int .u32 (0 : Nat)) := by
        rw [hrow.cell, nums_get _ _ _ (by simp; omega), get_snoc O k _ 0 hO (by omega)]
      have hdm : (d : Int) * m + y < 1000000000000000000 := by
        have : d * m ≤ 999999999 * 999999999 := Nat.mul_le_mul (by omega) (by omega)
        omega
      have hdm0 : 0 ≤ (d : Int) * m := Int.mul_nonneg (by omega) (by omega)
      have HRow := Lib.hid hrow
      have HBel := Lib.hid hbel
      have HO := Lib.hid hO
      clear hc hdd hrow hbel HP hO
      go_wp2
      go_roundw
      case rel => exact ⟨k + 1, (d * m + y) / 1000000000, by omega, by go_num, by go_num, ScRel.step hlt HD.out HO.out hOlo HV.out (by omega) HRow.out HBel.out⟩
      case measure => simp [intOf]; omega
    · obtain rfl : k = l.length := by omega
      have hfr := hrow.free l.length
      have hcs : wr.cell? ⟨w.heap.size, l.length, none⟩ = some (.int .u32 (0 : Nat)) := by
        rw [hrow.cell, nums_get _ _ _ (by simp; omega), get_snoc O _ _ 0 hO (by omega)]
      have HRow := Lib.hid hrow
      have HBel := Lib.hid hbel
      have HO := Lib.hid hO
      clear hrow hbel HP hO
      go_wp2
      go_ret
      refine ⟨O ++ [y], by simp [HO.out], hOlo.snoc hy, ?_, rfl, ?_, HBel.out.setCell (Nat.le_refl _) _⟩
      · rw [val_snoc, HO.out, HV.out, List.take_length]
      · have := HRow.out.store l.length (.int .u32 (y : Nat))
        rw [nums_set, set_snoc O _ _ 0 _ HO.out (by omega)] at this
        simpa using this
end Go.Proofs.YtmhmkhdgpfhnfaaGreatDoor
namespace Go.Proofs.YtmhmkhdgpfhnfaaGreatDoor
open Go.RowKit

theorem cut_row (g n cap : Nat) (l : List Nat) (more : List Value) (w : World) (hn : l.length = n) (hl : n ≤ cap) (hm : n ≤ 1099511627776) (hrow : Row 153 w g (nums .u32 l ++ more)) :
    Calls Tryz.prog 121 #[.slice (some ⟨g, 0, none⟩) n cap] w fun e w' => e = .returned (natV g 0 (trimL l)) ∧ w = w' := by
  subst hn
  refine cut_any g 0 cap l w hl hm hrow.lt fun i hi => ?_
  rw [hrow.cell, Nat.zero_add, List.getElem?_append_left (by rw [nums_length]; exact hi), nums_get _ l i hi]

theorem div_step (O d t m V r : Nat) (hm : 0 < m) (hv : V = m * O + r) (ht : t = r * 1000000000 + d) : d + 1000000000 * V = m * (t / m + 1000000000 * O) + t % m := by
  have e := Nat.div_add_mod t m
  grind
theorem div_lt (t r d m : Nat) (hm : 0 < m) (hr : r < m) (hd : d < 1000000000) (ht : t = r * 1000000000 + d) : t / m < 1000000000 := by
  rw [Nat.div_lt_iff_lt_mul hm]
  have : (r + 1) * 1000000000 ≤ m * 1000000000 := Nat.mul_le_mul_right _ hr
  rw [Nat.mul_comm]; omega
theorem val_drop (l : List Nat) (k : Nat) (h : k < l.length) : val (l.drop k) = l.getD k 0 + 1000000000 * val (l.drop (k + 1)) := by
  rw [List.drop_eq_getElem_cons h]
  simp only [val]; rw [List.getD_eq_getElem?_getD, List.getElem?_eq_getElem h]; rfl
theorem set_front (O : List Nat) (k z v : Nat) (hk : 0 < k) : (List.replicate k z ++ O).set (k - 1) v = List.replicate (k - 1) z ++ (v :: O) := by
  obtain ⟨j, rfl⟩ : ∃ j, k = j + 1 := ⟨k - 1, by omega⟩
  rw [List.replicate_succ', List.set_append_left (h := by simp), List.set_append_right (h := by simp)]
  simp
theorem get_front (O : List Nat) (k z : Nat) (hk : 0 < k) : (List.replicate k z ++ O).getD (k - 1) 0 = z := by
  rw [List.getD_eq_getElem?_getD, List.getElem?_append_left (by simp; omega), List.getElem?_replicate, if_pos (by omega)]
  rfl
theorem cast_rem (r d m : Nat) : ((r : Int) * 1000000000 + d) % m = (((r * 1000000000 + d) % m : Nat) : Int) := by rw [Int.natCast_emod, Int.natCast_add, Int.natCast_mul]; rfl
theorem cast_quo (r d m : Nat) : ((r : Int) * 1000000000 + d) / m = (((r * 1000000000 + d) / m : Nat) : Int) := by rw [Int.natCast_ediv, Int.natCast_add, Int.natCast_mul]; rfl
def DlRel (l : List Nat) (m : Nat) (w wr : World) (k r : Nat) : Prop :=
  ∃ O, O.length + k = l.length ∧ Lo O ∧ r < m ∧ val (l.drop k) = m * val O + r ∧ Row 153 wr w.heap.size (nums .u32 (List.replicate k 0 ++ O)) ∧ Below w.heap.size w wr
theorem DlRel.step {l : List Nat} {m : Nat} {w wr : World} {k r d : Nat} {O : List Nat} (hk : 0 < k) (hm : 0 < m) (hd : l.getD (k - 1) 0 = d) (hdl : d < 1000000000) (hO : O.length + k = l.length) (hOlo : Lo O) (hr : r < m)
    (hv : val (l.drop k) = m * val O + r) (hrow : Row 153 wr w.heap.size (nums .u32 (List.replicate k 0 ++ O))) (hb : Below w.heap.size w wr)
    {q r' : Nat} (hq : (r * 1000000000 + d) / m = q) (hr' : (r * 1000000000 + d) % m = r') : DlRel l m w (wr.setCell ⟨w.heap.size, k - 1, none⟩ (.int .u32 q)) (k - 1) r' := by
  subst hq; subst hr'
  refine ⟨(r * 1000000000 + d) / m :: O, by simp; omega, ?_, Nat.mod_lt _ hm, ?_, ?_, hb.setCell (Nat.le_refl _) _⟩
  · intro x hx
    rcases List.mem_cons.1 hx with rfl | hx
    · exact div_lt _ r d m hm hr hdl rfl
    · exact hOlo x hx
  · have e := val_drop l (k - 1) (by omega)
    rw [show k - 1 + 1 = k from by omega, hd, hv] at e
    rw [e]; simp only [val]
    exact div_step _ _ _ _ _ _ hm rfl rfl
  · have := hrow.store (k - 1) (.int .u32 ((r * 1000000000 + d) / m : Nat))
    rw [nums_set, set_front O k 0 _ hk] at this
    exact this

set_option maxRecDepth 100000 in
set_option maxHeartbeats 400000 in
theorem divideByLimb_any (x : Value) (l : List Nat) (m : Nat) (w : World) (hx : Rd .u32 w x l) (hlo : Lo l) (hm : m < 1000000000) (hm0 : 0 < m) (hl : l.length ≤ 1073741824) :
    Calls Tryz.prog 157 #[x, .int .u32 m] w fun e w' => ∃ v, e = .returned (.tuple #[v, .int .u32 (val l % m : Nat)]) ∧ Own 153 .u32 w.heap.size w' v (limbs (val l / m)) ∧ Below w.heap.size w w' := by
  obtain ⟨p, cap, rfl, hlc, hcm, hn, hp⟩ := hx
  go_enter Tryz.func157, Tryz.ntmps157
  go_wp2_with (first | (at_make; refine wpList_make_row _ rfl _ _ 23 rfl 153 (.int .u32 0) 4 Tryz.underlying23 Tryz.info153 rfl .i64 .i64 _ _ (l.length) rfl rfl ?c1 ?c2 ?c3 ?c4 ?_))
  case c1 => rfl
  case c2 => rfl
  case c3 => omega
  case c4 => unfold maxLen; omega
  intro w1 hrow hbel
  have HR : Hid (Row 153 w1 w.heap.size (nums .u32 (List.replicate l.length 0 ++ []))) := by rw [List.append_nil, ← nums_replicate]; exact hrow
  have HB := Lib.hid hbel
  have HP := Lib.hid hp
  clear hrow hbel hp
  go_wp2
  go_loopw [7, 8] (fun c i wr => ∃ k r : Nat, k ≤ l.length ∧ c = .int .u64 r ∧ i = .int .i64 ((k : Int) - 1) ∧ DlRel l m w wr k r) (fun _ i _ => (intOf i + 1).toNat)
  case atStart => exact ⟨l.length, 0, Nat.le_refl _, rfl, rfl, [], by simp, (by intro d hd; simp at hd), hm0, by simp [val], HR.out, HB.out⟩
  case round =>
    obtain ⟨k, r, hk, rfl, rfl, hrel⟩ := hrel
    obtain ⟨O, hO, hOlo, hr, hval, hrow, hbel⟩ := hrel
    have HV := Lib.hid hval
    clear hval HR HB
    by_cases hlt : 0 < k
    · obtain ⟨b, off, rfl, hbs, hc⟩ := HP.out (by omega)
      have hcell : wr.cell? ⟨b, off + (k - 1), none⟩ = some (.int .u32 (l.getD (k - 1) 0 : Nat)) := by rw [hbel.cell (p := ⟨b, off + (k - 1), none⟩) hbs]; exact hc (k - 1) (by omega)
      have hd := hlo.getD (k - 1)
      obtain ⟨d, hdd⟩ : ∃ d, l.getD (k - 1) 0 = d := ⟨_, rfl⟩
      rw [hdd] at hcell hd
      have HD := Lib.hid hdd
      have hfr := hrow.free (k - 1)
      have hcs : wr.cell? ⟨w.heap.size, k - 1, none⟩ = some (.int .u32 (0 : Nat)) := by
        rw [hrow.cell, nums_get _ _ _ (by simp; omega), get_front O k 0 hlt]
      have hi1 : ((k : Int) - 1).toNat = k - 1 := by omega
      have hi0 : 0 ≤ (k : Int) - 1 := by omega
      obtain ⟨q, hq⟩ : ∃ q, (r * 1000000000 + d) / m = q := ⟨_, rfl⟩
      obtain ⟨r', hr'⟩ : ∃ r', (r * 1000000000 + d) % m = r' := ⟨_, rfl⟩
      have hqb : q < 1000000000 := by rw [← hq]; exact div_lt _ r d m hm0 hr hd rfl
      have hrb : r' < m := by rw [← hr']; exact Nat.mod_lt _ hm0
      have hqe : ((r : Int) * 1000000000 + d) / m = q := by rw [cast_quo, hq]
      have hre : ((r : Int) * 1000000000 + d) % m = r' := by rw [cast_rem, hr']
      have HQ := Lib.hid hq
      have HR' := Lib.hid hr'
      have hm1 : ((m : Int) == 0) = false := by simp; omega
      have HRow := Lib.hid hrow
      have HBel := Lib.hid hbel
      have HO := Lib.hid hO
      clear hc hdd hrow hbel HP hO hq hr'
      go_wp2
      go_roundw
      case rel => exact ⟨k - 1, r', by omega, congrArg (Value.int .u64) ((cast_rem r d m).trans (by rw [HR'.out])), congrArg (Value.int .i64) (by omega), DlRel.step hlt hm0 HD.out hd HO.out hOlo hr HV.out HRow.out HBel.out HQ.out HR'.out⟩
      case measure => simp [intOf]; omega
    · obtain rfl : k = 0 := by omega
      have HRow := Lib.hid hrow
      have HBel := Lib.hid hbel
      have HO := Lib.hid hO
      clear hrow hbel HP hO
      go_wp2_with fail
      refine (cut_row w.heap.size l.length l.length O [] wr (by have := HO.out; omega) (Nat.le_refl _) (by omega) (by have := HRow.out; simpa using this)).mono ?_
      rintro e w' ⟨rfl, rfl⟩
      have hr9 : r < 1000000000 := by omega
      go_wp2
      go_ret2
      have hv := HV.out
      simp only [List.drop_zero] at hv
      have h1 : val l % m = r := by rw [hv, Nat.mul_add_mod, Nat.mod_eq_of_lt hr]
      have h2 : val l / m = val O := by rw [hv, Nat.mul_add_div hm0, Nat.div_eq_of_lt hr, Nat.add_zero]
      rw [h1, h2, ← trimL_eq O hOlo]
      exact ⟨_, rfl, Own.cut (more := []) (by have := HRow.out; simpa using this) (Nat.le_refl _) (by have := HO.out; omega), HBel.out⟩
end Go.Proofs.YtmhmkhdgpfhnfaaGreatDoor
namespace Go.Proofs.YtmhmkhdgpfhnfaaGreatDoor
open Go.RowKit

/-- the difference, limb by limb -/
def DiRel (lx ly : List Nat) (w wr : World) (k y : Nat) : Prop :=
  ∃ O, O.length = k ∧ Lo O ∧ y < 2 ∧ val O + val (ly.take k) = val (lx.take k) + 1000000000 ^ k * y ∧ Row 153 wr w.heap.size (nums .u32 (O ++ List.replicate (lx.length - k) 0)) ∧ Below w.heap.size w wr
theorem take_ge (l : List Nat) (k : Nat) (h : l.length ≤ k) : val (l.take (k + 1)) = val (l.take k) := by rw [List.take_of_length_le h, List.take_of_length_le (by omega)]
theorem DiRel.step {lx ly : List Nat} {w wr : World} {k y d e : Nat} {O : List Nat} (hk : k < lx.length) (hd : lx.getD k 0 = d) (he : k < ly.length → ly.getD k 0 = e) (he' : ¬ k < ly.length → e = 0) (hO : O.length = k) (hOlo : Lo O)
    (hv : val O + val (ly.take k) = val (lx.take k) + 1000000000 ^ k * y) (hrow : Row 153 wr w.heap.size (nums .u32 (O ++ List.replicate (lx.length - k) 0))) (hb : Below w.heap.size w wr)
    (v : Nat) {y' : Nat} {V : Int} (hV : V = (v : Int)) (hy' : y' < 2) (hvb : v < 1000000000) (hve : v + y + e = d + 1000000000 * y') :
    DiRel lx ly w (wr.setCell ⟨w.heap.size, k, none⟩ (.int .u32 V)) (k + 1) y' := by
  subst hV
  refine ⟨O ++ [v], by simp [hO], hOlo.snoc hvb, hy', ?_, ?_, hb.setCell (Nat.le_refl _) _⟩
  · have hly : val (ly.take (k + 1)) = val (ly.take k) + 1000000000 ^ k * e := by
      by_cases h : k < ly.length
      · rw [val_take_succ ly k h, he h]
      · rw [take_ge ly k (by omega), he' h]; omega
    rw [val_snoc, val_take_succ lx k hk, hd, hO, hly, Nat.pow_succ]
    generalize 1000000000 ^ k = P at *
    grind
  · have := hrow.store k (.int .u32 (v : Nat))
    rw [nums_set, set_snoc O k _ 0 _ hO hk] at this
    exact this

end Go.Proofs.YtmhmkhdgpfhnfaaGreatDoor
