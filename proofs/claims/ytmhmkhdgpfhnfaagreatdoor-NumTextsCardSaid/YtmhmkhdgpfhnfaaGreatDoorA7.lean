/- Joined texts. -/
import Derived.Test.YtmhmkhdgpfhnfaaGreatDoorA4
set_option linter.unusedVariables false
set_option linter.unusedSimpArgs false
set_option linter.unnecessarySimpa false
namespace Go.Proofs.YtmhmkhdgpfhnfaaGreatDoor
open Go.RowKit

/-- the sum, limb by limb -/
def SuRel (lx ly : List Nat) (w wr : World) (k y : Nat) : Prop :=
  ∃ O, O.length = k ∧ Lo O ∧ y < 2 ∧ val O + 1000000000 ^ k * y = val (lx.take k) + val (ly.take k) ∧ Row 153 wr w.heap.size (nums .u32 (O ++ List.replicate (lx.length + 1 - k) 0)) ∧ Below w.heap.size w wr
theorem SuRel.step {lx ly : List Nat} {w wr : World} {k y d e : Nat} {O : List Nat} (hk : k < lx.length) (hd : lx.getD k 0 = d) (he : k < ly.length → ly.getD k 0 = e) (he' : ¬ k < ly.length → e = 0) (hO : O.length = k) (hOlo : Lo O)
    (hv : val O + 1000000000 ^ k * y = val (lx.take k) + val (ly.take k)) (hrow : Row 153 wr w.heap.size (nums .u32 (O ++ List.replicate (lx.length + 1 - k) 0))) (hb : Below w.heap.size w wr)
    (v : Nat) {y' : Nat} {V : Int} (hV : V = (v : Int)) (hy' : y' < 2) (hvb : v < 1000000000) (hve : v + 1000000000 * y' = d + e + y) :
    SuRel lx ly w (wr.setCell ⟨w.heap.size, k, none⟩ (.int .u32 V)) (k + 1) y' := by
  subst hV
  refine ⟨O ++ [v], by simp [hO], hOlo.snoc hvb, hy', ?_, ?_, hb.setCell (Nat.le_refl _) _⟩
  · have hly : val (ly.take (k + 1)) = val (ly.take k) + 1000000000 ^ k * e := by
      by_cases h : k < ly.length
      · rw [val_take_succ ly k h, he h]
      · rw [take_ge ly k (by omega), he' h]; omega
    rw [val_snoc, val_take_succ lx k hk, hd, hO, hly, Nat.pow_succ]
    generalize 1000000000 ^ k = P at *
    grind
  · have := hrow.store k (.int .u32 (v : Nat))
    rw [nums_set, set_snoc O k _ 0 _ hO (by omega)] at this
    exact this

end Go.Proofs.YtmhmkhdgpfhnfaaGreatDoor
namespace Go.Proofs.YtmhmkhdgpfhnfaaGreatDoor
open Go.RowKit

/-- -1, 0 or 1 -/
def cmpN (a b : Nat) : Int := if a < b then -1 else if a = b then 0 else 1
theorem cmpN_lt {a b : Nat} (h : a < b) : cmpN a b = -1 := by unfold cmpN; rw [if_pos h]
theorem cmpN_eq {a b : Nat} (h : a = b) : cmpN a b = 0 := by unfold cmpN; rw [if_neg (by omega), if_pos h]
theorem cmpN_gt {a b : Nat} (h : b < a) : cmpN a b = 1 := by unfold cmpN; rw [if_neg (by omega), if_neg (by omega)]

set_option maxHeartbeats 400000 in
theorem cmp32_any (a b : Nat) (w : World) (ha : a < 1000000000) (hb : b < 1000000000) :
    Calls Tryz.prog 154 #[.int .u32 a, .int .u32 b] w fun e w' => e = .returned (.int .i64 (cmpN a b)) ∧ w' = w := by
  rcases Nat.lt_trichotomy a b with h | h | h
  · have HC := Lib.hid (cmpN_lt h)
    go_enter Tryz.func154, Tryz.ntmps154
    go_wp2
    go_ret
    exact ⟨by rw [HC.out]; rfl, rfl⟩
  · subst h
    have HC := Lib.hid (cmpN_eq (rfl : a = a))
    go_enter Tryz.func154, Tryz.ntmps154
    go_wp2
    go_ret
    exact ⟨by rw [HC.out]; rfl, rfl⟩
  · have HC := Lib.hid (cmpN_gt h)
    go_enter Tryz.func154, Tryz.ntmps154
    go_wp2
    go_ret
    exact ⟨by rw [HC.out]; rfl, rfl⟩
set_option maxHeartbeats 400000 in
theorem cmp64_any (a b : Nat) (w : World) (ha : a < 1000000000000) (hb : b < 1000000000000) :
    Calls Tryz.prog 153 #[.int .i64 a, .int .i64 b] w fun e w' => e = .returned (.int .i64 (cmpN a b)) ∧ w' = w := by
  rcases Nat.lt_trichotomy a b with h | h | h
  · have HC := Lib.hid (cmpN_lt h)
    go_enter Tryz.func153, Tryz.ntmps153
    go_wp2
    go_ret
    exact ⟨by rw [HC.out]; rfl, rfl⟩
  · subst h
    have HC := Lib.hid (cmpN_eq (rfl : a = a))
    go_enter Tryz.func153, Tryz.ntmps153
    go_wp2
    go_ret
    exact ⟨by rw [HC.out]; rfl, rfl⟩
  · have HC := Lib.hid (cmpN_gt h)
    go_enter Tryz.func153, Tryz.ntmps153
    go_wp2
    go_ret
    exact ⟨by rw [HC.out]; rfl, rfl⟩

/-- is it 1? -/
def oneB (n : Nat) : Bool := n == 1
theorem limbs_one : limbs 1 = [1] := by rw [limbs_pos 1 (by omega), show 1 / 1000000000 = 0 from rfl, limbs_zero]
set_option maxHeartbeats 400000 in
theorem isOne_any (x : Value) (n : Nat) (w : World) (hx : Rd .u32 w x (limbs n)) (hl : (limbs n).length ≤ 1073741824) :
    Calls Tryz.prog 65 #[x] w fun e w' => e = .returned (.bool (oneB n)) ∧ w = w' := by
  obtain ⟨p, cap, rfl, hlc, hcm, hn, hp⟩ := hx
  have hone : (limbs n = [1]) ↔ n = 1 := ⟨fun h => by have := val_limbs n; rw [h] at this; simpa [val] using this.symm, fun h => by rw [h]; exact limbs_one⟩
  by_cases h1 : (limbs n).length = 1
  · obtain ⟨b, off, rfl, hbs, hc⟩ := hp (by omega)
    have hcell := hc 0 (by omega)
    obtain ⟨d, hd⟩ : ∃ d, limbs n = [d] := List.length_eq_one_iff.1 h1
    rw [hd] at hcell
    have hc0 : w.cell? ⟨b, off, none⟩ = some (.int .u32 (d : Nat)) := hcell
    have hdb := Lo_limbs n d (by rw [hd]; exact List.mem_singleton.2 rfl)
    have HD : Hid (oneB n = decide (d = 1)) := by
      show _ = _
      unfold oneB
      rw [hd] at hone
      by_cases h : d = 1
      · subst h; simp [hone.1 rfl]
      · have : ¬ n = 1 := fun hn => h (by have := hone.2 hn; simpa using this)
        simp [h, this]
    have hll : (((limbs n).length : Int) == 1) = true := by rw [h1]; rfl
    have hlp : 0 < (limbs n).length := by omega
    clear hp hc hcell hone hn hlc hd h1
    by_cases h : d = 1
    · subst h
      go_enter Tryz.func65, Tryz.ntmps65
      go_wp2
      go_ret
      exact ⟨by rw [HD.out]; rfl, rfl⟩
    · have hdd : ((d : Int) == 1) = false := by simp; omega
      have HDD : Hid (decide (d = 1) = false) := by show _ = _; simpa using h
      clear h
      go_enter Tryz.func65, Tryz.ntmps65
      go_wp2
      go_ret
      exact ⟨by rw [HD.out, HDD.out]; rfl, rfl⟩
  · have hll : (((limbs n).length : Int) == 1) = false := by simp; omega
    have HD : Hid (oneB n = false) := by
      show _ = _
      unfold oneB
      have : ¬ n = 1 := fun hn => h1 (by rw [hone.2 hn]; rfl)
      simpa using this
    clear hp hone hn hlc h1
    go_enter Tryz.func65, Tryz.ntmps65
    go_wp2
    go_ret
    exact ⟨by rw [HD.out]; rfl, rfl⟩

theorem digs_add9 (n : Nat) (h : 1000000000 ≤ n) : digs n = 9 + digs (n / 1000000000) := by
  have e : ∀ m, 10 ≤ m → digs m = 1 + digs (m / 10) := fun m hm => digs_ge m (by omega)
  rw [e n (by omega), e (n / 10) (by omega), e (n / 10 / 10) (by omega), e (n / 10 / 10 / 10) (by omega), e (n / 10 / 10 / 10 / 10) (by omega), e (n / 10 / 10 / 10 / 10 / 10) (by omega),
    e (n / 10 / 10 / 10 / 10 / 10 / 10) (by omega), e (n / 10 / 10 / 10 / 10 / 10 / 10 / 10) (by omega), e (n / 10 / 10 / 10 / 10 / 10 / 10 / 10 / 10) (by omega)]
  have : n / 10 / 10 / 10 / 10 / 10 / 10 / 10 / 10 / 10 = n / 1000000000 := by omega
  rw [this]; omega
/-- the digits of a number, by its limbs -/
theorem digs_limbs (n : Nat) (h : n ≠ 0) : digs n = 9 * ((limbs n).length - 1) + digs ((limbs n).getD ((limbs n).length - 1) 0) := by
  induction n using Nat.strongRecOn with
  | _ n ih =>
    by_cases h1 : n / 1000000000 = 0
    · rw [limbs_pos n h, h1, limbs_zero]; simp; rw [Nat.mod_eq_of_lt (by omega)]
    · have := ih (n / 1000000000) (by omega) h1
      rw [digs_add9 n (by omega), this]
      have hp : 0 < (limbs (n / 1000000000)).length := by rw [limbs_pos _ h1]; simp
      rw [limbs_pos n h]
      simp only [List.length_cons, Nat.add_sub_cancel]
      obtain ⟨j, hj⟩ : ∃ j, (limbs (n / 1000000000)).length = j + 1 := ⟨(limbs (n / 1000000000)).length - 1, by omega⟩
      rw [hj]; simp only [Nat.add_sub_cancel, List.getD_cons_succ]; omega
theorem digs_zero : digs 0 = 1 := digs_lt 0 (by omega)
theorem digs_pos (n : Nat) : 0 < digs n := by unfold digs; split <;> omega

set_option maxHeartbeats 400000 in
theorem digits_any (x : Value) (n : Nat) (w : World) (hx : Rd .u32 w x (limbs n)) (hl : (limbs n).length ≤ 1073741824) :
    Calls Tryz.prog 130 #[x] w fun e w' => e = .returned (.int .i64 (digs n)) ∧ w = w' := by
  obtain ⟨p, cap, rfl, hlc, hcm, hn, hp⟩ := hx
  by_cases h0 : n = 0
  · subst h0
    have hl0 : (limbs 0).length = 0 := by rw [limbs_zero]; rfl
    have HZ := Lib.hid digs_zero
    rw [hl0]
    clear hp hlc hn hl0 hl
    go_enter Tryz.func130, Tryz.ntmps130
    go_wp2
    go_ret
    exact ⟨by rw [HZ.out]; rfl, rfl⟩
  · have hne : limbs n ≠ [] := fun h => h0 ((limbs_nil_iff n).1 h)
    have hlp : 0 < (limbs n).length := List.length_pos_iff.2 hne
    obtain ⟨b, off, rfl, hbs, hc⟩ := hp hlp
    have hcell := hc ((limbs n).length - 1) (by omega)
    have hdb := (Lo_limbs n).getD ((limbs n).length - 1)
    have HD := Lib.hid (digs_limbs n h0)
    obtain ⟨d, hd⟩ : ∃ d, (limbs n).getD ((limbs n).length - 1) 0 = d := ⟨_, rfl⟩
    rw [hd] at hcell hdb HD
    obtain ⟨k, hk⟩ : ∃ k, (limbs n).length = k := ⟨_, rfl⟩
    rw [hk] at hcell HD hlp hlc hl ⊢
    have hd9 := digs_le d 9 (by omega) (by omega)
    have hi1 : ((k : Int) - 1).toNat = k - 1 := by omega
    have hi0 : 0 ≤ (k : Int) - 1 := by omega
    have hkb : ((k : Int) == 0) = false := by simp; omega
    clear hp hc hd hne hn hk h0
    go_enter Tryz.func130, Tryz.ntmps130
    go_wp2_with fail
    refine (limbLength_any d w hdb).mono ?_
    rintro e w' ⟨rfl, rfl⟩
    go_wp2
    go_ret
    exact ⟨congrArg (fun z => Ending.returned (Value.int .i64 z)) (by have := HD.out; omega), rfl⟩
end Go.Proofs.YtmhmkhdgpfhnfaaGreatDoor
namespace Go.Proofs.YtmhmkhdgpfhnfaaGreatDoor
open Go.RowKit

/-- a callee that leaves the world alone, met in a region that draws -/
theorem quiet_gen {P : Program} {f : FuncId} {args : Array Value} {W : World} {v : Value} {X : Nat → World} (h : Calls P f args W fun e w' => e = .returned v ∧ w' = W) (hw : ∃ m, W = X m) :
    Calls P f args W fun e w'' => e = .returned v ∧ ∃ m, w'' = X m :=
  h.mono fun _ _ ⟨he, hm⟩ => ⟨he, by subst hm; exact hw⟩
theorem len_lt_val {a b : Nat} (h : (limbs a).length < (limbs b).length) : a < b := by
  have hb : b ≠ 0 := by intro h0; rw [h0, limbs_zero] at h; simp at h
  have h1 := val_lt (limbs a) (Lo_limbs a)
  have h2 := limbs_lower b hb
  rw [val_limbs] at h1
  have h3 : 1000000000 ^ (limbs a).length ≤ 1000000000 ^ ((limbs b).length - 1) := Nat.pow_le_pow_right (by omega) (by omega)
  omega
theorem val_split (l : List Nat) (k : Nat) (h : k < l.length) : val l = val (l.take k) + 1000000000 ^ k * (l.getD k 0 + 1000000000 * val (l.drop (k + 1))) := by
  conv => lhs; rw [← List.take_append_drop k l]
  rw [val_append, ← val_drop l k h, List.length_take, Nat.min_eq_left (by omega)]
theorem val_cmp_at {la lb : List Nat} (hla : Lo la) (hlb : Lo lb) (k : Nat) (ha : k < la.length) (hb : k < lb.length) (hd : la.drop (k + 1) = lb.drop (k + 1)) (h : la.getD k 0 < lb.getD k 0) : val la < val lb := by
  rw [val_split la k ha, val_split lb k hb, hd]
  have h1 := val_lt (la.take k) (hla.take k)
  rw [List.length_take, Nat.min_eq_left (by omega)] at h1
  have : 1000000000 ^ k * (la.getD k 0 + 1000000000 * val (lb.drop (k + 1)) + 1) ≤ 1000000000 ^ k * (lb.getD k 0 + 1000000000 * val (lb.drop (k + 1))) := Nat.mul_le_mul_left _ (by omega)
  rw [Nat.mul_add, Nat.mul_one] at this
  omega
theorem drop_pred {la lb : List Nat} {k : Nat} (hk : 0 < k) (ha : k ≤ la.length) (hb : k ≤ lb.length) (hd : la.getD (k - 1) 0 = lb.getD (k - 1) 0) (h : la.drop k = lb.drop k) : la.drop (k - 1) = lb.drop (k - 1) := by
  rw [List.drop_eq_getElem_cons (by omega : k - 1 < la.length), List.drop_eq_getElem_cons (by omega : k - 1 < lb.length), show k - 1 + 1 = k from by omega, h]
  rw [List.getD_eq_getElem?_getD, List.getD_eq_getElem?_getD, List.getElem?_eq_getElem (by omega), List.getElem?_eq_getElem (by omega)] at hd
  simpa using hd
set_option maxRecDepth 100000 in
set_option maxHeartbeats 1000000 in
theorem compare_any (x y : Value) (a b : Nat) (w : World) (hx : Rd .u32 w x (limbs a)) (hy : Rd .u32 w y (limbs b)) (hl : (limbs a).length ≤ 1073741824) (hl' : (limbs b).length ≤ 1073741824) :
    Calls Tryz.prog 122 #[x, y] w fun e w' => e = .returned (.int .i64 (cmpN a b)) ∧ ∃ n, w' = w.drewN n := by
  obtain ⟨p, cap, rfl, hlc, hcm, hn, hp⟩ := hx
  obtain ⟨p', cap', rfl, hlc', hcm', hn', hp'⟩ := hy
  have hloa := Lo_limbs a
  have hlob := Lo_limbs b
  by_cases hlen : (limbs a).length = (limbs b).length
  · have HEQ : Hid (limbs a = limbs b → cmpN a b = 0) := by
      show _ → _
      intro h; apply cmpN_eq; have := congrArg val h; rwa [val_limbs, val_limbs] at this
    have HLT : Hid (∀ k, k < (limbs a).length → (limbs a).drop (k + 1) = (limbs b).drop (k + 1) → (limbs a).getD k 0 < (limbs b).getD k 0 → a < b) := by
      show ∀ k, _
      intro k hk hd h
      have := val_cmp_at hloa hlob k hk (by omega) hd h
      rwa [val_limbs, val_limbs] at this
    have HGT : Hid (∀ k, k < (limbs a).length → (limbs a).drop (k + 1) = (limbs b).drop (k + 1) → (limbs b).getD k 0 < (limbs a).getD k 0 → b < a) := by
      show ∀ k, _
      intro k hk hd h
      have := val_cmp_at hlob hloa k (by omega) hk hd.symm h
      rwa [val_limbs, val_limbs] at this
    generalize hla : limbs a = la at *
    generalize hlb : limbs b = lb at *
    clear hla hlb
    obtain ⟨n, hna⟩ : ∃ n, la.length = n := ⟨_, rfl⟩
    have hnb : lb.length = n := by omega
    rw [hna, hnb]
    rw [hna] at hlc hl hp HLT HGT
    rw [hnb] at hlc' hl' hp'
    have HNA := Lib.hid hna
    have HNB := Lib.hid hnb
    have HP := Lib.hid hp
    have HP' := Lib.hid hp'
    clear hlen hp hp' hn hn' hna hnb
    have hne : ((n : Int) != n) = false := by simp
    go_enter Tryz.func122, Tryz.ntmps122
    go_wp2
    go_loopw [5] (fun i wr => ∃ k q : Nat, k ≤ n ∧ i = .int .i64 ((k : Int) - 1) ∧ la.drop k = lb.drop k ∧ wr = w.drewN q) (fun i _ => (intOf i + 1).toNat)
    case atStart => exact ⟨n, 0, Nat.le_refl _, rfl, by rw [List.drop_of_length_le (by rw [HNA.out]; exact Nat.le_refl _), List.drop_of_length_le (by rw [HNB.out]; exact Nat.le_refl _)], rfl⟩
    case round =>
      obtain ⟨k, q, hk, rfl, hdk, rfl⟩ := hrel
      have HDK := Lib.hid hdk
      clear hdk
      by_cases hlt : 0 < k
      · obtain ⟨b1, off, rfl, hbs, hc⟩ := HP.out (by omega)
        obtain ⟨b2, off', rfl, hbs', hc'⟩ := HP'.out (by omega)
        have hcell := hc (k - 1) (by omega)
        have hcell' := hc' (k - 1) (by omega)
        obtain ⟨d, hd⟩ : ∃ d, la.getD (k - 1) 0 = d := ⟨_, rfl⟩
        obtain ⟨e, he⟩ : ∃ e, lb.getD (k - 1) 0 = e := ⟨_, rfl⟩
        have hdb := hloa.getD (k - 1)
        have heb := hlob.getD (k - 1)
        rw [hd] at hcell hdb
        rw [he] at hcell' heb
        have HD := Lib.hid hd
        have HE := Lib.hid he
        have hi1 : ((k : Int) - 1).toNat = k - 1 := by omega
        have hi0 : 0 ≤ (k : Int) - 1 := by omega
        have hin : (k : Int) - 1 < n := by omega
        clear hc hc' hd he HP HP'
        by_cases hde : d = e
        · subst hde
          have hb : ((d : Int) != d) = false := by simp
          go_wp2
          go_quiet (fail)
          go_wp2
          go_roundw
          case rel => exact ⟨k - 1, q + nq, by omega, congrArg (Value.int .i64) (by omega), drop_pred (by omega) (by have := HNA.out; omega) (by have := HNB.out; omega) (HD.out.trans HE.out.symm) HDK.out, rfl⟩
          case measure => simp [intOf]; omega
        · have hb : ((d : Int) != e) = true := by simp; omega
          have HC : Hid (cmpN d e = cmpN a b) := by
            show _ = _
            have h1 := HLT.out (k - 1) (by omega)
            have h2 := HGT.out (k - 1) (by omega)
            rw [HD.out, HE.out, show k - 1 + 1 = k from by omega] at h1 h2
            rcases Nat.lt_or_ge d e with h | h
            · rw [cmpN_lt h, cmpN_lt (h1 HDK.out h)]
            · rw [cmpN_gt (by omega), cmpN_gt (h2 HDK.out (by omega))]
          go_wp2
          go_quiet (fail)
          go_wp2
          go_quiet ((go_at_call 154; exact quiet_gen (cmp32_any d e _ hdb heb) ⟨_, rfl⟩))
          go_wp2
          go_ret
          exact ⟨by rw [← HC.out]; rfl, _, (by rw [World.drewN_drewN, World.drewN_drewN])⟩
      · obtain rfl : k = 0 := by omega
        have HC := Lib.hid (HEQ.out (by simpa using HDK.out))
        go_wp2
        go_ret
        exact ⟨by rw [HC.out]; rfl, q, rfl⟩
  · have HC : Hid (cmpN (limbs a).length (limbs b).length = cmpN a b) := by
      show _ = _
      rcases Nat.lt_trichotomy (limbs a).length (limbs b).length with h | h | h
      · rw [cmpN_lt h, cmpN_lt (len_lt_val h)]
      · exact absurd h hlen
      · rw [cmpN_gt h, cmpN_gt (len_lt_val h)]
    have hne : (((limbs a).length : Int) != (limbs b).length) = true := by simp; omega
    generalize (limbs a).length = na at *
    generalize (limbs b).length = nb at *
    clear hp hp' hn hn' hlen
    go_enter Tryz.func122, Tryz.ntmps122
    go_wp2_with fail
    refine (cmp64_any na nb w (by omega) (by omega)).mono ?_
    rintro e w' ⟨rfl, rfl⟩
    go_wp2
    go_ret
    exact ⟨by rw [← HC.out]; rfl, 0, rfl⟩
end Go.Proofs.YtmhmkhdgpfhnfaaGreatDoor
