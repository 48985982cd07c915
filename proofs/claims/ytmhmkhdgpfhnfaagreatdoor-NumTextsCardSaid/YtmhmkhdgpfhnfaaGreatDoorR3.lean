/- The reference's naturals: trim, times. -/
import Derived.Test.YtmhmkhdgpfhnfaaGreatDoorRW
import Derived.Test.YtmhmkhdgpfhnfaaGreatDoorBase
import Derived.Test.YtmhmkhdgpfhnfaaGreatDoorProg
import Derived.Deep.LoopGhost
set_option linter.unusedVariables false
set_option linter.unusedSimpArgs false
set_option linter.unnecessarySimpa false
/- The reference's naturals: trim, times. -/
namespace Go.Proofs.YtmhmkhdgpfhnfaaGreatDoor.Ref
open Go.RowKit

/-- limbs as integers -/
def nl (l : List Nat) : List Int := l.map fun (n : Nat) => (n : Int)
theorem nl_length (l : List Nat) : (nl l).length = l.length := by simp [nl]
theorem nl_getD (l : List Nat) (i : Nat) : (nl l).getD i 0 = ((l.getD i 0 : Nat) : Int) := by
  unfold nl
  rw [List.getD_eq_getElem?_getD, List.getElem?_map, List.getD_eq_getElem?_getD]
  cases l[i]? <;> rfl
theorem nl_append (l m : List Nat) : nl (l ++ m) = nl l ++ nl m := by simp [nl]
theorem nl_take (l : List Nat) (k : Nat) : nl (l.take k) = (nl l).take k := by simp [nl]
/-- a slice that reads as these limbs -/
abbrev LbA (w : World) (v : Value) (l : List Nat) : Prop := SlA w v (ints (nl l))
theorem LbA.form_ {w : World} {v : Value} {l : List Nat} (h : LbA w v l) : ∃ p cap, v = .slice p l.length cap ∧ l.length ≤ cap ∧ cap ≤ 9223372036854775807 := by
  obtain ⟨p, cap, h1, h2, h3⟩ := SlA.form h
  rw [nl_length] at h1 h2
  exact ⟨p, cap, h1, h2, h3⟩
theorem LbA.at_ {w : World} {v : Value} {l : List Nat} (h : LbA w v l) (i : Nat) (hi : i < l.length) :
    ∃ ad cap, v = .slice (some ad) l.length cap ∧ l.length ≤ cap ∧ cap ≤ maxLen ∧ ad.block < w.heap.size ∧ w.cell? (ad.add i) = some (.int .i64 (l.getD i 0 : Nat)) := by
  obtain ⟨ad, cap, h1, h2, h3, h4, h5⟩ := SlA.int_at h i (by rw [nl_length]; exact hi)
  rw [nl_length] at h1 h2
  rw [nl_getD] at h5
  exact ⟨ad, cap, h1, h2, h3, h4, h5⟩
/-- what a call leaves that makes limbs -/
def OutN (w : World) (l : List Nat) (e : Ending) (w' : World) : Prop := ∃ v, e = .returned v ∧ LbA w' v l ∧ Below w.heap.size w w'
/-- a slice that lies in block B or later -/
def Fr (B : Nat) (v : Value) : Prop := ∀ ad n c, v = .slice (some ad) n c → B ≤ ad.block
theorem Fr.len {B : Nat} {p : Option Addr} {n c : Nat} (h : Fr B (.slice p n c)) (k : Nat) : Fr B (.slice p k c) := fun ad n' c' e => by
  injection e with e1 e2 e3
  subst e1
  exact h ad n c rfl
theorem Fr.own {T B : Nat} {w : World} {v : Value} {xs : List Value} (h : Own T B w v xs) : Fr B v := fun ad n c e => by
  rcases h.form_ with ⟨rfl, _⟩ | ⟨g, cap, more, rfl, hb, _⟩
  · cases e
  · injection e with e1
    injection e1 with e1
    subst e1
    exact hb
theorem Fr.base {B B' : Nat} {v : Value} (h : Fr B v) (hb : B' ≤ B) : Fr B' v := fun ad n c e => Nat.le_trans hb (h ad n c e)
theorem LbA.store {w : World} {v : Value} {l : List Nat} {g i : Nat} (h : LbA w v l) (hf : Fr (g + 1) v) (u : Value) : LbA (w.setCell ⟨g, i, none⟩ u) v l := by
  obtain ⟨p, cap, hv, hl, hm, hn, hp⟩ := h
  refine ⟨p, cap, hv, hl, hm, hn, fun h0 => ?_⟩
  obtain ⟨ad, hp, hbs, hc⟩ := hp h0
  subst hp
  have hb := hf ad _ _ hv
  have hbw : Below 0 w (w.setCell ⟨g, i, none⟩ u) := (Below.refl 0 w).setCell (Nat.zero_le _) u
  refine ⟨ad, rfl, Nat.lt_of_lt_of_le hbs hbw.size, fun i' hi => ?_⟩
  rw [World.cell?_of_block (w := w) (Below.heap_setCell _ _ _ _ (by rw [block_add]; show ad.block ≠ g; omega))]
  exact hc i' hi
set_option maxHeartbeats 1000000 in
theorem trim_fr (v : Value) (l : List Nat) (w : World) (h : LbA w v l) (hl : l.length ≤ 1000000) :
    Calls Tryz.prog 131 #[v] w fun e w' => ∃ v', e = .returned v' ∧ w' = w ∧ LbA w v' (trimL l) ∧ (∀ B, Fr B v → Fr B v') := by
  obtain ⟨p, cap, rfl, hc1, hc2⟩ := h.form_
  have H := Lib.hid h
  have HT : Hid (∀ k, k ≤ l.length → LbA w (.slice p k cap) (l.take k)) := fun k hk => by
    have h2 : SlA w (.slice p k cap) ((ints (nl l)).take k) := SlA.take H.out k hk
    rw [ints_take, ← nl_take] at h2
    exact h2
  clear h
  go_enter Tryz.func131, Tryz.ntmps131
  go_wp2
  go_loopg [0] l.length (fun k u wr => wr = w ∧ u = .slice p k cap ∧ k ≤ l.length ∧ trimL (l.take k) = trimL l)
  case atStart => exact ⟨rfl, rfl, Nat.le_refl _, by rw [List.take_length]⟩
  case round =>
    obtain ⟨hwr, rfl, hk, ht⟩ := hrel
    subst hwr
    have HTT := Lib.hid ht
    clear ht
    by_cases h0 : gk = 0
    · subst h0
      have HF := HT.out 0 (Nat.zero_le _)
      have ht := HTT.out
      have e0 : trimL l = [] := by rw [← ht]; rfl
      have HFF := Lib.hid HF
      have HE := Lib.hid e0
      clear HF ht e0
      go_wp2
      go_ret
      exact ⟨_, rfl, rfl, by rw [HE.out]; exact HFF.out, fun B h => h.len 0⟩
    · obtain ⟨k, rfl⟩ : ∃ k, gk = k + 1 := ⟨gk - 1, by omega⟩
      obtain ⟨ad, cap', hv, hl1, hl2, had, hcell⟩ := (HT.out (k + 1) hk).at_ k (by rw [List.length_take]; omega)
      injection hv with e1 e2 e3
      subst e1
      subst e3
      have hget : (l.take (k + 1)).getD k 0 = l.getD k 0 := by
        rw [List.getD_eq_getElem?_getD, List.getElem?_take, if_pos (by omega), ← List.getD_eq_getElem?_getD]
      rw [hget] at hcell
      have hs := trimL_take l k (by omega)
      have htl := HTT.out
      obtain ⟨d, hd⟩ : ∃ d, l.getD k 0 = d := ⟨_, rfl⟩
      rw [hd] at hcell hs
      have gk0 : (0 : Int) < (k : Int) + 1 := by omega
      clear hl1 hl2 hget hd e2
      by_cases hd0 : d = 0
      · subst hd0
        rw [if_pos rfl] at hs
        have HNX : Hid (trimL (l.take k) = trimL l) := hs.symm.trans htl
        clear hs htl
        go_wp2
        go_roundg k
        case measure => omega
        case rel => exact ⟨rfl, by first | rfl | go_num, by omega, HNX.out⟩
      · rw [if_neg hd0] at hs
        have HF := Lib.hid (HT.out (k + 1) hk)
        have HE : Hid (trimL l = l.take (k + 1)) := htl.symm.trans hs
        have gd : ¬ ((d : Int) = 0) := by omega
        clear hs htl
        go_wp2
        go_ret
        exact ⟨_, rfl, rfl, by rw [HE.out]; exact HF.out, fun B h => h.len (k + 1)⟩
theorem trim_go (v : Value) (l : List Nat) (w : World) (h : LbA w v l) (hl : l.length ≤ 1000000) :
    Calls Tryz.prog 131 #[v] w fun e w' => ∃ v', e = .returned v' ∧ w' = w ∧ LbA w v' (trimL l) :=
  (trim_fr v l w h hl).mono fun e w' ⟨v', h1, h2, h3, _⟩ => ⟨v', h1, h2, h3⟩
end Go.Proofs.YtmhmkhdgpfhnfaaGreatDoor.Ref
/- The reference's naturals: times. -/
namespace Go.Proofs.YtmhmkhdgpfhnfaaGreatDoor.Ref
open Go.RowKit

theorem infoI : (Tryz.prog.info? 3).map (fun i => (i.zero, i.size, i.bytes)) = some (some (.int .i64 0), 1, 8) := by kernel_rfl
theorem undN : Tryz.prog.underlying 32 = some (.slice 3) := by kernel_rfl
theorem tmodN (s k : Nat) : (s : Int).tmod (k : Int) = ((s % k : Nat) : Int) := by rw [Int.tmod_eq_emod_of_nonneg (by omega), Int.natCast_emod]
theorem tdivN (s k : Nat) : (s : Int).tdiv (k : Int) = ((s / k : Nat) : Int) := by rw [Int.tdiv_eq_ediv_of_nonneg (by omega), Int.natCast_ediv]
theorem val_snocN (O : List Nat) (d : Nat) : val (O ++ [d]) = val O + 1000000000 ^ O.length * d := by rw [val_append]; simp [val]
theorem take_succN (l : List Nat) (k : Nat) (h : k < l.length) : val (l.take (k + 1)) = val (l.take k) + 1000000000 ^ k * l.getD k 0 := by
  rw [take_snoc' l k h, val_snocN, List.length_take, Nat.min_eq_left (by omega)]
theorem LoS {O : List Nat} (h : Lo O) {d : Nat} (hd : d < 1000000000) : Lo (O ++ [d]) := h.append (fun x hx => by simp at hx; omega)
theorem mul_stepN (P V m c d o : Nat) (h : o + P * c = V * m) :
    (o + P * ((c + d * m) % 1000000000)) + P * 1000000000 * ((c + d * m) / 1000000000) = (V + P * d) * m := by
  have e : (c + d * m) % 1000000000 + 1000000000 * ((c + d * m) / 1000000000) = c + d * m := Nat.mod_add_div _ _
  grind
theorem car_stepN (P c o V : Nat) (h : o + P * c = V) : (o + P * (c % 1000000000)) + P * 1000000000 * (c / 1000000000) = V := by
  have e : c % 1000000000 + 1000000000 * (c / 1000000000) = c := Nat.mod_add_div _ _
  grind
/-- where the loop of times stands -/
structure TmI (l : List Nat) (m B : Nat) (w : World) (i c : Nat) (O : List Nat) (ov : Value) (wr : World) : Prop where
  own : Own 3 B wr ov (ints (nl O))
  len : O.length = i
  lo : Lo O
  val : val O + 1000000000 ^ i * c = val (l.take i) * m
  c9 : c ≤ 1000000000
  far : i ≤ l.length ∨ (i = l.length + 1 ∧ c ≤ 1) ∨ (i = l.length + 2 ∧ c = 0)
  bel : Below B w wr
theorem TmI.next {l : List Nat} {m B i c : Nat} {w wr w' : World} {O : List Nat} {ov ov' : Value} (h : TmI l m B w i c O ov wr) (hlo : Lo l) (hm : m ≤ 1000000000) (s : Nat) (hs : (i < l.length ∧ s = c + l.getD i 0 * m) ∨ (l.length ≤ i ∧ 0 < c ∧ s = c))
    (ho : Own 3 B w' ov' (ints (nl O) ++ [.int .i64 ((s % 1000000000 : Nat) : Int)])) (hb : Below B w w') : TmI l m B w (i + 1) (s / 1000000000) (O ++ [s % 1000000000]) ov' w' := by
  refine ⟨?_, by simp [h.len], LoS h.lo (Nat.mod_lt _ (by omega)), ?_, ?_, ?_, hb⟩
  · rw [nl_append, ints_append]; exact ho
  · rw [val_snocN, h.len, Nat.pow_succ]
    rcases hs with ⟨h1, rfl⟩ | ⟨h1, _, rfl⟩
    · rw [take_succN l i h1]; exact mul_stepN _ _ _ _ _ _ h.val
    · rw [List.take_of_length_le (by omega : l.length ≤ i + 1)]
      have h2 := h.val
      rw [List.take_of_length_le h1] at h2
      exact car_stepN _ _ _ _ h2
  · have hc := h.c9
    rcases hs with ⟨h1, rfl⟩ | ⟨h1, _, rfl⟩
    · have hd := hlo.getD i
      have : l.getD i 0 * m ≤ 999999999 * 1000000000 := Nat.mul_le_mul (by omega) hm
      omega
    · omega
  · have hc := h.c9
    rcases hs with ⟨h1, rfl⟩ | ⟨h1, h2, rfl⟩
    · exact .inl (by omega)
    · rcases h.far with h3 | ⟨h3, h4⟩ | ⟨h3, h4⟩
      · exact .inr (.inl ⟨by omega, by omega⟩)
      · exact .inr (.inr ⟨by omega, by omega⟩)
      · omega
set_option maxRecDepth 100000 in
set_option maxHeartbeats 2000000 in
theorem times_go (v : Value) (l : List Nat) (m : Nat) (w : World) (h : LbA w v l) (hlo : Lo l) (hm : m ≤ 1000000000) (hl : l.length ≤ 900000) :
    Calls Tryz.prog 177 #[v, .int .i64 (m : Nat)] w (OutN w (limbs (val l * m))) := by
  obtain ⟨p, cap, rfl, hc1, hc2⟩ := h.form_
  have H := Lib.hid h
  have HLO := Lib.hid hlo
  obtain ⟨B, hB⟩ : ∃ B, w.heap.size = B := ⟨_, rfl⟩
  have HB := Lib.hid hB
  clear h hlo
  go_enter Tryz.func177, Tryz.ntmps177
  go_wp2
  obtain ⟨K9, hK9⟩ : ∃ K : Nat, K = 2000000000 := ⟨_, rfl⟩
  have HK9 := Lib.hid hK9
  clear hK9
  go_loopg [5, 6, 7] (l.length * K9) (fun k ov cv iv wr => ∃ (i c : Nat) (O : List Nat), iv = .int .i64 (i : Nat) ∧ cv = .int .i64 (c : Nat) ∧ k = (l.length - i) * K9 + c ∧ TmI l m B w i c O ov wr)
  case atStart => exact ⟨0, 0, [], rfl, rfl, by simp, ⟨World.ownsRow_nil _ _ _ _, rfl, (fun d hd => by cases hd), by simp [val], by omega, .inl (Nat.zero_le _), by rw [← HB.out]; exact Below.refl _ _⟩⟩
  case round =>
    obtain ⟨i, c, O, rfl, rfl, hk, hI⟩ := hrel
    have HI := Lib.hid hI
    have HBS := Lib.hid (show B ≤ wr.heap.size by have := hI.bel.size; omega)
    have hc9 := hI.c9
    have hi2 : i ≤ l.length + 2 := by rcases hI.far with h | h | h <;> omega
    have HOL := Lib.hid (show (ints (nl O)).length ≤ 1000000 by rw [ints_length, nl_length, hI.len]; omega)
    have gwi : IntKind.i64.wrap ((i : Int) + 1) = (i : Int) + 1 := by rw [show (i : Int) + 1 = ((i + 1 : Nat) : Int) by omega]; exact IntWalk.i64_in _ (by omega)
    have HK := Lib.hid hk
    clear hI hk
    by_cases hlt : i < l.length
    · obtain ⟨ad, cap', hv, hl1, hl2, had, hcell⟩ := H.out.at_ i hlt
      injection hv with e1 e2 e3
      subst e1
      subst e3
      have hcw : wr.cell? (ad.add i) = some (.int .i64 (l.getD i 0 : Nat)) := (HI.out.bel.cell (p := ad.add i) (by rw [block_add, ← HB.out]; exact had)).trans hcell
      have hd9 := HLO.out.getD i
      obtain ⟨d, hd⟩ : ∃ d, l.getD i 0 = d := ⟨_, rfl⟩
      rw [hd] at hcw hd9
      have hdm : d * m ≤ 999999999 * 1000000000 := Nat.mul_le_mul (by omega) hm
      obtain ⟨dm, hdme⟩ : ∃ dm, d * m = dm := ⟨_, rfl⟩
      rw [hdme] at hdm
      have gdm : (d : Int) * (m : Int) = (dm : Int) := by rw [← hdme, Int.natCast_mul]
      obtain ⟨s, hs⟩ : ∃ s, c + dm = s := ⟨_, rfl⟩
      have gs : (c : Int) + (dm : Int) = (s : Int) := by omega
      have HS : Hid (i < l.length ∧ s = c + l.getD i 0 * m) := ⟨hlt, by rw [hd, hdme, hs]⟩
      have gil : (i : Int) < (l.length : Int) := by omega
      have grem : (s : Int).tmod 1000000000 = ((s % 1000000000 : Nat) : Int) := tmodN s 1000000000
      have gquo : (s : Int).tdiv 1000000000 = ((s / 1000000000 : Nat) : Int) := tdivN s 1000000000
      obtain ⟨r, hr⟩ : ∃ r, s % 1000000000 = r := ⟨_, rfl⟩
      obtain ⟨q, hq⟩ : ∃ q, s / 1000000000 = q := ⟨_, rfl⟩
      rw [hr] at grem
      rw [hq] at gquo
      have hr9 : r < 1000000000 := by omega
      have hq9 : q ≤ 1000000000 := by omega
      have HRQ := Lib.hid (And.intro hr hq)
      clear hr hq hcell hd hdme hs hl1 hl2 e2 hlt
      go_wp2_with (first | (at_builtin; refine wpList_append_box wr rfl (.tmp 30) (.tmp 33) 32 rfl 3 (.int .i64 0) 8 undN infoI rfl (by omega) B u5 (ints (nl O)) rfl HI.out.own (.int .i64 (r : Int)) rfl rfl HOL.out HBS.out ?_; intro v2 w2 hown2 hb2 hrest; have HO2 := Lib.hid hown2; have HB2 := Lib.hid hb2; clear hown2 hb2 hrest))
      go_roundg ((l.length - (i + 1)) * K9 + q)
      case measure =>
        have h1 := HK.out
        have h2 := HRQ.out
        have hk9 := HK9.out
        have h6 : l.length - i = (l.length - (i + 1)) + 1 := by have := HS.out; omega
        rw [h6, Nat.add_mul] at h1
        generalize (l.length - (i + 1)) * K9 = X at *
        omega
      case rel =>
        have hn := HI.out.next HLO.out hm s (.inl HS.out) (ov' := v2) (w' := w2) (by rw [HRQ.out.1]; exact HO2.out) (HI.out.bel.trans HB2.out)
        rw [HRQ.out.1, HRQ.out.2] at hn
        exact ⟨i + 1, q, O ++ [r], by go_num, by go_num, rfl, hn⟩
    · by_cases hc0 : 0 < c
      · have gil : ¬ ((i : Int) < (l.length : Int)) := by omega
        have gc0 : (0 : Int) < (c : Int) := by omega
        obtain ⟨s, hs⟩ : ∃ s : Nat, s = c := ⟨_, rfl⟩
        subst hs
        have HS : Hid (l.length ≤ i ∧ 0 < s) := ⟨by omega, hc0⟩
        have grem : (s : Int).tmod 1000000000 = ((s % 1000000000 : Nat) : Int) := tmodN s 1000000000
        have gquo : (s : Int).tdiv 1000000000 = ((s / 1000000000 : Nat) : Int) := tdivN s 1000000000
        obtain ⟨r, hr⟩ : ∃ r, s % 1000000000 = r := ⟨_, rfl⟩
        obtain ⟨q, hq⟩ : ∃ q, s / 1000000000 = q := ⟨_, rfl⟩
        rw [hr] at grem
        rw [hq] at gquo
        have hr9 : r < 1000000000 := by omega
        have hq9 : q ≤ 1000000000 := by omega
        have HRQ := Lib.hid (And.intro hr hq)
        clear hr hq hlt hc0
        go_wp2_with (first | (at_builtin; refine wpList_append_box wr rfl (.tmp 30) (.tmp 33) 32 rfl 3 (.int .i64 0) 8 undN infoI rfl (by omega) B u5 (ints (nl O)) rfl HI.out.own (.int .i64 (r : Int)) rfl rfl HOL.out HBS.out ?_; intro v2 w2 hown2 hb2 hrest; have HO2 := Lib.hid hown2; have HB2 := Lib.hid hb2; clear hown2 hb2 hrest))
        go_roundg ((l.length - (i + 1)) * K9 + q)
        case measure =>
          have h1 := HK.out
          have h2 := HRQ.out
          have hk9 := HK9.out
          have h6 : l.length - i = 0 := by have := HS.out; omega
          have h7 : l.length - (i + 1) = 0 := by have := HS.out; omega
          have h8 := HS.out
          rw [h6, Nat.zero_mul] at h1
          rw [h7, Nat.zero_mul]
          omega
        case rel =>
          have hn := HI.out.next HLO.out hm s (.inr ⟨HS.out.1, HS.out.2, rfl⟩) (ov' := v2) (w' := w2) (by rw [HRQ.out.1]; exact HO2.out) (HI.out.bel.trans HB2.out)
          rw [HRQ.out.1, HRQ.out.2] at hn
          exact ⟨i + 1, q, O ++ [r], by go_num, by go_num, rfl, hn⟩
      · obtain rfl : c = 0 := by omega
        have gil : ¬ ((i : Int) < (l.length : Int)) := by omega
        have hO := HI.out.val
        rw [Nat.mul_zero, Nat.add_zero, List.take_of_length_le (by omega : l.length ≤ i)] at hO
        have hT := trim_go _ O wr HI.out.own.sl.toA (by rw [HI.out.len]; omega)
        rw [trimL_eq O HI.out.lo, hO] at hT
        have HT := Lib.hid hT
        obtain ⟨po, co, ho, _, _⟩ := LbA.form_ (HI.out.own.sl.toA)
        subst ho
        have HBEL := Lib.hid HI.out.bel
        clear hO hT hlt hc0
        go_wp2_with fail
        refine HT.out.mono ?_
        rintro e w2 ⟨v2, rfl, hw2, hv2⟩
        subst hw2
        have HV := Lib.hid hv2
        clear hv2
        go_wp2
        go_ret
        exact ⟨_, rfl, HV.out, by rw [HB.out]; exact HBEL.out⟩
end Go.Proofs.YtmhmkhdgpfhnfaaGreatDoor.Ref
/- The reference's naturals: comparison and difference. -/
namespace Go.Proofs.YtmhmkhdgpfhnfaaGreatDoor.Ref
open Go.RowKit

theorem take_any (l : List Nat) (k : Nat) : val (l.take (k + 1)) = val (l.take k) + 1000000000 ^ k * l.getD k 0 := by
  by_cases h : k < l.length
  · exact take_succN l k h
  · rw [List.take_of_length_le (by omega), List.take_of_length_le (by omega), List.getD_eq_getElem?_getD, List.getElem?_eq_none (by omega)]; simp
theorem getD_lo {l : List Nat} (h : Lo l) (k : Nat) : l.getD k 0 < 1000000000 := h.getD k
theorem drop_cons (l : List Nat) (i : Nat) (h : i < l.length) : l.drop i = l.getD i 0 :: l.drop (i + 1) := by
  rw [List.drop_eq_getElem_cons h, List.getD_eq_getElem?_getD, List.getElem?_eq_getElem h]; rfl
theorem val_split (l : List Nat) (i : Nat) (h : i < l.length) : val l = val (l.take i) + 1000000000 ^ i * (l.getD i 0 + 1000000000 * val (l.drop (i + 1))) := by
  have h1 : val l = val (l.take i ++ l.drop i) := by rw [List.take_append_drop]
  rw [h1, val_append, List.length_take, Nat.min_eq_left (by omega), drop_cons l i h]
  rfl
theorem cmp_top {la lb : List Nat} {i : Nat} (hl : la.length = lb.length) (hi : i < la.length) (hd : la.drop (i + 1) = lb.drop (i + 1)) (hlo : Lo la) (hx : la.getD i 0 < lb.getD i 0) : val la < val lb := by
  rw [val_split la i hi, val_split lb i (by omega), hd]
  have h1 := val_lt (la.take i) (hlo.take i)
  rw [List.length_take, Nat.min_eq_left (by omega)] at h1
  generalize 1000000000 ^ i = P at *
  generalize la.getD i 0 = x at *
  generalize lb.getD i 0 = y at *
  generalize val (lb.drop (i + 1)) = D at *
  have h2 : P * (x + 1000000000 * D) + P ≤ P * (y + 1000000000 * D) := by
    have : P * (x + 1000000000 * D) + P = P * (x + 1000000000 * D + 1) := (Nat.mul_succ P _).symm
    rw [this]; exact Nat.mul_le_mul_left _ (by omega)
  omega
theorem len_lt {a b : Nat} (h : (limbs a).length < (limbs b).length) : a < b := by
  have hb : b ≠ 0 := fun e => by rw [e, limbs_zero] at h; simp at h
  have h1 := limbs_lower b hb
  have h2 := val_lt (limbs a) (Lo_limbs a)
  rw [val_limbs] at h2
  have h3 : 1000000000 ^ (limbs a).length ≤ 1000000000 ^ ((limbs b).length - 1) := Nat.pow_le_pow_right (by omega) (by omega)
  omega
/-- -1, 0 or 1 -/
def cmpI (a b : Nat) : Int := if a < b then -1 else if b < a then 1 else 0
set_option maxRecDepth 100000 in
set_option maxHeartbeats 2000000 in
theorem cmp_go (va vb : Value) (a b : Nat) (w : World) (ha : LbA w va (limbs a)) (hb : LbA w vb (limbs b)) (hl : (limbs a).length ≤ 900000) :
    Calls Tryz.prog 142 #[va, vb] w fun e w' => e = .returned (.int .i64 (cmpI a b)) ∧ Below w.heap.size w w' := by
  obtain ⟨pa, ca, rfl, hca1, hca2⟩ := ha.form_
  obtain ⟨pb, cb, rfl, hcb1, hcb2⟩ := hb.form_
  have HA := Lib.hid ha
  have HB := Lib.hid hb
  obtain ⟨la, hla⟩ : ∃ la, limbs a = la := ⟨_, rfl⟩
  obtain ⟨lb, hlb⟩ : ∃ lb, limbs b = lb := ⟨_, rfl⟩
  have HLT1 := Lib.hid (@len_lt a b)
  have HLT2 := Lib.hid (@len_lt b a)
  have HVA : Hid (val la = a ∧ Lo la) := by rw [← hla]; exact ⟨val_limbs a, Lo_limbs a⟩
  have HVB : Hid (val lb = b ∧ Lo lb) := by rw [← hlb]; exact ⟨val_limbs b, Lo_limbs b⟩
  rw [hla] at HA HLT1 HLT2 hl hca1
  rw [hlb] at HB HLT1 HLT2 hcb1
  rw [hla, hlb]
  clear ha hb hla hlb
  obtain ⟨na, hna⟩ : ∃ na, la.length = na := ⟨_, rfl⟩
  obtain ⟨nb, hnb⟩ : ∃ nb, lb.length = nb := ⟨_, rfl⟩
  have HNA := Lib.hid hna
  have HNB := Lib.hid hnb
  rw [hna] at HLT1 HLT2 hl hca1 ⊢
  rw [hnb] at HLT1 HLT2 hcb1 ⊢
  clear hna hnb
  go_enter Tryz.func142, Tryz.ntmps142
  by_cases h1 : na < nb
  · have hlt := HLT1.out h1
    have g1 : (na : Int) < (nb : Int) := by omega
    have g2 : ¬ ((na : Int) = (nb : Int)) := by omega
    have HE : Hid (cmpI a b = -1) := by show _ = _; unfold cmpI; rw [if_pos hlt]
    clear h1 hlt
    go_wp2
    go_ret
    exact ⟨by rw [HE.out]; rfl, Below.refl _ _⟩
  · by_cases h2 : nb < na
    · have hlt := HLT2.out h2
      have g1 : ¬ ((na : Int) < (nb : Int)) := by omega
      have g2 : ¬ ((na : Int) = (nb : Int)) := by omega
      have HE : Hid (cmpI a b = 1) := by show _ = _; unfold cmpI; rw [if_neg (by omega), if_pos hlt]
      clear h1 h2 hlt
      go_wp2
      go_ret
      exact ⟨by rw [HE.out]; rfl, Below.refl _ _⟩
    · obtain rfl : nb = na := by omega
      clear h1 h2
      have gw : IntKind.i64.wrap ((nb : Int) - 1) = (nb : Int) - 1 := IntWalk.i64_in _ (by omega)
      go_wp2
      go_loopg [5] nb (fun k iv wr => k ≤ nb ∧ iv = .int .i64 ((k : Int) - 1) ∧ la.drop k = lb.drop k ∧ Below w.heap.size w wr)
      case atStart => exact ⟨Nat.le_refl _, rfl, by rw [List.drop_of_length_le (by rw [HNA.out]; exact Nat.le_refl _), List.drop_of_length_le (by rw [HNB.out]; exact Nat.le_refl _)], Below.refl _ _⟩
      case round =>
        obtain ⟨hk, rfl, hd, hbel⟩ := hrel
        have HD := Lib.hid hd
        have HBEL := Lib.hid hbel
        clear hd hbel
        by_cases h0 : gk = 0
        · subst h0
          have HE : Hid (cmpI a b = 0) := by
            show _ = _
            have := HD.out
            rw [List.drop_zero, List.drop_zero] at this
            have hab : a = b := by rw [← HVA.out.1, ← HVB.out.1, this]
            unfold cmpI
            rw [if_neg (by omega), if_neg (by omega)]
          go_wp2
          go_ret
          exact ⟨by rw [HE.out]; rfl, HBEL.out⟩
        · obtain ⟨k, rfl⟩ : ∃ k, gk = k + 1 := ⟨gk - 1, by omega⟩
          obtain ⟨ada, ca', hva, _, _, hada, hca⟩ := HA.out.at_ k (by rw [HNA.out]; omega)
          obtain ⟨adb, cb', hvb, _, _, hadb, hcb⟩ := HB.out.at_ k (by rw [HNB.out]; omega)
          rw [HNA.out] at hva
          rw [HNB.out] at hvb
          injection hva with e1 _ e3
          injection hvb with e4 _ e6
          subst e1 e3 e4 e6
          have kca : wr.cell? (ada.add k) = some (.int .i64 (la.getD k 0 : Nat)) := (HBEL.out.cell (p := ada.add k) (by rw [block_add]; exact hada)).trans hca
          have kcb : wr.cell? (adb.add k) = some (.int .i64 (lb.getD k 0 : Nat)) := (HBEL.out.cell (p := adb.add k) (by rw [block_add]; exact hadb)).trans hcb
          have HC1 : Hid (la.getD k 0 < lb.getD k 0 → a < b) := fun h => by
            rw [← HVA.out.1, ← HVB.out.1]
            exact cmp_top (by rw [HNA.out, HNB.out]) (by rw [HNA.out]; omega) HD.out HVA.out.2 h
          have HC2 : Hid (lb.getD k 0 < la.getD k 0 → b < a) := fun h => by
            rw [← HVA.out.1, ← HVB.out.1]
            exact cmp_top (by rw [HNA.out, HNB.out]) (by rw [HNB.out]; omega) HD.out.symm HVB.out.2 h
          have HC3 : Hid (la.getD k 0 = lb.getD k 0 → la.drop k = lb.drop k) := fun h => by
            rw [drop_cons la k (by rw [HNA.out]; omega), drop_cons lb k (by rw [HNB.out]; omega), h, HD.out]
          obtain ⟨x, hx⟩ : ∃ x, la.getD k 0 = x := ⟨_, rfl⟩
          obtain ⟨y, hy⟩ : ∃ y, lb.getD k 0 = y := ⟨_, rfl⟩
          rw [hx] at kca HC1 HC2 HC3
          rw [hy] at kcb HC1 HC2 HC3
          have ge : ((k + 1 : Nat) : Int) - 1 = (k : Int) := by omega
          rw [ge]
          have gk0 : (0 : Int) ≤ (k : Int) := by omega
          have gkn : (k : Int) < (nb : Int) := by omega
          have gw2 : IntKind.i64.wrap ((k : Int) - 1) = (k : Int) - 1 := IntWalk.i64_in _ (by omega)
          clear hx hy hca hcb hada hadb ge
          by_cases hxy : x < y
          · have gxy : (x : Int) < (y : Int) := by omega
            have HE : Hid (cmpI a b = -1) := by show _ = _; unfold cmpI; rw [if_pos (HC1.out hxy)]
            clear hxy
            go_wp2
            go_region
            generalize hW : World.drew _ = W2
            have HB2 : Hid (Below w.heap.size w W2) := by show Below _ _ _; rw [← hW]; exact HBEL.out.drew
            clear hW
            go_wp2
            go_ret
            exact ⟨by rw [HE.out]; rfl, HB2.out⟩
          · have gxy : ¬ ((x : Int) < (y : Int)) := by omega
            go_wp2
            go_region
            generalize hW : World.drew _ = W2
            have HB2 : Hid (Below w.heap.size w W2) := by show Below _ _ _; rw [← hW]; exact HBEL.out.drew
            have kca2 : W2.cell? (ada.add k) = some (.int .i64 (x : Nat)) := by rw [← hW]; exact kca
            have kcb2 : W2.cell? (adb.add k) = some (.int .i64 (y : Nat)) := by rw [← hW]; exact kcb
            clear hW kca kcb
            by_cases hyx : y < x
            · have gyx : (y : Int) < (x : Int) := by omega
              have HE : Hid (cmpI a b = 1) := by show _ = _; unfold cmpI; rw [if_neg (by have := HC2.out hyx; omega), if_pos (HC2.out hyx)]
              clear hxy hyx
              go_wp2
              go_region
              generalize hW : World.drew _ = W3
              have HB3 : Hid (Below w.heap.size w W3) := by show Below _ _ _; rw [← hW]; exact HB2.out.drew
              clear hW
              go_wp2
              go_ret
              exact ⟨by rw [HE.out]; rfl, HB3.out⟩
            · have gyx : ¬ ((y : Int) < (x : Int)) := by omega
              have HDN := Lib.hid (HC3.out (by omega))
              clear hxy hyx
              go_wp2
              go_region
              generalize hW : World.drew _ = W3
              have HB3 : Hid (Below w.heap.size w W3) := by show Below _ _ _; rw [← hW]; exact HB2.out.drew
              clear hW
              go_wp2
              go_roundg k
              case measure => omega
              case rel => exact ⟨by omega, rfl, HDN.out, HB3.out⟩
end Go.Proofs.YtmhmkhdgpfhnfaaGreatDoor.Ref
