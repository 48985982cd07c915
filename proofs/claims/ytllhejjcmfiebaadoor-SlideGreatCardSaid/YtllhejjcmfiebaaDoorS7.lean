/- The program's newBoard. -/
import Derived.Test.YtllhejjcmfiebaaDoorS6
import Derived.Test.YtllhejjcmfiebaaDoorG4
import Derived.StillTailTactics
set_option linter.unusedVariables false
set_option linter.unusedSimpArgs false
set_option linter.unnecessarySimpa false
namespace Go.Proofs.YtllhejjcmfiebaaDoor
open Go.RowKit Go.Shelf
abbrev Ps := List (Int × Int)
def toE (l : Ps) : Es := l.map fun e => (e.1.toNat, e.2.toNat)
def lexB (a b : Int × Int) : Bool := decide (a.1 < b.1) || (decide (a.1 = b.1) && decide (a.2 < b.2))
def edgeOk (n : Int) (last e : Int × Int) : Bool := decide (0 ≤ e.1) && decide (e.1 < e.2) && decide (e.2 < n) && lexB last e
def prevOf (l : Ps) (k : Nat) : Int × Int := if k = 0 then (0, 0) else l.getD (k - 1) (0, 0)
def okAt (n : Int) (l : Ps) (k : Nat) : Bool := edgeOk n (prevOf l k) (l.getD k (0, 0))
def boardOk (n : Int) (l : Ps) : Bool := (List.range l.length).all (okAt n l)
theorem boardOk_yes {n : Int} {l : Ps} (h : ∀ j, j < l.length → okAt n l j = true) : boardOk n l = true := List.all_eq_true.2 fun j hj => h j (List.mem_range.1 hj)
theorem boardOk_no {n : Int} {l : Ps} {k : Nat} (hk : k < l.length) (h : okAt n l k = false) : boardOk n l = false := by
 cases hb : boardOk n l with
 | false => rfl
 | true => have := List.all_eq_true.1 hb k (List.mem_range.2 hk); rw [h] at this; cases this
def checkB (n : Int) (l : Ps) : Int := if sizeB n then (if boardOk n l && joinedP n.toNat (toE l) (-1) then 0 else 100) else 1
theorem cmp2_lex (a b c d : Int) : (0 ≤ cmp2 a b c d) ↔ lexB (a, b) (c, d) = false := by
 unfold cmp2 cmpI lexB
 simp only [Bool.or_eq_false_iff, Bool.and_eq_false_iff, decide_eq_false_iff_not]
 by_cases h1 : a < c
 ·simp [h1]
 ·by_cases h2 : c < a
  ·have : a ≠ c := by omega
   simp [h1, h2, this]
  ·have : a = c := by omega
   subst this
   by_cases h3 : b < d
   ·simp [h3]
   ·by_cases h4 : d < b
    ·simp [h3, h4]
    ·simp [h3, h4]
theorem edgeOk_lt {n : Nat} {last e : Int × Int} (h : edgeOk n last e = true) (hn : n ≤ 9) : ∃ i j : Nat, e = ((i : Int), (j : Int)) ∧ i < j ∧ j < n := by
 simp only [edgeOk, Bool.and_eq_true, decide_eq_true_eq] at h
 obtain ⟨⟨⟨h1, h2⟩, h3⟩, _⟩ := h
 obtain ⟨x, y⟩ := e
 dsimp only at h1 h2 h3
 exact ⟨x.toNat, y.toNat, by rw [Int.toNat_of_nonneg h1, Int.toNat_of_nonneg (by omega)], by omega, by omega⟩
theorem ok_lt {n : Nat} {l : Ps} {k : Nat} (hn : n ≤ 9) (hk : k ≤ l.length) (h : ∀ j, j < k → okAt n l j = true) : Lt (toE (l.take k)) n := by
 intro e he
 obtain ⟨p, hp, rfl⟩ := List.mem_map.1 he
 obtain ⟨j, hj, rfl⟩ := List.mem_iff_getElem.1 hp
 have hj2 : j < k := by simp at hj; omega
 have := h j hj2
 unfold okAt at this
 rw [List.getD_eq_getElem?_getD, List.getElem?_eq_getElem (by omega)] at this
 obtain ⟨a, b, hab, h1, h2⟩ := edgeOk_lt this hn
 rw [List.getElem_take]
 rw [show l[j] = ((a : Int), (b : Int)) from hab]
 simp; omega
theorem toE_snoc {l : Ps} {k i j : Nat} (h : l[k]? = some ((i : Int), (j : Int))) : toE (l.take (k + 1)) = toE (l.take k) ++ [(i, j)] := by
 have hk : k < l.length := (List.getElem?_eq_some_iff.1 h).1
 rw [List.take_succ_eq_append_getElem hk, show l[k] = ((i : Int), (j : Int)) from (List.getElem?_eq_some_iff.1 h).2]
 simp [toE]
def nextC (E : Es) : List Value := (List.range 9).map fun k => .int .u16 (nb E k)
theorem boardC_eq (n : Nat) (E : Es) : boardC n E = .int .i64 n :: nextC E := rfl
theorem next_set (E : Es) (i j : Nat) (hi : i < 9) (hj : j < 9) (hij : i < j) : ((nextC E).set i (.int .u16 (nb E i ||| 2 ^ j : Nat))).set j (.int .u16 (nb E j ||| 2 ^ i : Nat)) = nextC (E ++ [(i, j)]) := by
 refine List.ext_getElem? fun k => ?_
 rw [List.getElem?_set, List.getElem?_set]
 by_cases hk : k < 9
 ·have hg : ∀ E : Es, (nextC E)[k]? = some (.int .u16 (nb E k)) := fun E => by simp [nextC, hk]
  have hl : (nextC E).length = 9 := by simp [nextC]
  rw [hg, hg, nb_snoc]
  unfold nbS
  by_cases h1 : j = k
  ·subst h1
   have : ¬ (j = i) := by omega
   simp [hl, hj, this]
  ·by_cases h2 : i = k
   ·subst h2
    simp [hl, hi, h1, Ne.symm h1]
   ·have a1 : ¬ (k = i) := fun h => h2 h.symm
    have a2 : ¬ (k = j) := fun h => h1 h.symm
    simp [h1, h2, a1, a2]
 ·have hg : ∀ E : Es, (nextC E)[k]? = none := fun E => by simp [nextC]; omega
  have h1 : ¬ (j = k) := by omega
  have h2 : ¬ (i = k) := by omega
  rw [hg, hg]; simp [h1, h2]
theorem board_set (n : Nat) (E : Es) (i j : Nat) (hi : i < 9) (hj : j < 9) (hij : i < j) : ((boardC n E).set (1 + i) (.int .u16 (nb E i ||| 2 ^ j : Nat))).set (1 + j) (.int .u16 (nb E j ||| 2 ^ i : Nat)) = boardC n (E ++ [(i, j)]) := by
 rw [boardC_eq, boardC_eq, ← next_set E i j hi hj hij, Nat.add_comm 1 i, Nat.add_comm 1 j, List.set_cons_succ, List.set_cons_succ]
theorem all_bit (n i : Nat) : (2 ^ n - 1).testBit i = true ↔ i < n := by
 rw [Nat.testBit_two_pow_sub_one]; simp
theorem Least.congr {E : Es} {P Q : Nat → Prop} {first s : Nat} (h : Least E P first s) (hpq : ∀ i, P i ↔ Q i) : Least E Q first s :=
 ⟨h.has, fun i hi => (hpq i).1 (h.sub i hi), fun a b hab ha hb => h.closed a b hab ((hpq a).2 ha) ((hpq b).2 hb), fun T hT hc => h.least T hT fun a b hab ha hb => hc a b hab ((hpq a).1 ha) ((hpq b).1 hb)⟩
theorem conn_joined {n : Nat} {E : Es} {P t : Nat} {but : Int} (hn9 : n ≤ 9) (hE : Lt E n) (hP : ∀ i, P.testBit i = true ↔ i < n ∧ (i : Int) ≠ but) (hlow : lowN 16 P = firstOf but) (hf : firstOf but < n) (hfb : (firstOf but : Int) ≠ but)
  (h : Least E (fun i => P.testBit i = true) (lowN 16 P) t) : decide (t = P) = joinedP n E but := by
 have h1 := h.congr hP
 rw [hlow] at h1
 have h2 := h1.uniq (rnds_is hE hn9 but hf hfb)
 unfold joinedP
 rw [if_neg (by omega), ← h2, Bool.eq_iff_iff]
 unfold allSeen
 rw [decide_eq_true_eq, List.all_eq_true]
 constructor
 ·rintro rfl i hi
  by_cases hb : (i : Int) = but
  ·simp [hb]
  ·simp [(hP i).2 ⟨List.mem_range.1 hi, hb⟩]
 ·intro hall
  refine Nat.eq_of_testBit_eq fun i => ?_
  rw [Bool.eq_iff_iff]
  constructor
  ·intro hi; exact h.sub i hi
  ·intro hi
   obtain ⟨g1, g2⟩ := (hP i).1 hi
   have := hall i (List.mem_range.2 g1)
   simpa [g2] using this
theorem low_allP : ((List.range 10).all fun n => n == 0 || lowN 16 (2 ^ n - 1) == 0) = true := by decide +kernel
theorem conn_all {n : Nat} {E : Es} {t : Nat} (hn2 : 2 ≤ n) (hn9 : n ≤ 9) (hE : Lt E n) (h : Least E (fun i => (2 ^ n - 1).testBit i = true) (lowN 16 (2 ^ n - 1)) t) : decide (t = 2 ^ n - 1) = joinedP n E (-1) := by
 have hl := List.all_eq_true.1 low_allP n (List.mem_range.2 (by omega))
 simp only [Bool.or_eq_true, beq_iff_eq] at hl
 exact conn_joined hn9 hE (fun i => by rw [all_bit]; exact ⟨fun h => ⟨h, by omega⟩, fun h => h.1⟩) (by rcases hl with hl | hl; (omega); (rw [hl]; rfl)) (by show (0 : Nat) < n; omega) (by show ((0 : Nat) : Int) ≠ -1; decide) h
theorem u16_any {m : Nat} (h : m < 65536) : IntKind.u16.wrap (m : Int) = (m : Int) := by
 simp [IntKind.wrap, IntKind.bits, IntKind.signed]; omega
theorem all_go (n : Nat) (hn9 : n ≤ 9) (w : World) : Calls Tryd.prog 68 #[.int .i64 n] w fun e w' => e = .returned (.int .u16 ((2 ^ n - 1 : Nat) : Int)) ∧ w' = w := by
 have h1 : 1 ≤ 2 ^ n := Nat.one_le_two_pow
 have h2 : 2 ^ n ≤ 512 := by have : 2 ^ n ≤ 2 ^ 9 := Nat.pow_le_pow_right (by omega) hn9; omega
 have hs : IntKind.u16.wrap ((2 : Int) ^ n) = ((2 ^ n : Nat) : Int) := by
  rw [show ((2 : Int) ^ n) = ((2 ^ n : Nat) : Int) by simp]
  exact u16_any (by omega)
 have hn16 : (n : Int) ≤ 16 := by omega
 obtain ⟨m, hm⟩ : ∃ m, 2 ^ n = m := ⟨_, rfl⟩
 rw [hm] at hs h1 h2 ⊢
 have hd : IntKind.u16.wrap ((m : Int) - 1) = ((m - 1 : Nat) : Int) := by
  rw [show ((m : Int) - 1) = ((m - 1 : Nat) : Int) by omega]
  exact u16_small (by omega)
 have HM : Hid (((m - 1 : Nat) : Int) = (m : Int) - 1) := by show _ = _; omega
 clear hm
 go_enter Tryd.func68, Tryd.ntmps68
 go_wp2
 go_ret
 exact ⟨rfl, rfl⟩
set_option maxRecDepth 100000 in
set_option maxHeartbeats 4000000 in
theorem new_go (v : Value) (n : Int) (l : Ps) (w : World) (hl : SlP w v l) (ht : Tab w) :
  Calls Tryd.prog 67 #[.int .i64 n, v] w fun e w' => (checkB n l ≠ 0 → e = .returned (.tuple #[.pointer none, .int .i64 (checkB n l)])) ∧
   (checkB n l = 0 → ∃ g, e = .returned (.tuple #[.pointer (some ⟨g, 0, none⟩), .int .i64 0]) ∧ w.heap.size ≤ g ∧ BoardR w' g n.toNat (toE l)) ∧ Below w.heap.size w w' := by
 have HCH : Hid (checkB n l = if sizeB n then (if boardOk n l && joinedP n.toNat (toE l) (-1) then 0 else 100) else 1) := rfl
 have HSZ := Lib.hid (fun W => isSize_any n W)
 obtain ⟨p, cap, rfl, hl1, hl2⟩ := hl.len
 cases hs : sizeB n with
 | false =>
  rw [hs] at HCH HSZ
  have HC1 : Hid (checkB n l = 1) := by show _ = _; rw [HCH.out]; rfl
  clear hl ht hs
  go_enter Tryd.func67, Tryd.ntmps67
  go_wp2_with (first | (go_at_call 50; refine (HSZ.out _).mono ?_; rintro e w1 ⟨rfl, rfl⟩))
  go_ret2
  exact ⟨fun _ => by rw [HC1.out]; rfl, fun h => by rw [HC1.out] at h; exact absurd h (by decide), Below.refl _ _⟩
 | true =>
  rw [hs] at HCH HSZ
  have hs' := hs
  simp only [sizeB, Bool.and_eq_true, decide_eq_true_eq] at hs'
  obtain ⟨N, rfl⟩ : ∃ N : Nat, n = (N : Int) := ⟨n.toNat, by omega⟩
  have hN2 : 2 ≤ N := by omega
  have hN9 : N ≤ 9 := by omega
  rw [Int.toNat_natCast] at HCH ⊢
  have HL := Lib.hid hl
  have HT := Lib.hid ht
  clear hl ht hs hs'
  go_enter Tryd.func67, Tryd.ntmps67
  go_wp2_with (first | (go_at_call 50; refine (HSZ.out _).mono ?_; rintro e w1 ⟨rfl, rfl⟩))
  have hrb : Row 109 ((w.alloc (.cells (boardC N []).toArray 109)).alloc (.cells #[.int .i64 0, .int .i64 0] 90)) w.heap.size (boardC N []) := (row_new 109 w (boardC N []).toArray).alloc _
  have hrl := row_new 90 (w.alloc (.cells (boardC N []).toArray 109)) #[.int .i64 0, .int .i64 0]
  rw [World.size_alloc] at hrl
  have hb0 : Below w.heap.size w ((w.alloc (.cells (boardC N []).toArray 109)).alloc (.cells #[.int .i64 0, .int .i64 0] 90)) := ((Below.refl w.heap.size w).alloc (Nat.le_refl _) _).alloc (by simp) _
  have HRB := Lib.hid hrb
  have HRL := Lib.hid hrl
  have HB0 := Lib.hid hb0
  clear hrb hrl hb0
  go_loopw [20] (fun i wr => ∃ k : Nat, k ≤ l.length ∧ i = .int .i64 k ∧ (∀ j, j < k → okAt N l j = true) ∧ BoardR wr w.heap.size N (toE (l.take k)) ∧ Row 90 wr (w.heap.size + 1) [.int .i64 (prevOf l k).1, .int .i64 (prevOf l k).2] ∧ Below w.heap.size w wr) (fun i _ => l.length - (intOf i).toNat)
  case atStart => exact ⟨0, Nat.zero_le _, rfl, fun j hj => by omega, HRB.out, HRL.out, HB0.out⟩
  case round =>
   obtain ⟨k, hk, rfl, hall, hbr, hla, hbel⟩ := hrel
   clear HRB HRL HB0
   by_cases hlt : k < l.length
   ·obtain ⟨ad, cap', e, hv, hg, hek, d1, d2⟩ := (HL.out.below hbel).at_ k hlt
    cases hv
    have hge : l.getD k (0, 0) = e := by rw [List.getD_eq_getElem?_getD, hek]; rfl
    have HOK : Hid (okAt N l k = edgeOk N (prevOf l k) e) := by show _ = _; unfold okAt; rw [hge]
    obtain ⟨la, hla'⟩ : ∃ la, prevOf l k = la := ⟨_, rfl⟩
    rw [hla'] at hla HOK
    obtain ⟨x, y⟩ := e
    obtain ⟨a, b⟩ := la
    dsimp only at d1 d2 hla
    have HALL := Lib.hid hall
    have HBR := Lib.hid hbr
    have HLA := Lib.hid hla
    have HBEL := Lib.hid hbel
    have HEK := Lib.hid hek
    clear hall hbr hla hbel hek hge hla'
    by_cases h1 : x < 0
    ·have HBAD : Hid (checkB N l = 100) := by
      show _ = _
      rw [HCH.out, boardOk_no hlt (by rw [HOK.out]; unfold edgeOk; simp; omega)]; rfl
     go_wp2
     go_quiet (fail)
     obtain ⟨W1, hW1⟩ : ∃ W1, (wr.alloc (.cells #[.int .i64 x, .int .i64 y] 90)).drewN nq = W1 := ⟨_, rfl⟩
     rw [hW1]
     have HE1 : Hid (Row 90 W1 wr.heap.size [.int .i64 x, .int .i64 y]) := by show Row _ _ _ _; rw [← hW1]; exact (row_new 90 wr #[.int .i64 x, .int .i64 y]).below (below_drewN (Below.refl (wr.heap.size + 1) _) nq) (by omega)
     have hb1 : Below wr.heap.size wr W1 := by rw [← hW1]; exact below_drewN ((Below.refl wr.heap.size wr).alloc (Nat.le_refl _) _) nq
     have HB1 := Lib.hid hb1
     have HLA1 := Lib.hid (HLA.out.below hb1 HLA.out.lt)
     clear hW1 hb1
     go_wp2
     go_quiet (fail)
     go_wp2
     go_ret2
     exact ⟨fun _ => by rw [HBAD.out]; rfl, fun h => by rw [HBAD.out] at h; exact absurd h (by decide), below_drewN (HBEL.out.trans (HB1.out.mono HBEL.out.size)) _⟩
    ·by_cases h2 : y ≤ x
     ·have HBAD : Hid (checkB N l = 100) := by
       show _ = _
       rw [HCH.out, boardOk_no hlt (by rw [HOK.out]; unfold edgeOk; simp; omega)]; rfl
      go_wp2
      go_quiet (fail)
      obtain ⟨W1, hW1⟩ : ∃ W1, (wr.alloc (.cells #[.int .i64 x, .int .i64 y] 90)).drewN nq = W1 := ⟨_, rfl⟩
      rw [hW1]
      have HE1 : Hid (Row 90 W1 wr.heap.size [.int .i64 x, .int .i64 y]) := by show Row _ _ _ _; rw [← hW1]; exact (row_new 90 wr #[.int .i64 x, .int .i64 y]).below (below_drewN (Below.refl (wr.heap.size + 1) _) nq) (by omega)
      have hb1 : Below wr.heap.size wr W1 := by rw [← hW1]; exact below_drewN ((Below.refl wr.heap.size wr).alloc (Nat.le_refl _) _) nq
      have HB1 := Lib.hid hb1
      have HLA1 := Lib.hid (HLA.out.below hb1 HLA.out.lt)
      clear hW1 hb1
      go_wp2
      go_quiet (fail)
      go_wp2
      go_ret2
      exact ⟨fun _ => by rw [HBAD.out]; rfl, fun h => by rw [HBAD.out] at h; exact absurd h (by decide), below_drewN (HBEL.out.trans (HB1.out.mono HBEL.out.size)) _⟩
     ·by_cases h3 : (N : Int) ≤ y
      ·have HBAD : Hid (checkB N l = 100) := by
        show _ = _
        rw [HCH.out, boardOk_no hlt (by rw [HOK.out]; unfold edgeOk; simp; omega)]; rfl
       go_wp2
       go_quiet (fail)
       obtain ⟨W1, hW1⟩ : ∃ W1, (wr.alloc (.cells #[.int .i64 x, .int .i64 y] 90)).drewN nq = W1 := ⟨_, rfl⟩
       rw [hW1]
       have HE1 : Hid (Row 90 W1 wr.heap.size [.int .i64 x, .int .i64 y]) := by show Row _ _ _ _; rw [← hW1]; exact (row_new 90 wr #[.int .i64 x, .int .i64 y]).below (below_drewN (Below.refl (wr.heap.size + 1) _) nq) (by omega)
       have hb1 : Below wr.heap.size wr W1 := by rw [← hW1]; exact below_drewN ((Below.refl wr.heap.size wr).alloc (Nat.le_refl _) _) nq
       have HB1 := Lib.hid hb1
       have HLA1 := Lib.hid (HLA.out.below hb1 HLA.out.lt)
       clear hW1 hb1
       go_wp2
       go_quiet (fail)
       go_wp2
       go_ret2
       exact ⟨fun _ => by rw [HBAD.out]; rfl, fun h => by rw [HBAD.out] at h; exact absurd h (by decide), below_drewN (HBEL.out.trans (HB1.out.mono HBEL.out.size)) _⟩
      ·have hcl := cmp2_lex a b x y
       obtain ⟨c, hc⟩ : ∃ c, cmp2 a b x y = c := ⟨_, rfl⟩
       rw [hc] at hcl
       by_cases h4 : 0 ≤ c
       ·have HLX := Lib.hid (hcl.1 h4)
        clear hcl
        have HBAD : Hid (checkB N l = 100) := by
         show _ = _
         rw [HCH.out, boardOk_no hlt (by rw [HOK.out]; unfold edgeOk; rw [HLX.out]; simp)]; rfl
        go_wp2
        go_quiet (fail)
        obtain ⟨W1, hW1⟩ : ∃ W1, (wr.alloc (.cells #[.int .i64 x, .int .i64 y] 90)).drewN nq = W1 := ⟨_, rfl⟩
        rw [hW1]
        have HE1 : Hid (Row 90 W1 wr.heap.size [.int .i64 x, .int .i64 y]) := by show Row _ _ _ _; rw [← hW1]; exact (row_new 90 wr #[.int .i64 x, .int .i64 y]).below (below_drewN (Below.refl (wr.heap.size + 1) _) nq) (by omega)
        have hb1 : Below wr.heap.size wr W1 := by rw [← hW1]; exact below_drewN ((Below.refl wr.heap.size wr).alloc (Nat.le_refl _) _) nq
        have HB1 := Lib.hid hb1
        have HLA1 := Lib.hid (HLA.out.below hb1 HLA.out.lt)
        clear hW1 hb1
        have HCMP : Hid (∀ m, Calls Tryd.prog 83 #[.slice (some ⟨w.heap.size + 1, 0, none⟩) 2 2, .slice (some ⟨wr.heap.size, 0, none⟩) 2 2] (W1.drewN m) fun e w' => e = .returned (.int .i64 c) ∧ ∃ m', w' = W1.drewN m') := by
         intro m
         have hd := below_drewN (Below.refl W1.heap.size W1) m
         have r1 := HLA1.out.below hd HLA1.out.lt
         have r2 := HE1.out.below hd HE1.out.lt
         have := compare2_go (w.heap.size + 1) wr.heap.size a b x y (W1.drewN m) (r1.cell 0) (r1.cell 1) (r2.cell 0) (r2.cell 1)
         rw [hc] at this
         exact this.mono fun e w' ⟨he, hw⟩ => ⟨he, m, hw⟩
        go_wp2
        go_quiet ((go_at_call 83; exact HCMP.out _))
        go_wp2
        go_ret2
        exact ⟨fun _ => by rw [HBAD.out]; rfl, fun h => by rw [HBAD.out] at h; exact absurd h (by decide), below_drewN (HBEL.out.trans (HB1.out.mono HBEL.out.size)) _⟩
       ·have HLX : Hid (lexB (a, b) (x, y) = true) := by
         cases hx : lexB (a, b) (x, y) with
         | true => exact rfl
         | false => exact absurd (hcl.2 hx) h4
        have HGOOD : Hid (okAt N l k = true) := by
         show _ = _
         rw [HOK.out]; unfold edgeOk; rw [HLX.out]; simp; omega
        have h4d : decide (0 ≤ c) = false := by rw [decide_eq_false_iff_not]; exact h4
        clear hcl HOK
        go_wp2
        go_quiet (fail)
        obtain ⟨W1, hW1⟩ : ∃ W1, (wr.alloc (.cells #[.int .i64 x, .int .i64 y] 90)).drewN nq = W1 := ⟨_, rfl⟩
        rw [hW1]
        have HE1 : Hid (Row 90 W1 wr.heap.size [.int .i64 x, .int .i64 y]) := by show Row _ _ _ _; rw [← hW1]; exact (row_new 90 wr #[.int .i64 x, .int .i64 y]).below (below_drewN (Below.refl (wr.heap.size + 1) _) nq) (by omega)
        have hb1 : Below wr.heap.size wr W1 := by rw [← hW1]; exact below_drewN ((Below.refl wr.heap.size wr).alloc (Nat.le_refl _) _) nq
        have HB1 := Lib.hid hb1
        have HLA1 := Lib.hid (HLA.out.below hb1 HLA.out.lt)
        clear hW1 hb1
        have HCMP : Hid (∀ m, Calls Tryd.prog 83 #[.slice (some ⟨w.heap.size + 1, 0, none⟩) 2 2, .slice (some ⟨wr.heap.size, 0, none⟩) 2 2] (W1.drewN m) fun e w' => e = .returned (.int .i64 c) ∧ ∃ m', w' = W1.drewN m') := by
         intro m
         have hd := below_drewN (Below.refl W1.heap.size W1) m
         have r1 := HLA1.out.below hd HLA1.out.lt
         have r2 := HE1.out.below hd HE1.out.lt
         have := compare2_go (w.heap.size + 1) wr.heap.size a b x y (W1.drewN m) (r1.cell 0) (r1.cell 1) (r2.cell 0) (r2.cell 1)
         rw [hc] at this
         exact this.mono fun e w' ⟨he, hw⟩ => ⟨he, m, hw⟩
        go_wp2
        go_quiet ((go_at_call 83; exact HCMP.out _))
        obtain ⟨i, rfl⟩ : ∃ i : Nat, x = (i : Int) := ⟨x.toNat, by omega⟩
        obtain ⟨j, rfl⟩ : ∃ j : Nat, y = (j : Int) := ⟨y.toNat, by omega⟩
        have g1 : decide ((i : Int) < 0) = false := by rw [decide_eq_false_iff_not]; omega
        have g2 : decide ((j : Int) ≤ (i : Int)) = false := by rw [decide_eq_false_iff_not]; omega
        have g3 : decide ((N : Int) ≤ (j : Int)) = false := by rw [decide_eq_false_iff_not]; omega
        have hij : i < j := by omega
        have hj9 : j < 9 := by omega
        have hi9 : i < 9 := by omega
        obtain ⟨W2, hW2⟩ : ∃ W2, W1.drewN nq = W2 := ⟨_, rfl⟩
        rw [hW2]
        have hb2 : Below W1.heap.size W1 W2 := by rw [← hW2]; exact below_drewN (Below.refl _ _) nq
        have HB2 := Lib.hid (HB1.out.trans (hb2.mono HB1.out.size))
        have HE2 := Lib.hid (HE1.out.below hb2 HE1.out.lt)
        have HLA2 := Lib.hid (HLA1.out.below hb2 HLA1.out.lt)
        have hbr2 := BoardR.next (Row.below HBR.out HB2.out HBR.out.lt) i hi9
        have hfr2 := (Row.below HBR.out HB2.out HBR.out.lt).free (1 + i)
        clear HLX hc HCMP hb2 hW2
        obtain ⟨E, hEE⟩ : ∃ E, toE (l.take k) = E := ⟨_, rfl⟩
        rw [hEE] at hbr2
        have hp512 : ∀ m, m < 9 → 2 ^ m < 512 := fun m hm => Nat.pow_lt_pow_right (by omega : 1 < 2) hm
        have hE9 : Lt E 9 := by rw [← hEE]; exact fun e he => by have := ok_lt hN9 (Nat.le_of_lt hlt) HALL.out e he; omega
        have hor1 := or_u16 (nb_lt (n := 9) hE9 i) (hp512 j hj9)
        have hor2 := or_u16 (nb_lt (n := 9) hE9 j) (hp512 i hi9)
        have hsj : IntKind.u16.wrap ((2 : Int) ^ j) = ((2 ^ j : Nat) : Int) := by rw [show ((2 : Int) ^ j) = ((2 ^ j : Nat) : Int) by simp]; exact u16_small (hp512 j hj9)
        have hsi : IntKind.u16.wrap ((2 : Int) ^ i) = ((2 ^ i : Nat) : Int) := by rw [show ((2 : Int) ^ i) = ((2 ^ i : Nat) : Int) by simp]; exact u16_small (hp512 i hi9)
        have HBS := Lib.hid (board_set N E i j hi9 hj9 hij)
        have hEE2 := Lib.hid hEE
        have HE9 := Lib.hid hE9
        obtain ⟨pj, hpj⟩ : ∃ pj, 2 ^ j = pj := ⟨_, rfl⟩
        obtain ⟨pi, hpi⟩ : ∃ pi, 2 ^ i = pi := ⟨_, rfl⟩
        rw [hpj] at hsj hor1 HBS
        rw [hpi] at hsi hor2 HBS
        obtain ⟨ni, hni⟩ : ∃ ni, nb E i = ni := ⟨_, rfl⟩
        rw [hni] at hbr2 hor1 HBS
        obtain ⟨qi, hqi⟩ : ∃ qi, ni ||| pj = qi := ⟨_, rfl⟩
        rw [hqi] at hor1 HBS
        clear hp512 hpj hpi hni hqi hEE hE9
        have gi9 : (i : Int) < 9 := by omega
        have gj9 : (j : Int) < 9 := by omega
        have gj16 : (j : Int) ≤ 16 := by omega
        have gi16 : (i : Int) ≤ 16 := by omega
        go_wp2
        go_still_tail 12, (by kernel_rfl)
        change wpList _ _ _ _ _ W2.drew
        have hrow2 : Row 109 W2 w.heap.size (boardC N E) := by have := Row.below HBR.out HB2.out HBR.out.lt; rw [hEE2.out] at this; exact this
        have hrow3 := hrow2.drew.store (1 + i) (.int .u16 qi)
        have HROW3 := Lib.hid hrow3
        have hbr3 : (W2.drew.setCell ⟨w.heap.size, 1 + i, none⟩ (.int .u16 qi)).cell? ⟨w.heap.size, 1 + j, none⟩ = some (.int .u16 (nb E j)) := by
         rw [hrow3.cell (1 + j), List.getElem?_set_ne (by omega), ← hrow2.cell (1 + j)]
         exact BoardR.next hrow2 j hj9
        have hfr3 := hrow3.free (1 + j)
        have HE3 := Lib.hid (HE2.out.drew.other ⟨w.heap.size, 1 + i, none⟩ (by have := HBR.out.lt; dsimp only; omega) (.int .u16 qi))
        have HLA3 := Lib.hid (HLA2.out.drew.other ⟨w.heap.size, 1 + i, none⟩ (by dsimp only; omega) (.int .u16 qi))
        have HB3 := Lib.hid ((HBEL.out.trans (HB2.out.mono HBEL.out.size)).drew.setCell (p := ⟨w.heap.size, 1 + i, none⟩) (Nat.le_refl _) (.int .u16 qi))
        obtain ⟨W3, hW3⟩ : ∃ W3, W2.drew.setCell ⟨w.heap.size, 1 + i, none⟩ (.int .u16 qi) = W3 := ⟨_, rfl⟩
        rw [hW3] at hbr3 hfr3 HROW3 HE3 HLA3 HB3
        go_wp2
        clear hW3 hrow2 hrow3 hbr2 hfr2 hor1 hsj
        obtain ⟨nj, hnj⟩ : ∃ nj, nb E j = nj := ⟨_, rfl⟩
        rw [hnj] at hbr3 hor2 HBS
        obtain ⟨qj, hqj⟩ : ∃ qj, nj ||| pi = qj := ⟨_, rfl⟩
        rw [hqj] at hor2 HBS
        clear hnj hqj
        go_still_tail 12, (by kernel_rfl)
        change wpList _ _ _ _ _ W3.drew
        have hrow4 := HROW3.out.drew.store (1 + j) (.int .u16 qj)
        have HROW4 : Hid (Row 109 (W3.drew.setCell ⟨w.heap.size, 1 + j, none⟩ (.int .u16 qj)) w.heap.size (boardC N (toE (l.take (k + 1))))) := by
         show Row _ _ _ _
         rw [toE_snoc HEK.out, hEE2.out, ← HBS.out]; exact hrow4
        have HE4 := Lib.hid (HE3.out.drew.other ⟨w.heap.size, 1 + j, none⟩ (by have := HBR.out.lt; dsimp only; omega) (.int .u16 qj))
        have HLA4 := Lib.hid (HLA3.out.drew.other ⟨w.heap.size, 1 + j, none⟩ (by dsimp only; omega) (.int .u16 qj))
        have HB4 := Lib.hid (HB3.out.drew.setCell (p := ⟨w.heap.size, 1 + j, none⟩) (Nat.le_refl _) (.int .u16 qj))
        obtain ⟨W4, hW4⟩ : ∃ W4, W3.drew.setCell ⟨w.heap.size, 1 + j, none⟩ (.int .u16 qj) = W4 := ⟨_, rfl⟩
        rw [hW4] at HROW4 HE4 HLA4 HB4
        have k0 := HE4.out.cell 0
        have k1 := HE4.out.cell 1
        have f0 := HLA4.out.free 0
        have f1 := HLA4.out.free 1
        have c0 := HLA4.out.cell 0
        have c1 := HLA4.out.cell 1
        simp only [List.getElem?_cons_zero, List.getElem?_cons_succ] at k0 k1 c0 c1
        have HNEXT : Hid (∀ t, t < k + 1 → okAt N l t = true) := by
         intro t ht
         rcases Nat.lt_or_ge t k with h | h
         ·exact HALL.out t h
         ·have : t = k := by omega
          subst this; exact HGOOD.out
        have HPREV : Hid (prevOf l (k + 1) = ((i : Int), (j : Int))) := by
         show _ = _
         unfold prevOf
         rw [if_neg (by omega), Nat.add_sub_cancel, List.getD_eq_getElem?_getD, HEK.out]; rfl
        have HLA5 := Lib.hid ((HLA4.out.store 0 (.int .i64 i)).store 1 (.int .i64 j))
        have HROW5 := Lib.hid ((HROW4.out.other ⟨w.heap.size + 1, 0, none⟩ (by dsimp only; omega) (.int .i64 i)).other ⟨w.heap.size + 1, 1, none⟩ (by dsimp only; omega) (.int .i64 j))
        have HB5 := Lib.hid ((HB4.out.setCell (p := ⟨w.heap.size + 1, 0, none⟩) (by dsimp only; omega) (.int .i64 i)).setCell (p := ⟨w.heap.size + 1, 1, none⟩) (by dsimp only; omega) (.int .i64 j))
        clear hor2 hsi HROW3 hrow4
        go_wp2
        go_roundw
        case rel => exact ⟨k + 1, by omega, by go_num, HNEXT.out, HROW5.out, by rw [HPREV.out]; exact HLA5.out, HB5.out⟩
        case measure => simp [intOf]; omega
   ·obtain rfl : k = l.length := by omega
    have hbo : boardOk N l = true := boardOk_yes hall
    have hlt9 := ok_lt hN9 (Nat.le_refl _) hall
    rw [List.take_length] at hbr hlt9
    have HBR := Lib.hid hbr
    have HB := Lib.hid hbel
    have HCH2 : Hid (checkB N l = if joinedP N (toE l) (-1) then 0 else 100) := by show _ = _; rw [HCH.out, hbo]; simp
    have hP0 : 0 < 2 ^ N - 1 := by have : 2 ^ 1 ≤ 2 ^ N := Nat.pow_le_pow_right (by omega) (by omega); omega
    have hP9 : 2 ^ N - 1 < 512 := by have : 2 ^ N ≤ 2 ^ 9 := Nat.pow_le_pow_right (by omega) hN9; omega
    have HCN := Lib.hid (conn_go w.heap.size N (2 ^ N - 1) (toE l) hP0 hP9 (fun e he => by have := hlt9 e he; omega) wr hbr (HT.out.below hbel HT.out.lt))
    have HLS := Lib.hid (fun t (h : Least (toE l) (fun i => (2 ^ N - 1).testBit i = true) (lowN 16 (2 ^ N - 1)) t) => conn_all hN2 hN9 hlt9 h)
    have hall2 : Hid (∀ W, Calls Tryd.prog 68 #[.int .i64 N] W fun e w' => e = .returned (.int .u16 ((2 ^ N - 1 : Nat) : Int)) ∧ w' = W) := fun W => all_go N hN9 W
    obtain ⟨PP, hPP⟩ : ∃ PP, 2 ^ N - 1 = PP := ⟨_, rfl⟩
    rw [hPP] at HCN HLS hall2
    clear hall hbr hla hbel hbo hlt9 hP0 hP9 hPP hlt
    obtain ⟨jb, hjb⟩ : ∃ jb, joinedP N (toE l) (-1) = jb := ⟨_, rfl⟩
    rw [hjb] at HCH2 HLS
    clear hjb
    cases jb with
    | false =>
     have HBAD : Hid (checkB N l = 100) := by show _ = _; rw [HCH2.out]; rfl
     go_wp2_with (first
      | (go_at_call 68; refine (hall2.out _).mono ?_; rintro e w1 ⟨rfl, rfl⟩)
      | (go_at_call 70; refine HCN.out.mono ?_; rintro e w1 ⟨t, hlst, rfl, hb1⟩; rw [HLS.out t hlst]; have HB1 := Lib.hid (HB.out.trans (hb1.mono HB.out.size)); have HBR1 := Lib.hid (Row.below HBR.out hb1 HBR.out.lt); clear hb1 hlst))
     go_ret2
     exact ⟨fun _ => by rw [HBAD.out]; rfl, fun h => by rw [HBAD.out] at h; exact absurd h (by decide), HB1.out⟩
    | true =>
     have HGOOD : Hid (checkB N l = 0) := by show _ = _; rw [HCH2.out]; rfl
     go_wp2_with (first
      | (go_at_call 68; refine (hall2.out _).mono ?_; rintro e w1 ⟨rfl, rfl⟩)
      | (go_at_call 70; refine HCN.out.mono ?_; rintro e w1 ⟨t, hlst, rfl, hb1⟩; rw [HLS.out t hlst]; have HB1 := Lib.hid (HB.out.trans (hb1.mono HB.out.size)); have HBR1 := Lib.hid (Row.below HBR.out hb1 HBR.out.lt); clear hb1 hlst))
     go_ret2
     exact ⟨fun h => absurd HGOOD.out h, fun _ => ⟨w.heap.size, rfl, Nat.le_refl _, HBR1.out⟩, HB1.out⟩
end Go.Proofs.YtllhejjcmfiebaaDoor
