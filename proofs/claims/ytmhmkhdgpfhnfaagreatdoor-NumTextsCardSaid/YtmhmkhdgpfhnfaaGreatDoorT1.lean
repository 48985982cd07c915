/- Slices of bytes as strings; a list turned round in its place. -/
import Derived.Test.YtmhmkhdgpfhnfaaGreatDoorRD
import Derived.Test.YtmhmkhdgpfhnfaaGreatDoorBase
import Derived.Laws.BytesArg
set_option linter.unusedVariables false
set_option linter.unusedSimpArgs false
set_option linter.unnecessarySimpa false
/- Slices of bytes as strings; a list turned round in its place. -/
namespace Go.Proofs.YtmhmkhdgpfhnfaaGreatDoor.Ref
open Go.RowKit

theorem infoB : (Tryz.prog.info? 5).map (fun i => (i.zero, i.size, i.bytes)) = some (some (.int .u8 0), 1, 1) := by kernel_rfl
theorem undB : Tryz.prog.underlying 111 = some (.slice 5) := by kernel_rfl
theorem undU8 : Tryz.prog.underlying 5 = some (.int .u8) := by kernel_rfl
theorem undStr : Tryz.prog.underlying 9 = some .string := by kernel_rfl
/-- bytes as cells -/
abbrev bys (l : List UInt8) : List Value := Lib.byteCells l
theorem bys_length (l : List UInt8) : (bys l).length = l.length := Lib.byteCells_length l
theorem bys_append (a b : List UInt8) : bys (a ++ b) = bys a ++ bys b := Lib.byteCells_append a b
theorem bys_get (l : List UInt8) (i : Nat) (h : i < l.length) : (bys l)[i]? = some (.int .u8 ((l.getD i 0).toNat : Nat)) := by
  unfold bys Lib.byteCells
  rw [List.getElem?_map, List.getElem?_eq_getElem h, List.getD_eq_getElem?_getD, List.getElem?_eq_getElem h]; rfl
theorem bys_set (l : List UInt8) (i : Nat) (b : UInt8) : (bys l).set i (.int .u8 (b.toNat : Nat)) = bys (l.set i b) := by
  unfold bys Lib.byteCells
  rw [List.map_set]
theorem map_getD (l : List UInt8) (i : Nat) (hi : i < l.length) : (l.map fun x => (x.toNat : Int)).getD i 0 = ((l.getD i 0).toNat : Int) := by
  rw [List.getD_eq_getElem?_getD, List.getElem?_map, List.getElem?_eq_getElem hi, List.getD_eq_getElem?_getD, List.getElem?_eq_getElem hi]; rfl
theorem strOfNums_bytes (l : List UInt8) : strOfNums (l.map fun x => (x.toNat : Int)) = ⟨l.toArray⟩ := by
  unfold strOfNums
  congr 2
  rw [List.map_map]
  have : (fun n : Int => UInt8.ofNat n.toNat) ∘ (fun x : UInt8 => (x.toNat : Int)) = id := by
    funext x
    simp
  rw [this, List.map_id]
set_option maxRecDepth 100000 in
/-- the string of the bytes that a slice reads as -/
theorem str_of {T B : Nat} {w : World} {v : Value} {bs : List UInt8} (h : Own T B w v (bys bs)) :
    (convert 111 9 v).run Tryz.prog w = .ok (.string ⟨bs.toArray⟩) w := by
  obtain ⟨p, cap, hv, hl, hm, hn, hp⟩ := h.sl
  rw [bys_length] at hv hl hp
  subst hv
  cases bs with
  | nil =>
    rcases h.form_ with ⟨h1, _⟩ | ⟨g, c, more, h1, hb, _⟩
    · injection h1 with h1 _ _
      subst h1
      exact run_convert_bytes_nil w 111 5 undB undU8 _ _ 9 undStr
    · injection h1 with h1 _ _
      subst h1
      have := run_convert_bytes_arg w 111 5 undB undU8 g 0 0 cap [] rfl (fun i hi => absurd hi (by omega)) 9 undStr
      exact this
  | cons b bs =>
    obtain ⟨g, off, rfl, hg, hc⟩ := hp (by simp)
    have := run_convert_bytes_arg w 111 5 undB undU8 g off (b :: bs).length cap ((b :: bs).map fun x => (x.toNat : Int)) (by simp) (fun i hi => by
      rw [hc i hi, bys_get _ i hi, map_getD _ i hi]) 9 undStr
    rw [strOfNums_bytes] at this
    exact this
/-- i places at each end exchanged -/
def rv (L : List UInt8) (i : Nat) : List UInt8 := (List.range L.length).map fun j => if j < i ∨ L.length ≤ j + i then L.getD (L.length - 1 - j) 0 else L.getD j 0
theorem rv_length (L : List UInt8) (i : Nat) : (rv L i).length = L.length := by simp [rv]
theorem rv_get (L : List UInt8) (i j : Nat) (hj : j < L.length) : (rv L i).getD j 0 = if j < i ∨ L.length ≤ j + i then L.getD (L.length - 1 - j) 0 else L.getD j 0 := by
  unfold rv
  rw [List.getD_eq_getElem?_getD, List.getElem?_map, List.getElem?_range hj]; rfl
theorem eq_getD {a b : List UInt8} (hl : a.length = b.length) (h : ∀ j, j < a.length → a.getD j 0 = b.getD j 0) : a = b := by
  apply List.ext_getElem hl
  intro j h1 h2
  have := h j h1
  rw [List.getD_eq_getElem?_getD, List.getD_eq_getElem?_getD, List.getElem?_eq_getElem h1, List.getElem?_eq_getElem h2] at this
  exact this
theorem rv_zero (L : List UInt8) : rv L 0 = L := by
  refine eq_getD (rv_length L 0) fun j hj => ?_
  rw [rv_length] at hj
  rw [rv_get L 0 j hj, if_neg (by omega)]
theorem getD_set (l : List UInt8) (i j : Nat) (x : UInt8) (hj : j < l.length) : (l.set i x).getD j 0 = if i = j then x else l.getD j 0 := by
  rw [List.getD_eq_getElem?_getD, List.getElem?_set, List.getD_eq_getElem?_getD]
  by_cases h : i = j
  · subst h; rw [if_pos rfl, if_pos hj, if_pos rfl]; rfl
  · rw [if_neg h, if_neg h]
theorem rv_step (L : List UInt8) (i : Nat) (h : 2 * i + 1 < L.length) :
    ((rv L i).set i (L.getD (L.length - 1 - i) 0)).set (L.length - 1 - i) (L.getD i 0) = rv L (i + 1) := by
  refine eq_getD (by simp [rv_length]) fun j hj => ?_
  simp only [List.length_set, rv_length] at hj
  rw [getD_set _ _ _ _ (by simpa [rv_length] using hj), getD_set _ _ _ _ (by simpa [rv_length] using hj), rv_get L i j hj, rv_get L (i + 1) j hj]
  by_cases h1 : L.length - 1 - i = j
  · rw [if_pos h1, if_pos (by omega)]
    congr 1
    omega
  · rw [if_neg h1]
    by_cases h2 : i = j
    · rw [if_pos h2, if_pos (by omega)]
      congr 1
      omega
    · rw [if_neg h2]
      by_cases h3 : j < i ∨ L.length ≤ j + i
      · rw [if_pos h3, if_pos (by omega)]
      · rw [if_neg h3, if_neg (by omega)]
theorem rv_done (L : List UInt8) (i : Nat) (h : L.length ≤ 2 * i + 1) : rv L i = L.reverse := by
  refine eq_getD (by simp [rv_length]) fun j hj => ?_
  rw [rv_length] at hj
  have e : L.reverse.getD j 0 = L.getD (L.length - 1 - j) 0 := by
    rw [List.getD_eq_getElem?_getD, List.getElem?_reverse hj, List.getD_eq_getElem?_getD]
  rw [e, rv_get L i j hj]
  by_cases h3 : j < i ∨ L.length ≤ j + i
  · rw [if_pos h3]
  · rw [if_neg h3]
    congr 1
    omega
/-- the middle places are as they were -/
theorem rv_in (L : List UInt8) (i j : Nat) (hj : j < L.length) (h1 : i ≤ j) (h2 : j + i < L.length) : (rv L i).getD j 0 = L.getD j 0 := by
  rw [rv_get L i j hj, if_neg (by omega)]
end Go.Proofs.YtmhmkhdgpfhnfaaGreatDoor.Ref
/- The reference's String. -/
namespace Go.Proofs.YtmhmkhdgpfhnfaaGreatDoor.Ref
open Go.RowKit Go.Lib

/-- so many digits stand in b, the last one first -/
structure StI (N B : Nat) (w1 wr : World) (m : Nat) (bv : Value) : Prop where
  own : Own 5 B wr bv (bys (revD N m))
  bel : Below B w1 wr
theorem StI.next {N B m i k v : Nat} {w1 wr w' : World} {bv bv' : Value} (h : StI N B w1 wr m bv) (hm : m = 9 * i + k) (hk : k < 9) (hv : N / 1000000000 ^ i % 1000000000 / 10 ^ k = v) (r : Nat) (hr : v % 10 = r)
    (ho : Own 5 B w' bv' (bys (revD N m) ++ [.int .u8 (48 + (r : Int))])) (hb : Below B wr w') : StI N B w1 w' (m + 1) bv' := by
  refine ⟨?_, h.bel.trans hb⟩
  rw [revD_succ, bys_append]
  have e : bys [dg N m] = [Value.int .u8 (48 + (r : Int))] := by
    show [Value.int .u8 (((dg N m).toNat : Nat) : Int)] = _
    rw [hm, dg_limb N i k v hk hv, hr]
    rfl
  rw [e]
  exact ho
theorem lit_of {T B e : Nat} {w : World} {v : Value} {L : List UInt8} (h : Own T B w v (bys L)) (hL : L.length = e + 1) :
    ∃ g cap more, v = .slice (some ⟨g, 0, none⟩) (e + 1) cap ∧ B ≤ g ∧ cap ≤ maxLen ∧ cap = (e + 1) + more.length ∧ Row T w g (bys L ++ more) := by
  rcases h.form_ with ⟨h1, h2⟩ | ⟨g, cap, more, h1, h2, h3, h4, h5, h6⟩
  · have := congrArg List.length h2
    rw [bys_length, hL] at this
    simp at this
  · rw [bys_length, hL] at h1 h5
    exact ⟨g, cap, more, h1, h2, h4, h5, h6⟩
set_option maxRecDepth 100000 in
set_option maxHeartbeats 4000000 in
theorem string_go (z : Int) (v1 : Value) (w : World) (h1 : Zv w v1 z) (hl : (limbs z.natAbs).length ≤ 100000) :
    Calls Tryz.prog 16 #[v1] w fun e w' => e = .returned (.string ⟨(itoa z).toArray⟩) ∧ Below w.heap.size w w' := by
  obtain ⟨p, c, rfl, h1⟩ := h1
  obtain ⟨b1, hb1⟩ : ∃ b, decide (z < 0) = b := ⟨_, rfl⟩
  obtain ⟨N, hN⟩ : ∃ N, z.natAbs = N := ⟨_, rfl⟩
  obtain ⟨n, hn⟩ : ∃ n, (limbs N).length = n := ⟨_, rfl⟩
  rw [hN, hn] at h1 hl
  have hb := (Below.refl w.heap.size w).alloc (Nat.le_refl _) (.cells #[.bool b1, .slice p n c] 34)
  have hrow := row_new 34 w #[.bool b1, .slice p n c]
  rw [hb1, hN, hn]
  by_cases hz : N = 0
  · have hn0 : n = 0 := by rw [← hn, hz, limbs_zero]; rfl
    have hz0 : z = 0 := by omega
    subst hn0 hz0
    have HB := Lib.hid hb
    have HE : Hid ((itoa 0).toArray = #[48]) := by
      show _ = _
      unfold itoa
      rw [if_neg (by omega), show (0 : Int).toNat = 0 from rfl, decDigits_one (by omega)]
      rfl
    clear hb1 hn h1 hb hrow hN hz hl
    go_enter Tryz.func16, Tryz.ntmps16
    go_wp2
    go_ret
    exact ⟨by rw [HE.out]; rfl, HB.out⟩
  · have hn0 : 0 < n := by
      have : n ≠ 0 := fun e => hz ((limbs_nil_iff N).1 (List.length_eq_zero_iff.1 (by rw [hn, e])))
      omega
    have gn0 : ¬ ((n : Int) = 0) := by omega
    obtain ⟨w1, hw1⟩ : ∃ w1, w.alloc (.cells #[.bool b1, .slice p n c] 34) = w1 := ⟨_, rfl⟩
    rw [hw1] at hb hrow
    obtain ⟨h, hh⟩ : ∃ h, w.heap.size = h := ⟨_, rfl⟩
    have hs1 : w1.heap.size = h + 1 := by rw [← hw1, ← hh]; simp
    have hL : LbA w1 (.slice p n c) (limbs N) := SlA.below h1 hb
    rw [hh] at hrow
    have q0 := hrow.cell 0
    have q1 := hrow.cell 1
    simp only [List.getElem?_cons_zero, List.getElem?_cons_succ] at q0 q1
    have HROW := Lib.hid hrow
    have HBW := Lib.hid hb
    have HH := Lib.hid hh
    have HS1 := Lib.hid hs1
    have HL := Lib.hid hL
    have HN := Lib.hid hn
    have HZ := Lib.hid hz
    have HB1 := Lib.hid (And.intro hb1 hN)
    have HW1 := Lib.hid hw1
    clear hb hrow hs1 hL h1 hn hz hb1 hN
    go_enter Tryz.func16, Tryz.ntmps16
    go_upto_region 3 with (fail)
    clear hh hw1
    go_wp2_with fail
    go_loopg [3, 4] n (fun k bv iv wr => ∃ i : Nat, iv = .int .i64 (i : Nat) ∧ k = n - i ∧ i ≤ n ∧ StI N (h + 1) w1 wr (9 * i) bv)
    case atStart => exact ⟨0, rfl, rfl, Nat.zero_le _, ⟨World.ownsRow_nil _ _ _ _, Below.refl _ _⟩⟩
    case round =>
      obtain ⟨i, rfl, hk, hi, hI⟩ := hrel
      have HI := Lib.hid hI
      have hbb := hI.bel
      have k0 : wr.cell? ⟨h, 0, none⟩ = some (.bool b1) := (hbb.cell (p := ⟨h, 0, none⟩) (Nat.lt_succ_self h)).trans q0
      have k1 : wr.cell? ⟨h, 1, none⟩ = some (.slice p n c) := (hbb.cell (p := ⟨h, 1, none⟩) (Nat.lt_succ_self h)).trans q1
      have HK := Lib.hid hk
      clear hI hbb hk
      by_cases hlt : i < n
      · obtain ⟨ad, cap', hv, hl1, hl2, had, hcell⟩ := HL.out.at_ i (by rw [HN.out]; exact hlt)
        injection hv with e1 e2 e3
        subst e1 e3
        rw [limbs_at] at hcell
        have hcw : wr.cell? (ad.add i) = some (.int .i64 ((N / 1000000000 ^ i % 1000000000 : Nat) : Int)) := (HI.out.bel.cell (p := ad.add i) (by rw [block_add, ← HS1.out]; exact had)).trans hcell
        have hd9 : N / 1000000000 ^ i % 1000000000 < 1000000000 := Nat.mod_lt _ (by omega)
        obtain ⟨d, hd⟩ : ∃ d, N / 1000000000 ^ i % 1000000000 = d := ⟨_, rfl⟩
        rw [hd] at hcw hd9
        have HD := Lib.hid hd
        have gil : (i : Int) < (n : Int) := by omega
        have gwi : IntKind.i64.wrap ((i : Int) + 1) = (i : Int) + 1 := by rw [show (i : Int) + 1 = ((i + 1 : Nat) : Int) by omega]; exact IntWalk.i64_in _ (by omega)
        clear hcell hd hl1 hl2 e2 had
        go_wp2_with fail
        go_loopg [3, 5, 6] 9 (fun k bv vv kv wi => ∃ (j v : Nat), kv = .int .i64 (j : Nat) ∧ vv = .int .i64 (v : Nat) ∧ k = 9 - j ∧ j ≤ 9 ∧ d / 10 ^ j = v ∧ StI N (h + 1) w1 wi (9 * i + j) bv)
        case atStart => exact ⟨0, d, rfl, rfl, rfl, by omega, by simp, HI.out⟩
        case round =>
          clear hcw HI k0 k1
          obtain ⟨j, v, rfl, rfl, hk, hj, hv, hI⟩ := hrel
          have HI := Lib.hid hI
          have HKJ := Lib.hid hk
          have HV := Lib.hid hv
          have hv9 : v < 1000000000 := by rw [← hv]; exact Nat.lt_of_le_of_lt (Nat.div_le_self _ _) hd9
          clear hI hk hv
          by_cases hj9 : j < 9
          · have gj : (j : Int) < 9 := by omega
            have gwj : IntKind.i64.wrap ((j : Int) + 1) = (j : Int) + 1 := by rw [show (j : Int) + 1 = ((j + 1 : Nat) : Int) by omega]; exact IntWalk.i64_in _ (by omega)
            have grem : (v : Int).tmod 10 = ((v % 10 : Nat) : Int) := tmodN v 10
            have gquo : (v : Int).tdiv 10 = ((v / 10 : Nat) : Int) := tdivN v 10
            obtain ⟨r, hr⟩ : ∃ r, v % 10 = r := ⟨_, rfl⟩
            obtain ⟨q, hq⟩ : ∃ q, v / 10 = q := ⟨_, rfl⟩
            rw [hr] at grem
            rw [hq] at gquo
            have hr9 : r < 10 := by omega
            have hq9 : q < 1000000000 := by omega
            have HR := Lib.hid hr
            have HQ := Lib.hid hq
            have gw48 : IntKind.i64.wrap (48 + (r : Int)) = 48 + (r : Int) := IntWalk.i64_in _ (by omega)
            have gw8 : IntKind.u8.wrap (48 + (r : Int)) = 48 + (r : Int) := by rw [IntKind.wrap_u8]; omega
            have HLN := Lib.hid (show (bys (revD N (9 * i + j))).length ≤ 1000000 by rw [bys_length, revD_length]; omega)
            have HBS := Lib.hid (show h + 1 ≤ wr.heap.size by have h1 := HI.out.bel.size; rw [HS1.out] at h1; exact h1)
            clear hr hq hj9
            go_wp2_with (at_builtin; refine wpList_append_box wr rfl (.tmp 30) (.tmp 35) 111 rfl 5 (.int .u8 0) 1 undB infoB rfl (by omega) (h + 1) u3 (bys (revD N (9 * i + j))) rfl HI.out.own (.int .u8 (48 + (r : Int))) rfl rfl HLN.out HBS.out ?_; intro v2 w2 hown2 hb2 hrest; have HO2 := Lib.hid hown2; have HB2 := Lib.hid hb2; clear hown2 hb2 hrest)
            go_roundg (9 - (j + 1))
            case measure => rw [HKJ.out]; omega
            case rel =>
              exact ⟨j + 1, q, by go_num, by go_num, rfl, by omega, by rw [Nat.pow_succ, ← Nat.div_div_eq_div_mul, HV.out, HQ.out], HI.out.next rfl (by omega) (by rw [HD.out]; exact HV.out) r HR.out HO2.out HB2.out⟩
          · obtain rfl : j = 9 := by omega
            have k0 : wr.cell? ⟨h, 0, none⟩ = some (.bool b1) := (HI.out.bel.cell (p := ⟨h, 0, none⟩) (Nat.lt_succ_self h)).trans q0
            clear hj9
            go_wp2_with fail
            go_roundg (n - (i + 1))
            case measure => rw [HK.out]; omega
            case rel => exact ⟨i + 1, by go_num, rfl, by omega, HI.out⟩
      · have hin : n = i := by omega
        subst hin
        obtain ⟨M, hM⟩ : ∃ M, 9 * n = M := ⟨_, rfl⟩
        have HM := Lib.hid hM
        have hbel := HI.out.bel
        have hown := HI.out.own
        rw [hM] at hown
        have hne : bys (revD N M) ≠ [] := fun e => by have := congrArg List.length e; rw [bys_length, revD_length] at this; simp at this; omega
        obtain ⟨g, cap, more, hv, hg, hcm, hcap, hrg⟩ : ∃ g cap more, u3 = .slice (some ⟨g, 0, none⟩) M cap ∧ h + 1 ≤ g ∧ cap ≤ maxLen ∧ cap = M + more.length ∧ Row 5 wr g (bys (revD N M) ++ more) := by
          rcases hown.form_ with ⟨h1, h2⟩ | ⟨g, cap, more, h1, h2, h3, h4, h5, h6⟩
          · exact absurd h2 hne
          · rw [bys_length, revD_length] at h1 h5
            exact ⟨g, cap, more, h1, h2, h4, h5, h6⟩
        subst hv
        have HRG := Lib.hid hrg
        have HBEL := Lib.hid hbel
        have HCAP := Lib.hid (And.intro hg (And.intro hcm hcap))
        have hDM : nDigits N ≤ M := by
          rw [← hM]
          refine nDigits_le ?_ (by omega)
          have := val_lt (limbs N) (Lo_limbs N)
          rw [val_limbs, HN.out] at this
          rw [Nat.pow_mul]
          exact this
        have hD0 := nDigits_pos N
        have HTOP := Lib.hid (dg_top HZ.out)
        have HZER := Lib.hid (fun (j : Nat) (hj : nDigits N ≤ j) => dg_zero hj)
        have HREV := Lib.hid (revD_rev N)
        obtain ⟨D, hD⟩ : ∃ D, nDigits N = D := ⟨_, rfl⟩
        rw [hD] at hDM hD0 HTOP HZER HREV
        have hcl : M ≤ cap := by omega
        have hcl9 : cap ≤ 9223372036854775807 := hcm
        obtain ⟨wo, hwo⟩ : ∃ wo : World, wo = wr := ⟨_, rfl⟩
        subst hwo
        have hM9 : M ≤ 900000 := by omega
        clear hrg hbel hg hcm hcap hown hne hD HI hM HK hlt hi
        go_wp2_with fail
        go_loopg [3] (M - D) (fun k bv wi => ∃ m : Nat, bv = .slice (some ⟨g, 0, none⟩) m cap ∧ wi = wo ∧ k = m - D ∧ D ≤ m ∧ m ≤ M)
        case atStart => exact ⟨M, rfl, rfl, rfl, hDM, Nat.le_refl _⟩
        case round =>
          obtain ⟨m, rfl, hwi, hk, hm1, hm2⟩ := hrel
          subst hwi
          obtain ⟨j, rfl⟩ : ∃ j, m = j + 1 := ⟨m - 1, by omega⟩
          have hcell := HRG.out.cell j
          rw [List.getElem?_append_left (by rw [bys_length, revD_length]; omega), bys_get _ _ (by rw [revD_length]; omega)] at hcell
          have hdg : (revD N M).getD j 0 = dg N j := by
            unfold revD
            rw [List.getD_eq_getElem?_getD, List.getElem?_map, List.getElem?_range (by omega)]; rfl
          rw [hdg] at hcell
          have HK := Lib.hid hk
          have ge1 : ((j + 1 : Nat) : Int) - 1 = (j : Int) := by omega
          have gwj : IntKind.i64.wrap (j : Int) = (j : Int) := IntWalk.i64_in _ (by omega)
          by_cases hjD : D = j + 1
          · have hx := HTOP.out
            rw [hjD, Nat.add_sub_cancel] at hx
            obtain ⟨x, hx'⟩ : ∃ x, (dg N j).toNat = x := ⟨_, rfl⟩
            rw [hx'] at hx hcell
            have gx : ¬ ((x : Int) = 48) := by omega
            clear hx' hdg hx
            go_upto_region 15 with (fail)
            have hOW := Own.of_row (T := 5) (base := h + 1) (w := wr) (g := g) (cap := cap) (xs := bys (revD N D)) (more := (bys (revD N M)).drop D ++ more) (by
              rw [← List.append_assoc]
              have : bys (revD N D) ++ (bys (revD N M)).drop D = bys (revD N M) := by
                conv => rhs; rw [← List.take_append_drop D (bys (revD N M))]
                congr 1
                unfold bys Lib.byteCells
                rw [← List.map_take, revD_take N M D hDM]
              rw [this]
              exact HRG.out) HCAP.out.1 HCAP.out.2.1 (by rw [List.length_append, List.length_drop, bys_length, bys_length, revD_length, revD_length, HCAP.out.2.2]; omega)
            rw [bys_length, revD_length] at hOW
            have HOWN := Lib.hid hOW
            have HJD := Lib.hid hjD
            rw [← hjD]
            clear hOW hcell gx hm1 hm2 hk ge1 gwj hjD
            rcases hb : b1 with _ | _
            · -- no sign
              obtain rfl : b1 = false := hb
              go_upto_region 17 with (fail)
              obtain ⟨e, he⟩ : ∃ e, D = e + 1 := ⟨D - 1, by omega⟩
              subst he
              obtain ⟨L, hL⟩ : ∃ L, revD N (e + 1) = L := ⟨_, rfl⟩
              have hLe : L.length = e + 1 := by rw [← hL, revD_length]
              have HE : Hid (L.reverse = itoa z) := by
                show _ = _
                have hz := HB1.out
                unfold itoa
                rw [if_neg (of_decide_eq_false hz.1), ← hL, HREV.out, show z.toNat = N by rw [← hz.2]; have := of_decide_eq_false hz.1; omega]
              obtain ⟨w2, hw2⟩ : ∃ w2 : World, w2 = wr := ⟨_, rfl⟩
              subst hw2
              have HB2 := HBEL
              have hO3 : Own 5 (h + 1) w2 (.slice (some ⟨g, 0, none⟩) (e + 1) cap) (bys L) := by
                rw [← hL]
                exact HOWN.out
              obtain ⟨g2, cap2, more2, hv, hg2, hcm2, hcap2, hrg2⟩ := lit_of hO3 hLe
              injection hv with hv1 _ hv3
              injection hv1 with hv1
              injection hv1 with hv1
              replace hv1 := hv1.symm
              replace hv3 := hv3.symm
              subst hv1 hv3
              have HRG2 := Lib.hid hrg2
              have HCAP2 := Lib.hid (And.intro hg2 (And.intro hcm2 hcap2))
              have HLE := Lib.hid hLe
              have he9 : e ≤ 900001 := by omega
              have gwe : IntKind.i64.wrap (e : Int) = (e : Int) := IntWalk.i64_in _ (by omega)
              have ge1 : ((e + 1 : Nat) : Int) - 1 = (e : Int) := by omega
              have hcl2 : e + 1 ≤ cap2 := by omega
              have hcl29 : cap2 ≤ 9223372036854775807 := hcm2
              clear hg2 hcm2 hcap2 hrg2 hLe hO3 hL
              go_wp2_with fail
              go_loopg [7, 8] (e + 1) (fun k iv kv wi => ∃ i kk : Nat, iv = .int .i64 (i : Nat) ∧ kv = .int .i64 (kk : Nat) ∧ k = kk + 1 ∧ kk + i = e ∧ Row 5 wi g2 (bys (rv L i) ++ more2) ∧ Below (h + 1) w1 wi)
              case atStart => exact ⟨0, e, rfl, by go_num, rfl, rfl, by rw [rv_zero]; exact HRG2.out, HB2.out⟩
              case round =>
                obtain ⟨i, kk, rfl, rfl, hk, hik, hr, hb⟩ := hrel
                have HRW := Lib.hid hr
                have HBB := Lib.hid hb
                have HK := Lib.hid hk
                clear hr hb hk
                by_cases hlt : i < kk
                · have gik : (i : Int) < (kk : Int) := by omega
                  have gi1 : (i : Int) < ((e + 1 : Nat) : Int) := by omega
                  have gk1 : (kk : Int) < ((e + 1 : Nat) : Int) := by omega
                  have gwi : IntKind.i64.wrap ((i : Int) + 1) = (i : Int) + 1 := by rw [show (i : Int) + 1 = ((i + 1 : Nat) : Int) by omega]; exact IntWalk.i64_in _ (by omega)
                  have gwk : IntKind.i64.wrap ((kk : Int) - 1) = (kk : Int) - 1 := IntWalk.i64_in _ (by omega)
                  have hlen : (bys (rv L i)).length = e + 1 := by rw [bys_length, rv_length, HLE.out]
                  have c1 := HRW.out.cell i
                  have c2 := HRW.out.cell kk
                  rw [List.getElem?_append_left (by rw [hlen]; omega), bys_get _ _ (by rw [rv_length, HLE.out]; omega), rv_in L i _ (by rw [HLE.out]; omega) (by omega) (by rw [HLE.out]; omega)] at c1 c2
                  have f1 := HRW.out.free i
                  obtain ⟨x, hx⟩ : ∃ x, (L.getD i 0).toNat = x := ⟨_, rfl⟩
                  obtain ⟨y, hy⟩ : ∃ y, (L.getD kk 0).toNat = y := ⟨_, rfl⟩
                  rw [hx] at c1
                  rw [hy] at c2
                  have hr1 := HRW.out.store i (.int .u8 ((y : Nat) : Int))
                  have f3 := hr1.free kk
                  have c3 := hr1.cell kk
                  rw [List.getElem?_set_ne (by omega), ← HRW.out.cell kk, c2] at c3
                  have hr2 := hr1.store kk (.int .u8 ((x : Nat) : Int))
                  have hee : ((bys (rv L i) ++ more2).set i (.int .u8 ((y : Nat) : Int))).set kk (.int .u8 ((x : Nat) : Int)) = bys (rv L (i + 1)) ++ more2 := by
                    rw [List.set_append_left _ _ (by rw [hlen]; omega), List.set_append_left _ _ (by rw [List.length_set, hlen]; omega), ← hx, ← hy, bys_set, bys_set]
                    congr 2
                    have := rv_step L i (by rw [HLE.out]; omega)
                    rw [HLE.out, show e + 1 - 1 - i = kk by omega] at this
                    exact this
                  rw [hee] at hr2
                  have HR2 := Lib.hid hr2
                  have HB3 : Hid (Below (h + 1) w1 ((wr.setCell ⟨g2, i, none⟩ (.int .u8 ((y : Nat) : Int))).setCell ⟨g2, kk, none⟩ (.int .u8 ((x : Nat) : Int)))) := (HBB.out.setCell (p := ⟨g2, i, none⟩) HCAP2.out.1 _).setCell (p := ⟨g2, kk, none⟩) HCAP2.out.1 _
                  clear hr1 hr2 hee hlen hx hy hlt
                  go_wp2_with fail
                  go_roundg kk
                  case measure => rw [HK.out]; omega
                  case rel => exact ⟨i + 1, kk - 1, by go_num, by rw [show ((kk - 1 : Nat) : Int) = (kk : Int) - 1 by omega], by omega, by omega, HR2.out, HB3.out⟩
                · have gik : ¬ ((i : Int) < (kk : Int)) := by omega
                  have hrv : rv L i = L.reverse := rv_done L i (by rw [HLE.out]; omega)
                  have hrw := HRW.out
                  rw [hrv] at hrw
                  have hlen : (bys L.reverse).length = e + 1 := by rw [bys_length, List.length_reverse, HLE.out]
                  have hO4 := Own.of_row (base := h + 1) hrw HCAP2.out.1 HCAP2.out.2.1 (by rw [hlen]; exact HCAP2.out.2.2)
                  rw [hlen] at hO4
                  have hconv := str_of hO4
                  rw [HE.out] at hconv
                  obtain ⟨S, hS⟩ : ∃ S : ByteArray, ⟨(itoa z).toArray⟩ = S := ⟨_, rfl⟩
                  rw [hS] at hconv
                  have HSS := Lib.hid hS
                  have HRET : Hid (Below w.heap.size w wr) := by
                    show Below _ _ _
                    have := HBB.out.mono (show w.heap.size ≤ h + 1 by rw [HH.out]; omega)
                    exact HBW.out.trans this
                  clear hrv hrw hlen hO4 hS hlt
                  go_wp2_with fail
                  go_ret
                  exact ⟨by rw [HSS.out]; rfl, HRET.out⟩
            · -- a sign
              obtain rfl : b1 = true := hb
              have HLN := Lib.hid (show (bys (revD N D)).length ≤ 1000000 by rw [bys_length, revD_length]; omega)
              have HBS := Lib.hid (show h + 1 ≤ wr.heap.size by have h1 := HBEL.out.size; rw [HS1.out] at h1; exact h1)
              obtain ⟨L, hL⟩ : ∃ L, revD N D ++ [45] = L := ⟨_, rfl⟩
              have hLe : L.length = D + 1 := by rw [← hL, List.length_append, revD_length]; rfl
              have HE : Hid (L.reverse = itoa z) := by
                show _ = _
                have hz := HB1.out
                unfold itoa
                rw [if_pos (of_decide_eq_true hz.1), ← hL, List.reverse_append, HREV.out, hz.2]
                rfl
              obtain ⟨e, he⟩ : ∃ e, D = e := ⟨_, rfl⟩
              rw [he] at hLe
              have HLE := Lib.hid hLe
              have HLL := Lib.hid hL
              have he9 : e ≤ 900001 := by omega
              have gwe : IntKind.i64.wrap (e : Int) = (e : Int) := IntWalk.i64_in _ (by omega)
              have ge1 : ((e + 1 : Nat) : Int) - 1 = (e : Int) := by omega
              clear hL hLe he
              go_wp2_with (first | (at_builtin; refine wpList_append_box wr rfl (.tmp 53) (.tmp 54) 111 rfl 5 (.int .u8 0) 1 undB infoB rfl (by omega) (h + 1) (.slice (some ⟨g, 0, none⟩) D cap) (bys (revD N D)) rfl HOWN.out (.int .u8 45) rfl rfl HLN.out HBS.out ?_; intro v2 w2 hown2 hb2 hrest; have HB2 := Lib.hid (HBEL.out.trans hb2); have hO3 : Own 5 (h + 1) w2 v2 (bys L) := (by rw [← HLL.out, bys_append]; exact hown2); obtain ⟨g2, cap2, more2, hv, hg2, hcm2, hcap2, hrg2⟩ := lit_of hO3 HLE.out; subst hv; have HRG2 := Lib.hid hrg2; have HCAP2 := Lib.hid (And.intro hg2 (And.intro hcm2 hcap2)); have hcl2 : e + 1 ≤ cap2 := Nat.le_trans (Nat.le_add_right _ _) (Nat.le_of_eq hcap2.symm); have hcl29 : cap2 ≤ 9223372036854775807 := hcm2; clear hown2 hb2 hrest hg2 hcm2 hcap2 hrg2 hO3))
              go_loopg [7, 8] (e + 1) (fun k iv kv wi => ∃ i kk : Nat, iv = .int .i64 (i : Nat) ∧ kv = .int .i64 (kk : Nat) ∧ k = kk + 1 ∧ kk + i = e ∧ Row 5 wi g2 (bys (rv L i) ++ more2) ∧ Below (h + 1) w1 wi)
              case atStart => exact ⟨0, e, rfl, by go_num, rfl, rfl, by rw [rv_zero]; exact HRG2.out, HB2.out⟩
              case round =>
                obtain ⟨i, kk, rfl, rfl, hk, hik, hr, hb⟩ := hrel
                have HRW := Lib.hid hr
                have HBB := Lib.hid hb
                have HK := Lib.hid hk
                clear hr hb hk
                by_cases hlt : i < kk
                · have gik : (i : Int) < (kk : Int) := by omega
                  have gi1 : (i : Int) < ((e + 1 : Nat) : Int) := by omega
                  have gk1 : (kk : Int) < ((e + 1 : Nat) : Int) := by omega
                  have gwi : IntKind.i64.wrap ((i : Int) + 1) = (i : Int) + 1 := by rw [show (i : Int) + 1 = ((i + 1 : Nat) : Int) by omega]; exact IntWalk.i64_in _ (by omega)
                  have gwk : IntKind.i64.wrap ((kk : Int) - 1) = (kk : Int) - 1 := IntWalk.i64_in _ (by omega)
                  have hlen : (bys (rv L i)).length = e + 1 := by rw [bys_length, rv_length, HLE.out]
                  have c1 := HRW.out.cell i
                  have c2 := HRW.out.cell kk
                  rw [List.getElem?_append_left (by rw [hlen]; omega), bys_get _ _ (by rw [rv_length, HLE.out]; omega), rv_in L i _ (by rw [HLE.out]; omega) (by omega) (by rw [HLE.out]; omega)] at c1 c2
                  have f1 := HRW.out.free i
                  obtain ⟨x, hx⟩ : ∃ x, (L.getD i 0).toNat = x := ⟨_, rfl⟩
                  obtain ⟨y, hy⟩ : ∃ y, (L.getD kk 0).toNat = y := ⟨_, rfl⟩
                  rw [hx] at c1
                  rw [hy] at c2
                  have hr1 := HRW.out.store i (.int .u8 ((y : Nat) : Int))
                  have f3 := hr1.free kk
                  have c3 := hr1.cell kk
                  rw [List.getElem?_set_ne (by omega), ← HRW.out.cell kk, c2] at c3
                  have hr2 := hr1.store kk (.int .u8 ((x : Nat) : Int))
                  have hee : ((bys (rv L i) ++ more2).set i (.int .u8 ((y : Nat) : Int))).set kk (.int .u8 ((x : Nat) : Int)) = bys (rv L (i + 1)) ++ more2 := by
                    rw [List.set_append_left _ _ (by rw [hlen]; omega), List.set_append_left _ _ (by rw [List.length_set, hlen]; omega), ← hx, ← hy, bys_set, bys_set]
                    congr 2
                    have := rv_step L i (by rw [HLE.out]; omega)
                    rw [HLE.out, show e + 1 - 1 - i = kk by omega] at this
                    exact this
                  rw [hee] at hr2
                  have HR2 := Lib.hid hr2
                  have HB3 : Hid (Below (h + 1) w1 ((wr.setCell ⟨g2, i, none⟩ (.int .u8 ((y : Nat) : Int))).setCell ⟨g2, kk, none⟩ (.int .u8 ((x : Nat) : Int)))) := (HBB.out.setCell (p := ⟨g2, i, none⟩) HCAP2.out.1 _).setCell (p := ⟨g2, kk, none⟩) HCAP2.out.1 _
                  clear hr1 hr2 hee hlen hx hy hlt
                  go_wp2_with fail
                  go_roundg kk
                  case measure => rw [HK.out]; omega
                  case rel => exact ⟨i + 1, kk - 1, by go_num, by rw [show ((kk - 1 : Nat) : Int) = (kk : Int) - 1 by omega], by omega, by omega, HR2.out, HB3.out⟩
                · have gik : ¬ ((i : Int) < (kk : Int)) := by omega
                  have hrv : rv L i = L.reverse := rv_done L i (by rw [HLE.out]; omega)
                  have hrw := HRW.out
                  rw [hrv] at hrw
                  have hlen : (bys L.reverse).length = e + 1 := by rw [bys_length, List.length_reverse, HLE.out]
                  have hO4 := Own.of_row (base := h + 1) hrw HCAP2.out.1 HCAP2.out.2.1 (by rw [hlen]; exact HCAP2.out.2.2)
                  rw [hlen] at hO4
                  have hconv := str_of hO4
                  rw [HE.out] at hconv
                  obtain ⟨S, hS⟩ : ∃ S : ByteArray, ⟨(itoa z).toArray⟩ = S := ⟨_, rfl⟩
                  rw [hS] at hconv
                  have HSS := Lib.hid hS
                  have HRET : Hid (Below w.heap.size w wr) := by
                    show Below _ _ _
                    have := HBB.out.mono (show w.heap.size ≤ h + 1 by rw [HH.out]; omega)
                    exact HBW.out.trans this
                  clear hrv hrw hlen hO4 hS hlt
                  go_wp2_with fail
                  go_ret
                  exact ⟨by rw [HSS.out]; rfl, HRET.out⟩
          · have hx := HZER.out j (by omega)
            rw [hx] at hcell
            replace hcell : wr.cell? ⟨g, j, none⟩ = some (.int .u8 48) := hcell
            clear hdg hx
            go_wp2_with fail
            go_roundg (j - D)
            case measure => rw [HK.out]; omega
            case rel => exact ⟨j, rfl, rfl, rfl, by omega, by omega⟩
end Go.Proofs.YtmhmkhdgpfhnfaaGreatDoor.Ref
