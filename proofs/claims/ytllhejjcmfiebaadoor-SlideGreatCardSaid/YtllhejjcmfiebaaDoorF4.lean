/- The reference's rank, Factorial, First. -/
import Derived.Test.YtllhejjcmfiebaaDoorB5
import Derived.Test.YtllhejjcmfiebaaDoorS36
import Derived.Test.YtllhejjcmfiebaaDoorQR
set_option linter.unusedVariables false
set_option linter.unusedSimpArgs false
set_option linter.unnecessarySimpa false
namespace Go.Proofs.YtllhejjcmfiebaaDoor
open Go.RowKit Go.Shelf
theorem fact_mono {a b : Nat} (h : a ≤ b) : fact a ≤ fact b := by
 induction b with
 | zero => have : a = 0 := by omega
           subst this; exact Nat.le_refl _
 | succ b ih =>
  by_cases he : a = b + 1
  ·subst he; exact Nat.le_refl _
  ·have h1 := ih (by omega)
   have h2 : fact b * 1 ≤ fact b * (b + 1) := Nat.mul_le_mul_left _ (by omega)
   show fact a ≤ fact b * (b + 1)
   omega
theorem fact9 : fact 9 = 362880 := by decide
theorem lessN_snoc (x y : Int) (l : List Int) : lessN x (l ++ [y]) = lessN x l + if y < x then 1 else 0 := by
 unfold lessN
 rw [List.countP_append, List.countP_singleton]
 by_cases h : y < x <;> simp [h]
set_option maxRecDepth 100000 in
set_option maxHeartbeats 2000000 in
theorem rank_go (v : Value) (p : List Int) (w : World) (hp : SlA w v (ints p)) (h9 : p.length ≤ 9) :
  Calls Tryd.prog 64 #[v] w fun e w' => e = .returned (.int .i64 (rankL p : Nat)) ∧ Below w.heap.size w w' := by
 have hRL : rankL p < 362880 := by
  have h1 := rankL_lt p
  have h2 := fact_mono h9
  rw [fact9] at h2; omega
 have HL := Lib.hid hp
 obtain ⟨q, c, rfl, hc1, hc2⟩ := hp.form
 have H0 : Hid (0 * fact (p.length - 0) + rankL (p.drop 0) = rankL p) := by show _ = _; simp
 obtain ⟨R, hR⟩ : ∃ R, rankL p = R := ⟨_, rfl⟩
 have HSTEP := Lib.hid (fun (i out : Nat) (hi : i < p.length) (h : out * fact (p.length - i) + rankL (p.drop i) = rankL p) => rank_step hi h)
 rw [hR] at hRL H0 HSTEP ⊢
 clear hp hR
 go_enter Tryd.func64, Tryd.ntmps64
 go_wp2
 go_loopw [3, 4] (fun ov i wr => ∃ k o : Nat, k ≤ p.length ∧ i = .int .i64 k ∧ ov = .int .i64 o ∧ o * fact (p.length - k) + rankL (p.drop k) = R ∧ Below w.heap.size w wr) (fun _ i _ => p.length - (intOf i).toNat)
 case atStart => exact ⟨0, 0, Nat.zero_le _, rfl, rfl, H0.out, Below.refl _ _⟩
 case round =>
  obtain ⟨k, o, hk, rfl, rfl, ho, hbel⟩ := hrel
  by_cases hlt : k < p.length
  ·have hnx := HSTEP.out k o hlt ho
   obtain ⟨ad, cap', hv, _, _, hg, hck⟩ := (HL.out.below hbel).int_at k hlt
   cases hv
   obtain ⟨x, hx⟩ : ∃ x, p.getD k 0 = x := ⟨_, rfl⟩
   rw [hx] at hnx hck
   obtain ⟨D, hD⟩ : ∃ D, p.drop (k + 1) = D := ⟨_, rfl⟩
   have hDl : D.length = p.length - (k + 1) := by rw [← hD, List.length_drop]
   have hDat : ∀ m, m < D.length → D.getD m 0 = p.getD (k + 1 + m) 0 := fun m hm => by
    rw [← hD, List.getD_eq_getElem?_getD, List.getD_eq_getElem?_getD, List.getElem?_drop]
   rw [hD] at hnx
   have HD := Lib.hid hD
   have HNX := Lib.hid hnx
   have HDL := Lib.hid hDl
   have HDAT := Lib.hid hDat
   have HB := Lib.hid hbel
   have HCK := Lib.hid hck
   have HG := Lib.hid hg
   have ho1 : o < 362880 := by
    have h1 : o * 1 ≤ o * fact (p.length - k) := Nat.mul_le_mul_left _ (fact_pos _)
    omega
   have gk1 : IntKind.i64.wrap ((k : Int) + 1) = ((k + 1 : Nat) : Int) := by rw [show (k : Int) + 1 = ((k + 1 : Nat) : Int) by omega]; exact IntWalk.i64_in _ (by omega)
   have gk : (k : Int) < (p.length : Int) := by omega
   clear hnx hDl hDat hbel hck hg hD ho hx
   obtain ⟨wo, hwo⟩ : ∃ wo : World, wo = wr := ⟨_, rfl⟩
   subst hwo
   go_wp2
   go_loopw [5, 6] (fun cv t wr => ∃ m : Nat, m ≤ D.length ∧ t = .int .i64 ((k + 1 + m : Nat) : Int) ∧ cv = .int .i64 (lessN x (D.take m) : Nat) ∧ Below wo.heap.size wo wr) (fun _ t _ => p.length - (intOf t).toNat)
   case atStart => exact ⟨0, Nat.zero_le _, rfl, rfl, Below.refl _ _⟩
   case round =>
    obtain ⟨m, hm, rfl, rfl, hb2⟩ := hrel
    have hDL := HDL.out
    by_cases hml : m < D.length
    ·obtain ⟨t, ht⟩ : ∃ t, k + 1 + m = t := ⟨_, rfl⟩
     have htl : t < p.length := by omega
     obtain ⟨ad2, cap2, hv, _, _, hg2, hct⟩ := (HL.out.below (HB.out.trans (hb2.mono HB.out.size))).int_at t htl
     cases hv
     have hck : wr.cell? (ad.add k) = some (.int .i64 x) := (hb2.cell (p := ad.add k) (by rw [block_add]; exact HG.out)).trans HCK.out
     have hy := HDAT.out m hml
     rw [ht] at hy
     have hsn : lessN x (D.take (m + 1)) = lessN x (D.take m) + if D.getD m 0 < x then 1 else 0 := by
      rw [List.take_succ_eq_append_getElem hml, lessN_snoc, List.getD_eq_getElem?_getD, List.getElem?_eq_getElem hml]; rfl
     rw [hy] at hsn
     obtain ⟨y, hyy⟩ : ∃ y, p.getD t 0 = y := ⟨_, rfl⟩
     rw [hyy] at hct hsn
     have hle := lessN_le x (D.take m)
     rw [List.length_take] at hle
     obtain ⟨cc, hcc⟩ : ∃ cc, lessN x (D.take m) = cc := ⟨_, rfl⟩
     rw [hcc] at hsn hle ⊢
     have HSN := Lib.hid hsn
     have HB2 := Lib.hid hb2
     have HT := Lib.hid ht
     rw [ht]
     have gt : (t : Int) < (p.length : Int) := by omega
     have hc9 : cc ≤ 9 := by omega
     clear hsn hb2 ht hy hyy hcc hle
     by_cases hyx : y < x
     ·go_wp2
      go_quiet (fail)
      go_wp2
      go_roundw
      case rel => exact ⟨m + 1, by omega, by rw [← Nat.add_assoc, HT.out]; go_num, by rw [HSN.out, if_pos hyx]; go_num, bdN HB2.out _⟩
      case measure => simp [intOf]; omega
     ·have HYX := Lib.hid hyx
      go_wp2
      go_quiet (fail)
      go_wp2
      go_roundw
      case rel => exact ⟨m + 1, by omega, by rw [← Nat.add_assoc, HT.out]; go_num, by rw [HSN.out, if_neg (show ¬ y < x by have := HYX.out; omega)]; rfl, bdN HB2.out _⟩
      case measure => simp [intOf]; omega
    ·obtain rfl : m = D.length := by omega
     rw [List.take_length]
     obtain ⟨t, ht⟩ : ∃ t, k + 1 + D.length = t := ⟨_, rfl⟩
     obtain ⟨r, hr⟩ : ∃ r, p.length - k = r := ⟨_, rfl⟩
     have hnx := HNX.out
     obtain ⟨cc, hcc⟩ : ∃ cc, lessN x D = cc := ⟨_, rfl⟩
     rw [hr, hcc] at hnx
     obtain ⟨m1, hm1⟩ : ∃ m1, o * r = m1 := ⟨_, rfl⟩
     rw [hm1] at hnx
     have hmi : (o : Int) * (r : Int) = (m1 : Int) := by rw [← hm1, Int.natCast_mul]
     have hbd : m1 + cc < 362880 := by
      have h1 : (m1 + cc) * 1 ≤ (m1 + cc) * fact (p.length - (k + 1)) := Nat.mul_le_mul_left _ (fact_pos _)
      omega
     have g1 : IntKind.i64.wrap ((p.length : Int) - (k : Int)) = (r : Int) := by rw [show (p.length : Int) - (k : Int) = (r : Int) by omega]; exact IntWalk.i64_in _ (by omega)
     have g2 : IntKind.i64.wrap ((o : Int) * (r : Int)) = (m1 : Int) := by rw [hmi]; exact IntWalk.i64_in _ (by omega)
     have g3 : IntKind.i64.wrap ((m1 : Int) + (cc : Int)) = ((m1 + cc : Nat) : Int) := by rw [show (m1 : Int) + (cc : Int) = ((m1 + cc : Nat) : Int) by omega]; exact IntWalk.i64_in _ (by omega)
     have gt : (p.length : Int) ≤ (t : Int) := by omega
     have HN2 := Lib.hid hnx
     have HB2 := Lib.hid (HB.out.trans (hb2.mono HB.out.size))
     rw [hcc, ht]
     clear hnx hm1 hmi hr hcc hb2 ht hbd
     go_wp2
     go_roundw
     case rel => exact ⟨k + 1, m1 + cc, by omega, by go_num, rfl, by rw [HD.out]; exact HN2.out, HB2.out⟩
     case measure => simp [intOf]; omega
  ·obtain rfl : k = p.length := by omega
   rw [Nat.sub_self, List.drop_length] at ho
   have hor : o = R := by have h0 : fact 0 = 1 := rfl; have h1 : rankL [] = 0 := rfl; rw [h0, h1] at ho; omega
   subst hor
   go_wp2
   go_ret
   exact ⟨rfl, hbel⟩
set_option maxHeartbeats 1000000 in
theorem fact_go (n : Nat) (w : World) (hn1 : 1 ≤ n) (hn9 : n ≤ 9) :
  Calls Tryd.prog 47 #[.int .i64 (n : Nat)] w fun e w' => e = .returned (.int .i64 (fact n : Nat)) ∧ Below w.heap.size w w' := by
 have HF := Lib.hid (fun k (hk : k ≤ 9) => fact_mono hk)
 have H9 := Lib.hid fact9
 have HS : Hid (∀ k, fact (k + 1) = fact k * (k + 1)) := fun _ => rfl
 go_enter Tryd.func47, Tryd.ntmps47
 go_wp2
 go_loopw [3, 4] (fun ov i wr => ∃ k : Nat, 1 ≤ k ∧ k ≤ n ∧ i = .int .i64 ((k + 1 : Nat) : Int) ∧ ov = .int .i64 (fact k : Nat) ∧ Below w.heap.size w wr) (fun _ i _ => n + 1 - (intOf i).toNat)
 case atStart => exact ⟨1, Nat.le_refl _, hn1, rfl, rfl, Below.refl _ _⟩
 case round =>
  obtain ⟨k, hk1, hkn, rfl, rfl, hbel⟩ := hrel
  have h1 := HF.out (k + 1)
  rw [H9.out, HS.out] at h1
  obtain ⟨F, hF⟩ : ∃ F, fact k = F := ⟨_, rfl⟩
  obtain ⟨t, ht⟩ : ∃ t, k + 1 = t := ⟨_, rfl⟩
  rw [hF, ht] at h1
  obtain ⟨m, hm⟩ : ∃ m, F * t = m := ⟨_, rfl⟩
  rw [hm] at h1
  have hmi : (F : Int) * (t : Int) = (m : Int) := by rw [← hm, Int.natCast_mul]
  have HFM : Hid (fact (k + 1) = m) := by show _ = _; rw [HS.out, hF, ht, hm]
  have HB := Lib.hid hbel
  have HT := Lib.hid ht
  have HFK := Lib.hid hF
  rw [hF, ht]
  by_cases hlt : k < n
  ·have hm9 : m ≤ 362880 := h1 (by omega)
   have g2 : IntKind.i64.wrap ((F : Int) * (t : Int)) = (m : Int) := by rw [hmi]; exact IntWalk.i64_in _ (by omega)
   have gt : (t : Int) ≤ (n : Int) := by omega
   have htb : t ≤ 9 := by omega
   clear h1 hm hmi hbel ht hF
   go_wp2
   go_roundw
   case rel => exact ⟨k + 1, by omega, by omega, by rw [HT.out]; go_num, by rw [HFM.out], HB.out⟩
   case measure => simp [intOf]; omega
  ·obtain rfl : k = n := by omega
   have gt : ¬ ((t : Int) ≤ (k : Int)) := by omega
   clear h1 hm hmi hbel ht hF
   go_wp2
   go_ret
   exact ⟨by rw [HFK.out]; rfl, HB.out⟩
end Go.Proofs.YtllhejjcmfiebaaDoor
namespace Go.Proofs.YtllhejjcmfiebaaDoor
open Go.RowKit Go.Shelf
def FarV (w : World) (fv : Value) (F : List Int) (c m la : Int) : Prop := ∃ sv, fv = .agg #[sv, .int .i64 c, .int .i64 m, .int .i64 la] ∧ SlA w sv (ints F)
theorem FarV.below {w w' : World} {fv : Value} {F : List Int} {c m la : Int} (h : FarV w fv F c m la) (hb : Below w.heap.size w w') : FarV w' fv F c m la := by
 obtain ⟨sv, h1, h2⟩ := h
 exact ⟨sv, h1, h2.below hb⟩
set_option maxRecDepth 100000 in
set_option maxHeartbeats 2000000 in
theorem steps_go (fv vq : Value) (n : Nat) (F q : List Int) (c m la : Int) (w : World) (hf : FarV w fv F c m la) (hF : F.length = fact n) (hq : SlA w vq (ints q)) (hl : q.length = n) (hn9 : n ≤ 9) :
  Calls Tryd.prog 43 #[fv, vq] w fun e w' => e = .returned (.int .i64 (F.getD (rankL q) 0)) ∧ Below w.heap.size w w' := by
 obtain ⟨sv, rfl, hsv⟩ := hf
 have hr := rankL_lt q
 rw [hl, ← hF] at hr
 obtain ⟨ad, cap, rfl, hcp1, hcp2, had, hcy⟩ := hsv.int_at (rankL q) hr
 obtain ⟨pq, cq, rfl, hcq1, hcq2⟩ := hq.form
 have HRK := Lib.hid (fun W (hb : Below w.heap.size w W) => rank_go _ q W (hq.below hb) (by omega))
 obtain ⟨r, hre⟩ : ∃ r, rankL q = r := ⟨_, rfl⟩
 rw [hre] at hr hcy HRK ⊢
 obtain ⟨y, hy⟩ : ∃ y, F.getD r 0 = y := ⟨_, rfl⟩
 rw [hy] at hcy ⊢
 have hr0 := row_new 70 w #[.slice (some ad) F.length cap, .int .i64 c, .int .i64 m, .int .i64 la]
 have hb0 := (Below.refl w.heap.size w).alloc (Nat.le_refl _) (.cells #[.slice (some ad) F.length cap, .int .i64 c, .int .i64 m, .int .i64 la] 70)
 obtain ⟨W0, hW0⟩ : ∃ W0, w.alloc (.cells #[.slice (some ad) F.length cap, .int .i64 c, .int .i64 m, .int .i64 la] 70) = W0 := ⟨_, rfl⟩
 rw [hW0] at hr0 hb0
 have HR0 := Lib.hid hr0
 have HB0 := Lib.hid hb0
 have HAD := Lib.hid (Nat.lt_of_lt_of_le had hb0.size)
 have HCY := Lib.hid ((hb0.cell (p := ad.add r) (by rw [block_add]; exact had)).trans hcy)
 unfold maxLen at hcp2
 have gr : (r : Int) < (F.length : Int) := by omega
 clear hsv hq hl hF hre hy hcy had hr0 hb0
 go_enter Tryd.func43, Tryd.ntmps43
 go_wp2
 clear hW0
 refine wp_region_rel (by kernel_rfl) 11 rfl (by kernel_rfl) [.fix (.pointer (some ⟨w.heap.size, 0, none⟩)), .fix (.slice (some ad) F.length cap), .fix (.slice pq q.length cq), .fix (.int .i64 (r : Nat)), .fix (.pointer (some (ad.add r))), .fix (.int .i64 y), .fix (.int .i64 y)] rfl (stays_fix rfl) ?hop ?hQ
 case hop =>
  intro W hW j o hj vs w1 hb hV
  have hbw : Below W0.heap.size W0 w1 := by rw [hW] at hb; exact ((Below.refl W0.heap.size W0).drew).trans hb
  have d0 : w1.cell? ⟨w.heap.size, 0, none⟩ = some (.slice (some ad) F.length cap) := (HR0.out.below hbw HR0.out.lt).cell 0
  have hcy : w1.cell? (ad.add r) = some (.int .i64 y) := (hbw.cell (p := ad.add r) (by rw [block_add]; exact HAD.out)).trans HCY.out
  clear hW hb
  have hj' : j < 7 := (List.getElem?_eq_some_iff.1 hj).1
  rcases (by omega : j = 0 ∨ j = 1 ∨ j = 2 ∨ j = 3 ∨ j = 4 ∨ j = 5 ∨ j = 6) with rfl | rfl | rfl | rfl | rfl | rfl | rfl
  ·cases hj
   clear hj'
   refine .inl ⟨rfl, ?_⟩
   (try simp [predsR, Region.binds, Vk] at hV)
   simp only [putAll]
   generalize hR : Res _ _ vs w1 = R
   go_simp
   subst hR
   exact ⟨rfl, Below.refl _ _⟩
  ·cases hj
   clear hj'
   refine .inl ⟨rfl, ?_⟩
   generalize hG : relUpon _ _ _ = G
   have q0 : vs 0 = _ := hV 0 (by decide)
   clear hV
   subst hG
   simp only [putAll]
   generalize hR : Res _ _ vs w1 = R
   go_simp
   subst hR
   exact ⟨rfl, Below.refl _ _⟩
  ·cases hj
   clear hj'
   refine .inl ⟨rfl, ?_⟩
   (try simp [predsR, Region.binds, Vk] at hV)
   simp only [putAll]
   generalize hR : Res _ _ vs w1 = R
   go_simp
   subst hR
   exact ⟨rfl, Below.refl _ _⟩
  ·cases hj
   clear hj'
   refine .inl ⟨rfl, ?_⟩
   generalize hG : relUpon _ _ _ = G
   have q2 : vs 2 = _ := hV 2 (by decide)
   clear hV
   subst hG
   simp only [putAll]
   generalize hR : Res _ _ vs w1 = R
   go_simp
   subst hR
   refine (HRK.out w1 (HB0.out.trans (hbw.mono HB0.out.size))).mono ?_
   rintro e w2 ⟨rfl, hb⟩
   exact ⟨_, rfl, rfl, hb⟩
  ·cases hj
   clear hj'
   refine .inl ⟨rfl, ?_⟩
   generalize hG : relUpon _ _ _ = G
   have q1 : vs 1 = _ := hV 1 (by decide)
   have q3 : vs 3 = _ := hV 3 (by decide)
   clear hV
   subst hG
   simp only [putAll]
   generalize hR : Res _ _ vs w1 = R
   go_simp
   subst hR
   exact ⟨rfl, Below.refl _ _⟩
  ·cases hj
   clear hj'
   refine .inl ⟨rfl, ?_⟩
   generalize hG : relUpon _ _ _ = G
   have q4 : vs 4 = _ := hV 4 (by decide)
   clear hV
   subst hG
   simp only [putAll]
   generalize hR : Res _ _ vs w1 = R
   go_simp
   subst hR
   exact ⟨rfl, Below.refl _ _⟩
  ·cases hj
   clear hj'
   refine .inl ⟨rfl, ?_⟩
   generalize hG : relUpon _ _ _ = G
   have q5 : vs 5 = _ := hV 5 (by decide)
   clear hV
   subst hG
   simp only [putAll]
   generalize hR : Res _ _ vs w1 = R
   go_simp
   subst hR
   exact ⟨rfl, Below.refl _ _⟩
 case hQ =>
  intro W hW vs w1 hb hV hD
  have hbw : Below W0.heap.size W0 w1 := by rw [hW] at hb; exact ((Below.refl W0.heap.size W0).drew).trans hb
  have v0 : vs 0 = _ := hV 0 (by decide)
  have v1 : vs 1 = _ := hV 1 (by decide)
  have v2 : vs 2 = _ := hV 2 (by decide)
  have v3 : vs 3 = _ := hV 3 (by decide)
  have v4 : vs 4 = _ := hV 4 (by decide)
  have v5 : vs 5 = _ := hV 5 (by decide)
  have v6 : vs 6 = _ := hV 6 (by decide)
  generalize hKK : Exit.then _ _ = KK
  simp only [putAll, v0, v1, v2, v3, v4, v5, v6]
  go_simp
  subst hKK
  have HB1 := Lib.hid (HB0.out.trans (hbw.mono HB0.out.size))
  clear hV hD v0 v1 v2 v3 v4 v5 v6 hb hbw hW HRK HAD HCY HR0 HB0
  go_wp2
  go_ret
  exact ⟨rfl, HB1.out⟩
end Go.Proofs.YtllhejjcmfiebaaDoor
namespace Go.Proofs.YtllhejjcmfiebaaDoor
def Fok (E : Es) (N : Nat) (p : List Int) (F : List Int) (Q : List (List Int)) : Prop :=
 F.length = fact N ∧ ∀ q, PosP N q → (q ∈ Q → ∃ d : Nat, F.getD (rankL q) 0 = (d : Int) ∧ DistIs E N p d q) ∧ (q ∉ Q → F.getD (rankL q) 0 = -1)
theorem Fok.neg {E : Es} {N : Nat} {p F : List Int} {Q : List (List Int)} (h : Fok E N p F Q) {q : List Int} (hq : PosP N q) : F.getD (rankL q) 0 < 0 ↔ q ∉ Q := by
 obtain ⟨h1, h2⟩ := h.2 q hq
 constructor
 ·intro hn hm
  obtain ⟨d, hd, _⟩ := h1 hm
  omega
 ·intro hm; rw [h2 hm]; omega
theorem Fok.add {E : Es} {N d : Nat} {p F x : List Int} {Q : List (List Int)} (h : Fok E N p F Q) (hx : PosP N x) (hd : DistIs E N p d x) : Fok E N p (F.set (rankL x) (d : Int)) (Q ++ [x]) := by
 have hr := hx.lt
 refine ⟨by rw [List.length_set]; exact h.1, fun q hq => ?_⟩
 have hg := getD_set F (rankL x) (rankL q) (d : Int) (by rw [h.1]; exact hr)
 by_cases hqx : q = x
 ·subst hqx
  rw [if_pos rfl] at hg
  exact ⟨fun _ => ⟨d, hg, hd⟩, fun hn => absurd (List.mem_append_right _ (List.mem_singleton.2 rfl)) hn⟩
 ·rw [if_neg fun e => hqx (hx.inj hq e).symm] at hg
  obtain ⟨h1, h2⟩ := h.2 q hq
  rw [hg]
  refine ⟨fun hm => h1 ?_, fun hm => h2 fun hn => hm (List.mem_append_left _ hn)⟩
  rcases List.mem_append.1 hm with hm | hm
  ·exact hm
  ·exact absurd (List.mem_singleton.1 hm) hqx
theorem Fok.start {E : Es} {N : Nat} {p : List Int} (hp : PosP N p) : Fok E N p ((List.replicate (fact N) (-1 : Int)).set (rankL p) 0) [p] := by
 have h0 : Fok E N p (List.replicate (fact N) (-1 : Int)) [] := by
  refine ⟨by simp, fun q hq => ⟨(fun h => by cases h), fun _ => ?_⟩⟩
  rw [List.getD_eq_getElem?_getD, List.getElem?_replicate, if_pos hq.lt]; rfl
 have := h0.add (d := 0) hp ⟨rfl, fun j hj => by omega⟩
 simpa using this
def ML (E : Es) (N : Nat) (p : List Int) (k j M La : Nat) : Prop :=
 (0 < j ∧ M = k ∧ La = j) ∨ (j = 0 ∧ k = 0 ∧ M = 0 ∧ La = 0) ∨ (j = 0 ∧ 0 < k ∧ M = k - 1 ∧ La = (lv E N p (k - 1)).2.length)
structure QAt (E : Es) (N : Nat) (p : List Int) (k j i : Nat) (Q : List (List Int)) (F : List Int) (M La : Nat) : Prop where
 place : i + (lv E N p k).2.length = (lv E N p k).1.length + j
 le : j ≤ (lv E N p k).2.length
 que : Q = (pt E N p k j).1
 fok : Fok E N p F Q
 ml : ML E N p k j M La
 ne : (lv E N p k).2 ≠ []
section
variable {E : Es} {N : Nat} {p : List Int}
theorem QAt.start (hp : PosP N p) : QAt E N p 0 0 0 [p] ((List.replicate (fact N) (-1 : Int)).set (rankL p) 0) 0 0 :=
 ⟨rfl, Nat.zero_le _, by rw [pt_zero]; rfl, Fok.start hp, .inr (.inl ⟨rfl, rfl, rfl, rfl⟩), by show [p] ≠ []; simp⟩
theorem QAt.norm {k j i : Nat} {Q : List (List Int)} {F : List Int} {M La : Nat} (h : QAt E N p k j i Q F M La) (hi : i < Q.length) : ∃ k' j', QAt E N p k' j' i Q F M La ∧ j' < (lv E N p k').2.length := by
 by_cases hj : j < (lv E N p k).2.length
 ·exact ⟨k, j, h, hj⟩
 ·have hje : j = (lv E N p k).2.length := by have := h.le; omega
  have hpl := h.place
  have hq := h.que
  rw [hje, pt_last] at hq
  have ht : (lv E N p (k + 1)).1 = (lv E N p k).1 ++ (lv E N p (k + 1)).2 := lvl_tail _ p k
  have hQl : Q.length = (lv E N p k).1.length + (lv E N p (k + 1)).2.length := by rw [hq, ht, List.length_append]
  have hpos : 0 < (lv E N p (k + 1)).2.length := by omega
  have h0 := List.length_pos_iff.2 h.ne
  refine ⟨k + 1, 0, ⟨?_, Nat.zero_le _, by rw [pt_zero]; exact hq, h.fok, ?_, List.length_pos_iff.1 hpos⟩, hpos⟩
  ·rw [ht, List.length_append]; omega
  ·rcases h.ml with ⟨_, h2, h3⟩ | ⟨h1, _⟩ | ⟨h1, _⟩
   ·exact .inr (.inr ⟨rfl, by omega, by omega, by rw [Nat.add_sub_cancel, h3, hje]⟩)
   ·omega
   ·omega
theorem QAt.elem {k j i : Nat} {Q : List (List Int)} {F : List Int} {M La : Nat} (h : QAt E N p k j i Q F M La) (hp : PosP N p) (hj : j < (lv E N p k).2.length) :
  ∃ q, Q[i]? = some q ∧ (lv E N p k).2[j]? = some q ∧ PosP N q ∧ F.getD (rankL q) 0 = (k : Int) := by
 have hat := pt_at h.place hj
 rw [← h.que] at hat
 obtain ⟨q, hq⟩ : ∃ q, (lv E N p k).2[j]? = some q := ⟨_, List.getElem?_eq_getElem hj⟩
 rw [hq] at hat
 have hm := List.mem_of_getElem? hq
 have hpos := lv_pos hp k q (lv_sub E N p k q hm)
 obtain ⟨d, hd, hdd⟩ := (h.fok.2 q hpos).1 (List.mem_of_getElem? hat)
 have := hdd.uniq (lv_dist.1 hm)
 subst this
 exact ⟨q, hat, hq, hpos, hd⟩
theorem ML.next {k j M La : Nat} (h : ML E N p k j M La) : (M < k → 0 + 1 = j + 1) ∧ (¬ M < k → M = k ∧ La + 1 = j + 1) := by
 rcases h with ⟨h1, h2, h3⟩ | ⟨h1, h2, h3, h4⟩ | ⟨h1, h2, h3, _⟩ <;> constructor <;> intro <;> omega
structure QIn (E : Es) (N : Nat) (p q : List Int) (k j t : Nat) (Q : List (List Int)) (F : List Int) : Prop where
 que : Q = (addL (pt E N p k j) ((nbrL E N q).take t)).1
 fok : Fok E N p F Q
theorem QAt.into {k j i : Nat} {Q : List (List Int)} {F : List Int} {M La : Nat} (h : QAt E N p k j i Q F M La) (q : List Int) : QIn E N p q k j 0 Q F := ⟨by rw [h.que]; rfl, h.fok⟩
theorem QIn.pos {q : List Int} {k j t : Nat} {Q : List (List Int)} {F : List Int} (h : QIn E N p q k j t Q F) (hp : PosP N p) (hq : PosP N q) : ∀ x ∈ Q, PosP N x := by
 intro x hx
 rw [h.que, addL_mem] at hx
 rcases hx with hx | hx
 ·exact pt_pos hp k j x hx
 ·exact nbrL_pos hq x (List.mem_of_mem_take hx)
theorem QIn.few {q : List Int} {k j t : Nat} {Q : List (List Int)} {F : List Int} (h : QIn E N p q k j t Q F) (hp : PosP N p) (hq : PosP N q) : Q.length ≤ fact N :=
 pos_few (h.pos hp hq) (by rw [h.que]; exact addL_nodup _ (pt_nodup E N p k j))
theorem QIn.old {q x : List Int} {k j t : Nat} {Q : List (List Int)} {F : List Int} (h : QIn E N p q k j t Q F) (ht : (nbrL E N q)[t]? = some x) (hx : x ∈ Q) : QIn E N p q k j (t + 1) Q F := by
 have htl := (List.getElem?_eq_some_iff.1 ht).1
 refine ⟨?_, h.fok⟩
 rw [List.take_succ_eq_append_getElem htl, (List.getElem?_eq_some_iff.1 ht).2, addL_snoc]
 unfold addN
 rw [← h.que, if_pos hx]
 exact h.que
theorem QIn.new {q x : List Int} {k j t : Nat} {Q : List (List Int)} {F : List Int} (h : QIn E N p q k j t Q F) (hp : PosP N p) (hq : PosP N q) (hqk : (lv E N p k).2[j]? = some q) (ht : (nbrL E N q)[t]? = some x) (hx : x ∉ Q) : QIn E N p q k j (t + 1) (Q ++ [x]) (F.set (rankL x) ((k + 1 : Nat) : Int)) := by
 have htl := (List.getElem?_eq_some_iff.1 ht).1
 have hxm := List.mem_of_getElem? ht
 have hno : x ∉ (lv E N p k).1 := fun hc => hx (by
  rw [h.que, addL_mem]
  have htl2 : (pt E N p k j).1 = (lv E N p k).1 ++ (pt E N p k j).2 := pt_tail E N p k j
  exact .inl (by rw [htl2]; exact List.mem_append_left _ hc))
 refine ⟨?_, h.fok.add (nbrL_pos hq x hxm) (new_dist (List.mem_of_getElem? hqk) hxm hno)⟩
 rw [List.take_succ_eq_append_getElem htl, (List.getElem?_eq_some_iff.1 ht).2, addL_snoc]
 unfold addN
 rw [← h.que, if_neg hx]
theorem QIn.out {q : List Int} {k j i : Nat} {Q0 Q : List (List Int)} {F0 F : List Int} {M La : Nat} (h0 : QAt E N p k j i Q0 F0 M La) (hj : j < (lv E N p k).2.length) (hqk : (lv E N p k).2[j]? = some q) (h : QIn E N p q k j (nbrL E N q).length Q F) : QAt E N p k (j + 1) (i + 1) Q F k (j + 1) := by
 have hpl := h0.place
 refine ⟨by omega, by omega, ?_, h.fok, .inl ⟨by omega, rfl, rfl⟩, h0.ne⟩
 rw [h.que, List.take_length, pt_next hqk]
theorem QAt.done {k j i : Nat} {Q : List (List Int)} {F : List Int} {M La : Nat} (h : QAt E N p k j i Q F M La) (hp : PosP N p) (hi : Q.length ≤ i) :
  (lv E N p (k + 1)).2 = [] ∧ Q = (lv E N p k).1 ∧ M = k ∧ La = (lv E N p k).2.length := by
 have hje : j = (lv E N p k).2.length := by
  refine Classical.byContradiction fun hne => ?_
  have hle := h.le
  obtain ⟨q, hq, _⟩ := h.elem hp (by omega)
  have := (List.getElem?_eq_some_iff.1 hq).1
  omega
 have hpl := h.place
 have hq := h.que
 rw [hje, pt_last] at hq
 have ht : (lv E N p (k + 1)).1 = (lv E N p k).1 ++ (lv E N p (k + 1)).2 := lvl_tail _ p k
 have hQl : Q.length = (lv E N p k).1.length + (lv E N p (k + 1)).2.length := by rw [hq, ht, List.length_append]
 have hnil : (lv E N p (k + 1)).2 = [] := List.length_eq_zero_iff.1 (by omega)
 have h0 := List.length_pos_iff.2 h.ne
 refine ⟨hnil, by rw [hq, ht, hnil, List.append_nil], ?_, ?_⟩
 ·rcases h.ml with ⟨_, h2, _⟩ | ⟨h1, _⟩ | ⟨h1, _⟩
  ·exact h2
  ·omega
  ·omega
 ·rcases h.ml with ⟨_, _, h3⟩ | ⟨h1, _⟩ | ⟨h1, _⟩
  ·rw [h3, hje]
  ·omega
  ·omega
end
structure FarOK (E : Es) (N : Nat) (p F : List Int) (c M La : Nat) : Prop where
 ex : ∃ k, (lv E N p k).2 ≠ [] ∧ (lv E N p (k + 1)).2 = [] ∧ c = (lv E N p k).1.length ∧ M = k ∧ La = (lv E N p k).2.length ∧ Fok E N p F (lv E N p k).1
end Go.Proofs.YtllhejjcmfiebaaDoor
namespace Go.Proofs.YtllhejjcmfiebaaDoor
open Go.RowKit Go.Shelf
theorem nearB_self {N : Nat} {l : Ps} (hn9 : N ≤ 9) (h : ∀ j, j < l.length → okAt N l j = true) (a : Nat) : nearB (toE l) a a = false := by
 cases hB : nearB (toE l) a a with
 | false => rfl
 | true =>
  have hm := (near_iff hn9 h a (a : Int)).2 hB
  obtain ⟨k, hk⟩ := List.getElem?_of_mem hm
  have hkl := (List.getElem?_eq_some_iff.1 hk).1
  have h1 := h k hkl
  unfold okAt at h1
  rw [List.getD_eq_getElem?_getD, hk] at h1
  obtain ⟨i, j, e, hij, _⟩ := edgeOk_lt h1 hn9
  simp only [Option.getD_some, Prod.mk.injEq, Int.min_self, Int.max_self] at e
  omega
theorem infoSl : (Tryd.prog.info? 23).map (fun i => (i.zero, i.size, i.bytes)) = some (some (.slice none 0 0), 1, 24) := by kernel_rfl
theorem undSS : Tryd.prog.underlying 79 = some (.slice 23) := by kernel_rfl
def nrT (E : Es) (i t : Nat) : List Int := ((List.range t).filter fun u => (nb E i).testBit u).map fun (u : Nat) => (u : Int)
theorem nrT_yes {E : Es} {i t : Nat} (h : nearB E i t = true) : nrT E i (t + 1) = nrT E i t ++ [(t : Int)] := by
 unfold nearB at h
 rw [Bool.and_eq_true, Int.toNat_natCast] at h
 unfold nrT
 rw [List.range_succ, List.filter_append, List.map_append, List.filter_cons, if_pos h.2]; rfl
theorem nrT_no {E : Es} {i t : Nat} (h : nearB E i t = false) : nrT E i (t + 1) = nrT E i t := by
 unfold nearB at h
 rw [Int.toNat_natCast, Bool.and_eq_false_iff] at h
 have h2 : (nb E i).testBit t = false := by
  rcases h with h | h
  ·rw [decide_eq_false_iff_not] at h; omega
  ·exact h
 unfold nrT
 rw [List.range_succ, List.filter_append, List.filter_cons, h2]; simp
theorem nrT_len (E : Es) (i t : Nat) : (nrT E i t).length ≤ t := by
 unfold nrT
 rw [List.length_map]
 exact Nat.le_trans (List.length_filter_le _ _) (by rw [List.length_range]; exact Nat.le_refl _)
def NearA (E : Es) (N n B : Nat) (w : World) (v : Value) : Prop := ∃ vs : List Value, vs.length = n ∧ Own 23 B w v vs ∧ ∀ z u, vs[z]? = some u → Own 3 B w u (ints (nrT E z N))
theorem NearA.below {E : Es} {N n B C : Nat} {w w' : World} {v : Value} (h : NearA E N n B w v) (hb : Below C w w') (hC : w.heap.size ≤ C) : NearA E N n B w' v := by
 obtain ⟨vs, h1, h2, h3⟩ := h
 exact ⟨vs, h1, h2.below hb hC, fun z u hz => (h3 z u hz).below hb hC⟩
theorem Own.same {T base : Nat} {w w' : World} {v : Value} {xs : List Value} (h : Own T base w v xs) (hs : ∀ g, base ≤ g → v.ownBlock = some g → (∃ cur, w.heap[g]? = some (.cells cur T (0, 0))) → w'.heap[g]? = w.heap[g]?) : Own T base w' v xs := by
 obtain ⟨h1, h2⟩ := h
 refine ⟨h1, ?_⟩
 rcases h2 with h2 | ⟨g, cap, cur, hv, h3, h4, h5⟩
 ·exact .inl h2
 ·refine .inr ⟨g, cap, cur, hv, h3, ?_, h5⟩
  rw [hs g h3 (by rw [hv]; rfl) ⟨cur, h4⟩]; exact h4
theorem Row.only {T g : Nat} {w : World} {xs : List Value} (h : Row T w g xs) {T' : Nat} (h' : ∃ cur, w.heap[g]? = some (.cells cur T' (0, 0))) : T' = T := by
 obtain ⟨cur, h'⟩ := h'
 unfold Row at h
 rw [h] at h'
 injection h' with h'
 injection h' with _ ht
 exact ht.symm
def FrQ (Bq s g7 : Nat) (Wq wr : World) : Prop := Bq ≤ wr.heap.size ∧ ∀ b, b < Bq → b ≠ s → b ≠ g7 → wr.heap[b]? = Wq.heap[b]?
theorem FrQ.later {Bq s g7 B : Nat} {Wq wr wr' : World} (h : FrQ Bq s g7 Wq wr) (hb : Below B wr wr') (hB : Bq ≤ B) : FrQ Bq s g7 Wq wr' :=
 ⟨Nat.le_trans h.1 hb.size, fun b h1 h2 h3 => by rw [hb.block b (by omega)]; exact h.2 b h1 h2 h3⟩
theorem FrQ.put {Bq s g7 : Nat} {Wq wr : World} (h : FrQ Bq s g7 Wq wr) {g i : Nat} (hg : g = s ∨ g = g7) (u : Value) : FrQ Bq s g7 Wq (wr.setCell ⟨g, i, none⟩ u) := by
 refine ⟨by rw [World.size_setCell]; exact h.1, fun b h1 h2 h3 => ?_⟩
 rw [Below.heap_setCell _ _ _ _ (fun e => by dsimp only at e; rcases hg with hg | hg <;> omega)]
 exact h.2 b h1 h2 h3
def El (Bq : Nat) (vp : Value) (p : List Int) (wr : World) (u : Value) (q : List Int) : Prop := Own 3 Bq wr u (ints q) ∨ (u = vp ∧ q = p)
structure FW (Bq s g7 K : Nat) (w Wq wr : World) (vp : Value) (p : List Int) (qv : Value) (vs : List Value) (Q : List (List Int)) (F : List Int) (M La : Nat) : Prop where
 own : Own 23 Bq wr qv vs
 len : vs.length = Q.length
 el : ∀ (z : Nat) (u : Value) (q : List Int), vs[z]? = some u → Q[z]? = some q → El Bq vp p wr u q
 rs : Row 3 wr s (ints F)
 r7 : Row 70 wr g7 [.slice (some ⟨s, 0, none⟩) K K, .int .i64 0, .int .i64 M, .int .i64 La]
 fr : FrQ Bq s g7 Wq wr
 old : Below w.heap.size w wr
 ws : w.heap.size ≤ s
 sg : s < g7
 gB : g7 < Bq
section
variable {Bq s g7 K : Nat} {w Wq wr : World} {vp : Value} {p : List Int} {qv : Value} {vs : List Value} {Q : List (List Int)} {F : List Int} {M La : Nat}
theorem FW.later (h : FW Bq s g7 K w Wq wr vp p qv vs Q F M La) {w' : World} (hb : Below wr.heap.size wr w') : FW Bq s g7 K w Wq w' vp p qv vs Q F M La := by
 refine ⟨h.own.below hb (Nat.le_refl _), h.len, fun z u q h1 h2 => ?_, h.rs.below hb h.rs.lt, h.r7.below hb h.r7.lt, h.fr.later hb h.fr.1, h.old.trans (hb.mono h.old.size), h.ws, h.sg, h.gB⟩
 rcases h.el z u q h1 h2 with h3 | h3
 ·exact .inl (h3.below hb (Nat.le_refl _))
 ·exact .inr h3
theorem FW.elA (h : FW Bq s g7 K w Wq wr vp p qv vs Q F M La) (hp : SlA w vp (ints p)) {z : Nat} {u : Value} {q : List Int} (h1 : vs[z]? = some u) (h2 : Q[z]? = some q) : SlA wr u (ints q) := by
 rcases h.el z u q h1 h2 with h3 | ⟨rfl, rfl⟩
 ·exact h3.sl.toA
 ·exact hp.below h.old
theorem FW.putS (h : FW Bq s g7 K w Wq wr vp p qv vs Q F M La) (r : Nat) (y : Int) : FW Bq s g7 K w Wq (wr.setCell ⟨s, r, none⟩ (.int .i64 y)) vp p qv vs Q (F.set r y) M La := by
 have hsg := h.sg
 have hgB := h.gB
 have hsame : ∀ T base v xs, Bq ≤ base → Own T base wr v xs → Own T base (wr.setCell ⟨s, r, none⟩ (.int .i64 y)) v xs := fun T base v xs hB ho => ho.same fun g hg _ _ => Below.heap_setCell _ _ _ _ (fun e => by dsimp only at e; omega)
 refine ⟨hsame _ _ _ _ (Nat.le_refl _) h.own, h.len, fun z u q h1 h2 => ?_, ?_, h.r7.other ⟨s, r, none⟩ (fun e => by dsimp only at e; omega) _, h.fr.put (.inl rfl) _, h.old.setCell (p := ⟨s, r, none⟩) h.ws _, h.ws, h.sg, h.gB⟩
 ·rcases h.el z u q h1 h2 with h3 | h3
  ·exact .inl (hsame _ _ _ _ (Nat.le_refl _) h3)
  ·exact .inr h3
 ·have := h.rs.store r (.int .i64 y)
  rwa [ints_set] at this
theorem FW.put7 (h : FW Bq s g7 K w Wq wr vp p qv vs Q F M La) (i : Nat) (y : Int) (M' La' : Nat) (hy : [Value.slice (some ⟨s, 0, none⟩) K K, .int .i64 0, .int .i64 M, .int .i64 La].set i (.int .i64 y) = [Value.slice (some ⟨s, 0, none⟩) K K, .int .i64 0, .int .i64 M', .int .i64 La']) : FW Bq s g7 K w Wq (wr.setCell ⟨g7, i, none⟩ (.int .i64 y)) vp p qv vs Q F M' La' := by
 have hsg := h.sg
 have hgB := h.gB
 have hws := h.ws
 have hsame : ∀ T base v xs, Bq ≤ base → Own T base wr v xs → Own T base (wr.setCell ⟨g7, i, none⟩ (.int .i64 y)) v xs := fun T base v xs hB ho => ho.same fun g hg _ _ => Below.heap_setCell _ _ _ _ (fun e => by dsimp only at e; omega)
 refine ⟨hsame _ _ _ _ (Nat.le_refl _) h.own, h.len, fun z u q h1 h2 => ?_, h.rs.other ⟨g7, i, none⟩ (fun e => by dsimp only at e; omega) _, ?_, h.fr.put (.inr rfl) _, h.old.setCell (p := ⟨g7, i, none⟩) (by dsimp only; omega) _, h.ws, h.sg, h.gB⟩
 ·rcases h.el z u q h1 h2 with h3 | h3
  ·exact .inl (hsame _ _ _ _ (Nat.le_refl _) h3)
  ·exact .inr h3
 ·have := h.r7.store i (.int .i64 y)
  rw [hy] at this; exact this
theorem FW.push (h : FW Bq s g7 K w Wq wr vp p qv vs Q F M La) {w' : World} {v' u : Value} {q : List Int} (hu : Own 3 Bq wr u (ints q)) (ho : Own 23 Bq w' v' (vs ++ [u])) (hb : Below Bq wr w')
  (hk : ∀ T b2 v2 ys, T ≠ 23 → Own T b2 wr v2 ys → Own T b2 w' v2 ys) : FW Bq s g7 K w Wq w' vp p v' (vs ++ [u]) (Q ++ [q]) F M La := by
 have hsg := h.sg
 have hgB := h.gB
 have hws := h.ws
 have hlen := h.len
 refine ⟨ho, by simp [h.len], fun z u' q' h1 h2 => ?_, h.rs.below hb (by omega), h.r7.below hb h.gB, h.fr.later hb (Nat.le_refl _), h.old.trans (hb.mono (by omega)), h.ws, h.sg, h.gB⟩
 by_cases hz : z < vs.length
 ·rw [List.getElem?_append_left hz] at h1
  rw [List.getElem?_append_left (by omega)] at h2
  rcases h.el z u' q' h1 h2 with h3 | h3
  ·exact .inl (hk _ _ _ _ (by decide) h3)
  ·exact .inr h3
 ·rw [List.getElem?_append_right (by omega)] at h1 h2
  have hz1 := (List.getElem?_eq_some_iff.1 h1).1
  rw [List.length_singleton] at hz1
  have e1 : z - vs.length = 0 := by omega
  have e2 : z - Q.length = 0 := by omega
  rw [e1] at h1
  rw [e2] at h2
  cases h1
  cases h2
  exact .inl (hk _ _ _ _ (by decide) hu)
theorem NearA.stay {E : Es} {N n B : Nat} {v : Value} (h : NearA E N n B Wq v) (hf : FrQ Bq s g7 Wq wr) (hB : s < B) (hB7 : g7 < B) (hW : Wq.heap.size ≤ Bq) : NearA E N n B wr v := by
 obtain ⟨vs, h1, h2, h3⟩ := h
 have hsame : ∀ T v xs, Own T B Wq v xs → Own T B wr v xs := fun T v xs ho => ho.same fun g hg hv hc => by
  obtain ⟨cur, hc⟩ := hc
  have hlt : g < Wq.heap.size := lt_of_block hc
  exact hf.2 g (by omega) (by omega) (by omega)
 exact ⟨vs, h1, hsame _ _ _ h2, fun z u hz => hsame _ _ _ (h3 z u hz)⟩
end
end Go.Proofs.YtllhejjcmfiebaaDoor
