/- The program's isBlocked. -/
import Derived.Test.YthbfgmgpploneaaDoorQG
import Derived.Test.YthbfgmgpploneaaDoorK1
import Derived.Test.YthbfgmgpploneaaDoorK0
set_option linter.unusedVariables false
set_option linter.unusedSimpArgs false
set_option linter.unnecessarySimpa false
namespace Go.Proofs.YthbfgmgpploneaaDoor
open Go.RowKit

/-- what isBlocked has at the head of its loop: the bidders of the set, what they are offered, what the others pay -/
def BlockRel (B : Nat) (w W0 : World) (set : Nat) (bids : List (List Int)) (F p : List Int) (k : Nat) (b o q : Value) (wr : World) : Prop :=
  ∃ vs M, vs.length = (selT set bids k).length ∧ (∀ i u, vs[i]? = some u → Sl w u (ints ((selT set bids k).getD i []))) ∧ Things B wr M ∧ M 1 = some ⟨31, b, vs⟩ ∧ M 2 = some ⟨2, o, ints (inT set F k)⟩ ∧ M 3 = some ⟨2, q, ints (outT set p k)⟩ ∧ Below B W0 wr
theorem getD_snoc {α : Type} (l : List α) (x d : α) (i : Nat) : (l ++ [x]).getD i d = if i = l.length then x else l.getD i d := by
  rw [List.getD_eq_getElem?_getD, List.getD_eq_getElem?_getD]
  rcases Nat.lt_trichotomy i l.length with h | h | h
  · rw [List.getElem?_append_left h, if_neg (by omega)]
  · subst h; rw [List.getElem?_append_right (Nat.le_refl _), if_pos rfl]; simp
  · rw [List.getElem?_eq_none (by simp; omega), if_neg (by omega), List.getElem?_eq_none (by omega)]
section
variable {B : Nat} {w W0 w1 : World} {set : Nat} {bids : List (List Int)} {F p : List Int} {k : Nat} {b o q u : Value} {vs : List Value} {M : Nat → Option Thing} {x : Int}
theorem BlockRel.inn (hT : bt set k = true) (hl : vs.length = (selT set bids k).length) (hr : ∀ i u, vs[i]? = some u → Sl w u (ints ((selT set bids k).getD i []))) (hs : Sl w u (ints (bids.getD k []))) (hx : F.getD k 0 = x)
    (hth : Things B w1 M) (h1 : M 1 = some ⟨31, b, vs ++ [u]⟩) (h2 : M 2 = some ⟨2, o, ints (inT set F k) ++ [.int .i64 x]⟩) (h3 : M 3 = some ⟨2, q, ints (outT set p k)⟩) (hb : Below B W0 w1) : BlockRel B w W0 set bids F p (k + 1) b o q w1 := by
  refine ⟨vs ++ [u], M, ?_, fun i u' hu => ?_, hth, h1, ?_, ?_, hb⟩
  · rw [selT_in hT]; simp [hl]
  · rw [selT_in hT, getD_snoc]
    rcases Nat.lt_trichotomy i vs.length with h | h | h
    · rw [List.getElem?_append_left h] at hu
      rw [if_neg (by omega)]; exact hr i u' hu
    · subst h
      rw [List.getElem?_append_right (Nat.le_refl _)] at hu
      simp at hu; subst hu
      rw [if_pos hl]; exact hs
    · rw [List.getElem?_eq_none (by simp; omega)] at hu; cases hu
  · rw [h2, inT_in hT, ints_append, hx]; rfl
  · rw [h3, outT_in hT]
theorem BlockRel.out (hT : bt set k = false) (hl : vs.length = (selT set bids k).length) (hr : ∀ i u, vs[i]? = some u → Sl w u (ints ((selT set bids k).getD i []))) (hx : p.getD k 0 = x)
    (hth : Things B w1 M) (h1 : M 1 = some ⟨31, b, vs⟩) (h2 : M 2 = some ⟨2, o, ints (inT set F k)⟩) (h3 : M 3 = some ⟨2, q, ints (outT set p k) ++ [.int .i64 x]⟩) (hb : Below B W0 w1) : BlockRel B w W0 set bids F p (k + 1) b o q w1 := by
  refine ⟨vs, M, ?_, fun i u' hu => ?_, hth, h1, ?_, ?_, hb⟩
  · rw [selT_out hT]; exact hl
  · rw [selT_out hT]; exact hr i u' hu
  · rw [h2, inT_out hT]
  · rw [h3, outT_out hT, ints_append, hx]; rfl
end
set_option maxRecDepth 100000 in
set_option maxHeartbeats 4000000 in
theorem blocked : SpecBlocked := by
  intro v fv pv m bids p set w hl hf hp hm hn1 hn6 ho hpl hpb hset
  obtain ⟨bp, cap, rfl, hlc, hcm⟩ := hl.form_
  obtain ⟨fp, fc, rfl, hfl, hfm⟩ := hf.form
  obtain ⟨pp, pc, rfl, hplc, hpm⟩ := hp.form
  have hFL : (offP bids (bestP m bids)).length = bids.length := by rw [offP_len, bestP_len]
  unfold maxLen at hcm
  have HFB := Lib.hid (offP_bd ho (bestP m bids))
  have HIS : Hid (∀ k, k ≤ bids.length → addTo (inT set (offP bids (bestP m bids)) k) (inT set (offP bids (bestP m bids)) k).length = ownTo bids (bestP m bids) set k) := fun k hk => inT_sum set k (by rw [bestP_len]; exact hk)
  have HOS : Hid (∀ k, addTo (outT set p k) (outT set p k).length = restTo p set k) := fun k => outT_sum set k
  have HPB : Hid (∀ i, 0 ≤ p.getD i 0 ∧ p.getD i 0 ≤ 1000000) := fun i => by
    by_cases hi : i < bids.length
    · exact hpb i hi
    · rw [List.getD_eq_getElem?_getD, List.getElem?_eq_none (by omega)]; simp
  have HBLK : Hid (blockedP m bids p set = decide (ownTo bids (bestP m bids) set bids.length + restTo p set bids.length < worthP m bids set)) := rfl
  have HOB := Lib.hid (ownTo_bd ho (bestP m bids) set bids.length)
  have HRB := Lib.hid (restTo_bd hpb set bids.length (Nat.le_refl _))
  have HWB := Lib.hid (worthP_bd ho set)
  have hM64 := pow_le64 hn6
  have HALONE : Hid (∀ W bv, Mat W bv (selT set bids bids.length) → Calls Tryd.prog 71 #[.agg #[.int .i64 ((2 ^ m - 1 : Nat) : Int), .slice bp bids.length cap], bv] W fun e w' => e = .returned (.int .i64 (worthP m bids set)) ∧ Below W.heap.size W w') := fun W bv hb => by
    have := alone_go (.slice bp bids.length cap) bv m (selT set bids bids.length) W ⟨_, _, _, rfl⟩ hb hm (Nat.le_trans (selT_len set bids bids.length) (by omega)) (offers_sel ho)
    rw [selT_sel, worthP_alone hm ho] at this
    exact this
  obtain ⟨F, hF⟩ : ∃ F, offP bids (bestP m bids) = F := ⟨_, rfl⟩
  rw [hF] at HFB HIS hFL hf hfl ⊢
  rw [hFL] at hfl ⊢
  rw [hpl] at hplc ⊢
  have HL := Lib.hid hl
  have HF : Hid (Sl w (.slice fp bids.length fc) (ints F)) := by rw [← hFL]; exact hf
  have HP : Hid (Sl w (.slice pp bids.length pc) (ints p)) := by rw [← hpl]; exact hp
  have HFL := Lib.hid hFL
  have HPL := Lib.hid hpl
  have hr0 := row_new 73 w #[.int .i64 ((2 ^ m - 1 : Nat) : Int), .slice bp bids.length cap]
  obtain ⟨N, hN⟩ : ∃ N : Nat, 2 ^ m - 1 = N := ⟨_, rfl⟩
  rw [hN] at HALONE hr0 ⊢
  obtain ⟨W0, hW0⟩ : ∃ W0, w.alloc (.cells #[.int .i64 N, .slice bp bids.length cap] 73) = W0 := ⟨_, rfl⟩
  have HB0 : Hid (Below w.heap.size w W0) := by rw [← hW0]; exact (Below.refl w.heap.size w).alloc (Nat.le_refl _) _
  have HZ0 : Hid (W0.heap.size = w.heap.size + 1) := by rw [← hW0]; exact alloc_size _ _
  rw [hW0] at hr0
  have HR0 := Lib.hid hr0
  have d1 := hr0.cell 1
  simp only [List.getElem?_cons_zero, List.getElem?_cons_succ] at d1
  have hset64 : set < 64 := by omega
  clear hl hf hp hFL hF ho hpl hpb hr0 hN hm hset
  have hl0 : (0 : Int) ≤ (bids.length : Int) := by omega
  go_enter Tryd.func79, Tryd.ntmps79
  go_wp2
  clear hW0
  go_loopw [9, 10, 11, 17] (fun b o q i wr => ∃ k : Nat, k ≤ bids.length ∧ i = .int .i64 k ∧ BlockRel (w.heap.size + 1) w W0 set bids F p k b o q wr) (fun _ _ _ i _ => bids.length - (intOf i).toNat)
  case atStart =>
    refine ⟨0, Nat.zero_le _, rfl, [], setT (setT (setT (fun _ => none) 1 ⟨31, .slice none 0 0, []⟩) 2 ⟨2, .slice none 0 0, []⟩) 3 ⟨2, .slice none 0 0, []⟩, rfl, fun i u hu => by simp at hu, ?_, rfl, rfl, rfl, Below.refl _ _⟩
    exact (((Things.none _ _).nil 1).nil 2).nil 3
  case round =>
    clear d1
    obtain ⟨k, hk, rfl, vs, M, hvl, hvr, hth, hM1, hM2, hM3, hb⟩ := hrel
    have HVL := Lib.hid hvl
    have HVR := Lib.hid hvr
    have HTH := Lib.hid hth
    have HM1 := Lib.hid hM1
    have HM2 := Lib.hid hM2
    have HM3 := Lib.hid hM3
    have HB := Lib.hid hb
    have hbw := HB0.out.trans (hb.mono (Nat.le_succ _))
    clear hvl hvr hth hM1 hM2 hM3 hb
    have hvs : vs.length ≤ 64 := by have := selT_len set bids k; rw [← HVL.out] at this; omega
    have hls : (ints (inT set F k)).length ≤ 64 := by rw [ints_length]; have := inT_len set F k; omega
    by_cases hlt : k < bids.length
    · obtain ⟨b1, o1, c1, u, hv, _, _, _, hcu0, hsu⟩ := HL.out.row_at k hlt
      cases hv
      have hb1 : b1 < w.heap.size := by
        obtain ⟨b, o, c, _, hv, _, _, h, _, _⟩ := HL.out.row_at k hlt
        cases hv; exact h
      have hcu := (hbw.cell (p := ⟨b1, o1 + k, none⟩) hb1).trans hcu0
      obtain ⟨up, uc, rfl, hulc, hucm⟩ := hsu.form
      have HSU := Lib.hid hsu
      obtain ⟨r, hr⟩ : ∃ r, (bids.getD k []).length = r := ⟨_, rfl⟩
      rw [hr] at hcu hulc HSU
      have hd := Nat.div_le_self set (2 ^ k)
      have h1 : bits .and .i64 ((set / 2 ^ k : Nat) : Int) 1 = ((set / 2 ^ k % 2 : Nat) : Int) := by rw [← Nat.and_one_is_mod]; exact i64_and (set / 2 ^ k) 1 (by omega) (by omega)
      have hs := cast_shr set k
      have HBT : Hid (bt set k = (set / 2 ^ k % 2 == 1)) := rfl
      obtain ⟨d, hdd⟩ : ∃ d, set / 2 ^ k = d := ⟨_, rfl⟩
      rw [hdd] at h1 hd hs HBT
      have hw : IntKind.i64.wrap (d : Int) = (d : Int) := wrap_small d (by omega)
      obtain ⟨e2, he2⟩ : ∃ e2, d % 2 = e2 := ⟨_, rfl⟩
      rw [he2] at h1 HBT
      have hbx : bt set k = true ∨ bt set k = false := by cases bt set k <;> simp
      clear hsu hcu0 hr hdd he2
      rcases hbx with hbx | hbx
      · have HT := Lib.hid hbx
        have htst : ((e2 : Int) == 1) = true := by
          have := HBT.out; rw [hbx] at this; rw [beq_iff_eq]; have := (beq_iff_eq.1 this.symm); omega
        clear hbx HBT
        obtain ⟨b3, o3, c3, hv, _, _, hb3, hc3⟩ := HF.out.int_at k (by rw [HFL.out]; exact hlt)
        rw [HFL.out] at hv
        cases hv
        obtain ⟨x, hx⟩ : ∃ x, F.getD k 0 = x := ⟨_, rfl⟩
        rw [hx] at hc3
        have HX := Lib.hid hx
        have HB3 := Lib.hid hb3
        have HC3 := Lib.hid hc3
        clear hx hb3 hc3
        go_wp2
        refine wp_region_things (by kernel_rfl) 55 rfl (by kernel_rfl) [.fix u9, .fix (.slice up r uc), .box 4 31 (.slice up r uc), .app 1 2 31 u9 vs (.slice up r uc), .fix u10, .fix (.slice (some ⟨b3, o3, none⟩) bids.length fc), .fix (.int .i64 k), .fix (.pointer (some ⟨b3, o3 + k, none⟩)), .fix (.int .i64 x), .box 5 2 (.int .i64 x), .app 2 9 2 u10 (ints (inT set F k)) (.int .i64 x), .same 3, .same 10] (by rfl) ?hA (w.heap.size + 1) W0 HB.out (by rw [HZ0.out]; exact Nat.le_refl _) M HTH.out ?hM ?hop ?hQ
        case hA =>
          intro i n jb T v xs u h
          rcases i with _ | _ | _ | _ | _ | _ | _ | _ | _ | _ | _ | _ | _ | i
          all_goals (first | (cases h; exact ⟨_, rfl⟩) | cases h)
        case hM =>
          intro i n jb T v xs u h
          rcases i with _ | _ | _ | _ | _ | _ | _ | _ | _ | _ | _ | _ | _ | i
          all_goals (first | (cases h; first | exact HM1.out | exact HM2.out) | cases h)
        case hop =>
          intro i o kd hi hkd v w1 hb hV
          have hbw1 : Below w.heap.size w w1 := HB0.out.trans (hb.mono (Nat.le_succ _))
          have d3 : w1.cell? ⟨b3, o3 + k, none⟩ = some (.int .i64 x) := (hbw1.cell (p := ⟨b3, o3 + k, none⟩) HB3.out).trans HC3.out
          have hsz : w.heap.size + 1 ≤ w1.heap.size := by have := hb.size; rw [HZ0.out] at this; exact this
          clear hb hbw1
          have hi' : i < 13 := (List.getElem?_eq_some_iff.1 hi).1
          rcases (by omega : i = 0 ∨ i = 1 ∨ i = 2 ∨ i = 3 ∨ i = 4 ∨ i = 5 ∨ i = 6 ∨ i = 7 ∨ i = 8 ∨ i = 9 ∨ i = 10 ∨ i = 11 ∨ i = 12) with rfl | rfl | rfl | rfl | rfl | rfl | rfl | rfl | rfl | rfl | rfl | rfl | rfl
          · cases hi
            cases hkd
            clear hi'
            refine .inl ⟨rfl, ?_⟩
            clear hV
            simp only [List.take_succ_cons, List.take_zero, putAll, Ob]
            generalize hR : FixR _ _ = R
            go_simp
            subst hR
            exact ⟨rfl, Below.refl _ _⟩
          · cases hi
            cases hkd
            clear hi'
            refine .inl ⟨rfl, ?_⟩
            clear hV
            simp only [List.take_succ_cons, List.take_zero, putAll, Ob]
            generalize hR : FixR _ _ = R
            go_simp
            subst hR
            exact ⟨rfl, Below.refl _ _⟩
          · cases hi
            cases hkd
            clear hi'
            refine .inl ⟨rfl, ?_⟩
            have q1 : v 1 = _ := hV 1 (by decide)
            clear hV
            simp only [List.take_succ_cons, List.take_zero, putAll, Ob]
            generalize hR : BoxR _ _ _ = R
            go_simp
            subst hR
            exact ⟨rfl, rfl⟩
          · cases hi
            cases hkd
            clear hi'
            refine .inl ⟨rfl, ?_⟩
            have q0 : v 0 = _ := hV 0 (by decide)
            clear hV
            intro g hg hrow hown
            simp only [List.take_succ_cons, List.take_zero, putAll]
            refine run_append_box (.tmp 27) (.tmp 29) 22 rfl 31 (.slice none 0 0) 24 Tryd.underlying22 Tryd.info31 rfl (by omega) (w.heap.size + 1) u9 vs ?hs hown g (.slice up r uc) ?hx hrow rfl ?hlen hsz (fun v' w' h1 h2 h3 => ⟨h1, h2, h3⟩)
            case hs => go_simp
            case hx => go_simp
            case hlen => omega
          · cases hi
            cases hkd
            clear hi'
            refine .inl ⟨rfl, ?_⟩
            clear hV
            simp only [List.take_succ_cons, List.take_zero, putAll, Ob]
            generalize hR : FixR _ _ = R
            go_simp
            subst hR
            exact ⟨rfl, Below.refl _ _⟩
          · cases hi
            cases hkd
            clear hi'
            refine .inl ⟨rfl, ?_⟩
            clear hV
            simp only [List.take_succ_cons, List.take_zero, putAll, Ob]
            generalize hR : FixR _ _ = R
            go_simp
            subst hR
            exact ⟨rfl, Below.refl _ _⟩
          · cases hi
            cases hkd
            clear hi'
            refine .inl ⟨rfl, ?_⟩
            clear hV
            simp only [List.take_succ_cons, List.take_zero, putAll, Ob]
            generalize hR : FixR _ _ = R
            go_simp
            subst hR
            exact ⟨rfl, Below.refl _ _⟩
          · cases hi
            cases hkd
            clear hi'
            refine .inl ⟨rfl, ?_⟩
            have q5 : v 5 = _ := hV 5 (by decide)
            have q6 : v 6 = _ := hV 6 (by decide)
            clear hV
            simp only [List.take_succ_cons, List.take_zero, putAll, Ob]
            generalize hR : FixR _ _ = R
            go_simp
            subst hR
            exact ⟨rfl, Below.refl _ _⟩
          · cases hi
            cases hkd
            clear hi'
            refine .inl ⟨rfl, ?_⟩
            have q7 : v 7 = _ := hV 7 (by decide)
            clear hV
            simp only [List.take_succ_cons, List.take_zero, putAll, Ob]
            generalize hR : FixR _ _ = R
            go_simp
            subst hR
            exact ⟨rfl, Below.refl _ _⟩
          · cases hi
            cases hkd
            clear hi'
            refine .inl ⟨rfl, ?_⟩
            have q8 : v 8 = _ := hV 8 (by decide)
            clear hV
            simp only [List.take_succ_cons, List.take_zero, putAll, Ob]
            generalize hR : BoxR _ _ _ = R
            go_simp
            subst hR
            exact ⟨rfl, rfl⟩
          · cases hi
            cases hkd
            clear hi'
            refine .inl ⟨rfl, ?_⟩
            have q4 : v 4 = _ := hV 4 (by decide)
            clear hV
            intro g hg hrow hown
            simp only [List.take_succ_cons, List.take_zero, putAll]
            refine run_append_box (.tmp 31) (.tmp 36) 31 rfl 2 (.int .i64 0) 8 Tryd.underlying31 Tryd.info2 rfl (by omega) (w.heap.size + 1) u10 (ints (inT set F k)) ?hs hown g (.int .i64 x) ?hx hrow rfl ?hlen hsz (fun v' w' h1 h2 h3 => ⟨h1, h2, h3⟩)
            case hs => go_simp
            case hx => go_simp
            case hlen => omega
          · cases hi
            cases hkd
            clear hi'
            refine .inl ⟨rfl, ?_⟩
            clear hV
            simp only [List.take_succ_cons, List.take_zero, putAll, Ob]
            generalize hR : FixR _ _ = R
            go_simp
            subst hR
            exact ⟨rfl, Below.refl _ _⟩
          · cases hi
            cases hkd
            clear hi'
            refine .inl ⟨rfl, ?_⟩
            clear hV
            simp only [List.take_succ_cons, List.take_zero, putAll, Ob]
            generalize hR : FixR _ _ = R
            go_simp
            subst hR
            exact ⟨rfl, Below.refl _ _⟩
        case hQ =>
          intro v w1 M' hb hth hG hO
          have e3 := (hG 3 _ rfl).2 trivial
          have e10 := (hG 10 _ rfl).2 trivial
          have e11 : v 11 = v 3 := hG 11 _ rfl trivial
          have e12 : v 12 = v 10 := hG 12 _ rfl trivial
          have e33 : M' 3 = M 3 := hO 3 (by
            intro j kd h
            rcases j with _ | _ | _ | _ | _ | _ | _ | _ | _ | _ | _ | _ | _ | j
            all_goals (cases h <;> (intro h; cases h)))
          have HREL : Hid (BlockRel (w.heap.size + 1) w W0 set bids F p (k + 1) (v 3) (v 10) u11 w1) :=
            BlockRel.inn HT.out HVL.out HVR.out HSU.out HX.out hth e3 e10 (e33.trans HM3.out) hb
          simp only [putAll, e11, e12]
          clear e3 e10 e11 e12 e33 hth hb hG hO
          go_wp2
          go_roundw
          case rel => exact ⟨k + 1, by omega, by go_num, HREL.out⟩
          case measure => simp [intOf]; omega
      · have HT := Lib.hid hbx
        have htst : ((e2 : Int) == 1) = false := by
          have := HBT.out; rw [hbx] at this; rw [beq_eq_false_iff_ne]; intro h; have := beq_eq_false_iff_ne.1 this.symm; omega
        clear hbx HBT
        obtain ⟨b3, o3, c3, hv, _, _, hb3, hc3⟩ := HP.out.int_at k (by rw [HPL.out]; exact hlt)
        rw [HPL.out] at hv
        cases hv
        obtain ⟨x, hx⟩ : ∃ x, p.getD k 0 = x := ⟨_, rfl⟩
        rw [hx] at hc3
        have HX := Lib.hid hx
        have HB3 := Lib.hid hb3
        have HC3 := Lib.hid hc3
        clear hx hb3 hc3
        have hcw := (hbw.cell (p := ⟨b3, o3 + k, none⟩) HB3.out).trans HC3.out
        have hsz : w.heap.size + 1 ≤ wr.heap.size := by have := HB.out.size; rw [HZ0.out] at this; exact this
        go_wp2_with (first | (at_builtin; refine wpList_append_thing wr rfl (.tmp 38) (.tmp 43) 31 rfl 2 (.int .i64 0) 8 Tryd.underlying31 Tryd.info2 rfl (by omega) (w.heap.size + 1) 3 M u11 (ints (outT set p k)) HTH.out HM3.out rfl (.int .i64 x) rfl rfl ?a1 hsz ?_))
        case a1 => rw [ints_length]; have := outT_len set p k; omega
        intro v' w' hth2 hb2
        have HREL : Hid (BlockRel (w.heap.size + 1) w W0 set bids F p (k + 1) u9 u10 v' w') :=
          BlockRel.out HT.out HVL.out HVR.out HX.out hth2 ((setT_other (by decide)).trans HM1.out) ((setT_other (by decide)).trans HM2.out) (setT_here _ _ _) (HB.out.trans hb2)
        clear hth2 hb2
        go_wp2
        go_roundw
        case rel => exact ⟨k + 1, by omega, by go_num, HREL.out⟩
        case measure => simp [intOf]; omega
    · obtain rfl : k = bids.length := by omega
      have HMAT : Hid (Mat wr u9 (selT set bids bids.length)) := ⟨vs, HVL.out, (HTH.out.own HM1.out).sl, fun i u hu => (HVR.out i u hu).below hbw⟩
      have HOWN : Hid (Sl wr u10 (ints (inT set F bids.length))) := (HTH.out.own HM2.out).sl
      have HPAID : Hid (Sl wr u11 (ints (outT set p bids.length))) := (HTH.out.own HM3.out).sl
      obtain ⟨bp9, bc9, rfl, _, _⟩ := HMAT.out.form_
      obtain ⟨op9, oc9, rfl, _, _⟩ := HOWN.out.form
      obtain ⟨pp9, pc9, rfl, _, _⟩ := HPAID.out.form
      have hr0 := HR0.out.below HB.out (Nat.lt_succ_self _)
      have d0 := hr0.cell 0
      have d1 := hr0.cell 1
      simp only [List.getElem?_cons_zero, List.getElem?_cons_succ] at d0 d1
      have HC1 := Lib.hid (HALONE.out wr _ HMAT.out)
      have HC2 : Hid (∀ W, Below wr.heap.size wr W → Calls Tryd.prog 48 #[.slice op9 (inT set F bids.length).length oc9] W fun e w' => e = .returned (.int .i64 (ownTo bids (bestP m bids) set bids.length)) ∧ W = w') := fun W hb => by
        have := sum_go _ _ W (HOWN.out.below hb) (Nat.le_trans (inT_len set F bids.length) (by omega)) (fun i => by have := inT_bd (B := 1000000) (by omega) HFB.out set bids.length i; omega)
        rw [HIS.out bids.length (Nat.le_refl _)] at this
        exact this
      have HC3 : Hid (∀ W, Below wr.heap.size wr W → Calls Tryd.prog 48 #[.slice pp9 (outT set p bids.length).length pc9] W fun e w' => e = .returned (.int .i64 (restTo p set bids.length)) ∧ W = w') := fun W hb => by
        have := sum_go _ _ W (HPAID.out.below hb) (Nat.le_trans (outT_len set p bids.length) (by omega)) (fun i => by have := outT_bd (B := 1000000) (by omega) HPB.out set bids.length i; omega)
        rw [HOS.out bids.length] at this
        exact this
      have hob := HOB.out
      have hrb := HRB.out
      have hwb := HWB.out
      have HBW := Lib.hid hbw
      obtain ⟨S1, hS1⟩ : ∃ S1, (selT set bids bids.length).length = S1 := ⟨_, rfl⟩
      obtain ⟨S2, hS2⟩ : ∃ S2, (inT set F bids.length).length = S2 := ⟨_, rfl⟩
      obtain ⟨S3, hS3⟩ : ∃ S3, (outT set p bids.length).length = S3 := ⟨_, rfl⟩
      obtain ⟨x1, hx1⟩ : ∃ x1, ownTo bids (bestP m bids) set bids.length = x1 := ⟨_, rfl⟩
      obtain ⟨x2, hx2⟩ : ∃ x2, restTo p set bids.length = x2 := ⟨_, rfl⟩
      obtain ⟨x3, hx3⟩ : ∃ x3, worthP m bids set = x3 := ⟨_, rfl⟩
      rw [hS1] at HC1 ⊢
      rw [hS2] at HC2 ⊢
      rw [hS3] at HC3 ⊢
      rw [hx1] at HC2 HBLK hob
      rw [hx2] at HC3 HBLK hrb
      rw [hx3] at HC1 HBLK hwb
      clear hbw hr0 HMAT HOWN HPAID HOB HRB HWB hS1 hS2 hS3 hx1 hx2 hx3 HTH HM1 HM2 HM3
      go_wp2_with fail
      refine HC1.out.mono ?_
      rintro e w1 ⟨rfl, hb1⟩
      have HB1 := Lib.hid hb1
      clear hb1 HC1
      go_wp2_with fail
      refine (HC2.out _ HB1.out).mono ?_
      rintro e w2 ⟨rfl, rfl⟩
      clear HC2
      go_wp2_with fail
      refine (HC3.out _ HB1.out).mono ?_
      rintro e w2 ⟨rfl, rfl⟩
      clear HC3
      go_wp2
      go_ret
      exact ⟨by rw [HBLK.out]; rfl, HBW.out.trans (HB1.out.mono HBW.out.size)⟩
end Go.Proofs.YthbfgmgpploneaaDoor
