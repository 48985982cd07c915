/- The program's Apply. -/
import Derived.Test.YtllhejjcmfiebaaDoorS36
set_option linter.unusedVariables false
set_option linter.unusedSimpArgs false
set_option linter.unnecessarySimpa false
namespace Go.Proofs.YtllhejjcmfiebaaDoor
open Go.RowKit Go.Shelf
theorem Tryd.infoPos : (Tryd.prog.info? 82).map (fun i => (i.zero, i.size, i.bytes)) = some (some (.agg #[.int .i8 0, .int .i8 0, .int .i8 0, .int .i8 0, .int .i8 0, .int .i8 0, .int .i8 0, .int .i8 0, .int .i8 0]), 9, 9) := by kernel_rfl
theorem posB_of {n : Int} {q : List Int} (h : posE n q = 0) : posB n.toNat q = true := by
 unfold posE posR at h
 split at h
 ·rename_i hh
  rw [Bool.and_eq_true] at hh
  exact hh.2
 ·cases h
set_option maxRecDepth 100000 in
set_option maxHeartbeats 4000000 in
theorem given_one (v vp : Value) (g N : Nat) (l : Ps) (q : List Int) (w : World) (hl : SlP w v l) (ht : Tab w) (hq : SlA w vp (ints q))
  (hrow : Row 23 w g [vp]) (h : checkB (N : Int) l = 0) (hp : posE (N : Int) q = 0) :
  Calls Tryd.prog 49 #[.int .i64 (N : Nat), v, .slice (some ⟨g, 0, none⟩) 1 1] w fun e w' => ∃ (b : Nat) (ps : Value), e = .returned (.tuple #[.pointer (some ⟨b, 0, none⟩), ps, .int .i64 0]) ∧ BoardR w' b N (toE l) ∧
   OwnK 82 9 w.heap.size w' ps 1 (nineL (posF q q.length)) ∧ Below w.heap.size w w' := by
 have HN := Lib.hid (new_go v N l w hl ht)
 obtain ⟨N', hN', h2, h9, hlen, hr⟩ := posE_zero hp
 obtain rfl : N = N' := by omega
 have hpb := posB_of hp
 rw [Int.toNat_natCast] at hpb
 have HP := Lib.hid (fun W (hb : Below w.heap.size w W) => isPos_go vp N q W (hq.below hb) (by omega) (by omega))
 rw [hpb] at HP
 have HNP := fun W (hb : Below w.heap.size w W) => newPos_go vp N q W (hq.below hb) h9 hlen hr
 obtain ⟨F, hF⟩ : ∃ F, posF q q.length = F := ⟨_, rfl⟩
 rw [hF] at HNP ⊢
 unfold nineV at HNP
 have HNEW := Lib.hid HNP
 have HR := Lib.hid (fun W (hb : Below w.heap.size w W) => hrow.below hb hrow.lt)
 rw [h, Int.toNat_natCast] at HN
 obtain ⟨p, cap, rfl, hl1, hl2⟩ := hl.len
 obtain ⟨pq, cq, rfl, hq1, hq2⟩ := hq.form
 clear hl ht h hp hpb hq hrow HNP hN' hlen hr hF
 go_enter Tryd.func49, Tryd.ntmps49
 go_wp2_with (first | (go_at_call 67; refine (HN.out).mono ?_; rintro e w1 ⟨-, he, hb1⟩; obtain ⟨b, rfl, hbb, hbr⟩ := he rfl; have HB1 := Lib.hid hb1; have HBR := Lib.hid hbr; clear he hb1 hbr))
 go_loopw [11, 25] (fun ps i wr => ((i = .int .i64 0 ∧ ps = .slice none 0 0) ∨ (i = .int .i64 1 ∧ OwnK 82 9 w.heap.size wr ps 1 (nineL F))) ∧ BoardR wr b N (toE l) ∧ Below w.heap.size w wr) (fun _ i _ => 1 - (intOf i).toNat)
 case atStart => exact ⟨.inl ⟨rfl, rfl⟩, HBR.out, HB1.out⟩
 case round =>
  obtain ⟨hi, hbr, hbel⟩ := hrel
  have HBD := Lib.hid hbr
  have HB := Lib.hid hbel
  clear HBR HB1
  rcases hi with ⟨rfl, rfl⟩ | ⟨rfl, hown⟩
  ·have hrw := HR.out _ hbel
   have k0 := hrw.cell 0
   simp only [List.getElem?_cons_zero] at k0
   clear hbel hrw hbr
   go_wp2_with (first
    | (go_at_call 51; refine (HP.out _ HB.out).mono ?_; rintro e w2 ⟨rfl, hb2⟩; have HB2 := Lib.hid (HB.out.trans (hb2.mono HB.out.size)); have HBD2 := Lib.hid (Row.below HBD.out hb2 (Row.lt HBD.out)); clear hb2)
    | (go_at_call 52; refine (HNEW.out _ HB2.out).mono ?_; rintro e w3 ⟨rfl, hb3⟩; have HB3 := Lib.hid (HB2.out.trans (hb3.mono HB2.out.size)); have HBD3 := Lib.hid (Row.below HBD2.out hb3 (Row.lt HBD2.out)); clear hb3)
    | (at_builtin; refine wpList_append_boxK w3 rfl (.tmp 33) (.tmp 36) 76 rfl 82 _ 9 9 Tryd.underlying76 Tryd.infoPos rfl (by omega) (by omega) w.heap.size (.slice none 0 0) 0 [] rfl (World.ownsRow_nil _ _ _ _) _ ?c9 _ rfl ?c0 ?c1 ?c2 ?c3 ?_))
   try (case c9 => rfl)
   case c0 => rfl
   case c1 => simp [Value.oneCell']
   case c2 => omega
   case c3 => exact HB3.out.size
   intro v1 w4 ho hb hkp hrp
   have HO := Lib.hid ho
   have HBD4 := Lib.hid (hrp _ _ _ (by decide) HBD3.out)
   have HB4 := Lib.hid (HB3.out.trans hb)
   clear ho hb hkp hrp
   go_wp2
   go_roundw
   case rel => exact ⟨.inr ⟨by go_num, HO.out⟩, HBD4.out, HB4.out⟩
   case measure => simp [intOf]
  ·have HO := Lib.hid hown
   clear hown hbel hbr
   go_wp2
   go_ret3
   exact ⟨b, _, rfl, HBD.out, HO.out, HB.out⟩
end Go.Proofs.YtllhejjcmfiebaaDoor
