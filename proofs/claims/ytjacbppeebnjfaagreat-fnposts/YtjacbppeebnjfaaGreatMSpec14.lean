import Derived.Test.YtjacbppeebnjfaaGreatMPlain3
import Derived.Test.YtjacbppeebnjfaaGreatMPlain
import Derived.Test.YtjacbppeebnjfaaGreatMSpec9
import Derived.Test.YtjacbppeebnjfaaGreatMKt22
namespace Go.Proofs.YtjacbppeebnjfaaGreat
open Go.RowKit

def ptF (p : Pt) : List Value := [.int .i64 p.piece, .int .i64 p.fr, .int .i64 p.to]
theorem info_Part : (Tryz.prog.info? 148).map (fun i => (i.zero, i.size, i.bytes)) = some (some (.agg #[.int .i64 0, .int .i64 0, .int .i64 0]), 3, 24) := by kernel_rfl

abbrev PtRow (w : World) (base : Nat) (v : Value) (ps : List Pt) : Prop := Row w base 148 3 ptF v ps

set_option maxRecDepth 100000 in
set_option maxHeartbeats 2000000 in
theorem l2part_any (v : Value) (n : Nt) (s : St) (a b : Int) (w : World) {L : Nat} (hv : NetAt L w v n) (hs : StepOk n s) (hlen : lenOf n s.piece ≤ 10000000) (h0 : 0 ≤ lenOf n s.piece) (ha : 0 ≤ a ∧ a ≤ 10000000) (hb : 0 ≤ b ∧ b ≤ 10000000) :
  Calls Tryz.prog 65 #[v, .int .i64 s.piece, .int .i64 s.way, .int .i64 a, .int .i64 b] w fun e w' => e = .returned (.agg #[.int .i64 (partOf n s a b).piece, .int .i64 (partOf n s a b).fr, .int .i64 (partOf n s a b).to]) ∧ Below w.heap.size w w' := by
 obtain ⟨x, c, ca, cc, rfl, hp, hj⟩ := hv
 obtain ⟨p, y⟩ := s
 obtain ⟨⟨h1, h2⟩, hy⟩ := hs
 dsimp only at h1 h2 hy hlen h0 ⊢
 obtain ⟨pb, poff, rfl, hpb, c1⟩ := hp.len h1 h2
 obtain ⟨pn, rfl⟩ := Int.eq_ofNat_of_zero_le h1
 simp only [Int.toNat_natCast] at c1
 have w1 := wrap_small (x := lenOf n pn - b) (by omega) (by omega)
 have w2 := wrap_small (x := lenOf n pn - a) (by omega) (by omega)
 rcases hy with rfl | rfl
 ·have HP : Hid (partOf n ⟨pn, 1⟩ a b = ⟨pn, a, b⟩) := by unfold Hid; simp [partOf]
  go_enter Tryz.func65, Tryz.ntmps65
  go_wp2
  exact bodyPost_ret (v := .agg #[.int .i64 pn, .int .i64 a, .int .i64 b]) (by simp [results, Tryz.results65, go_sem]) rfl ⟨by rw [unhide HP], bw0⟩
 ·have HP : Hid (partOf n ⟨pn, -1⟩ a b = ⟨pn, lenOf n pn - b, lenOf n pn - a⟩) := by unfold Hid; simp [partOf]
  go_enter Tryz.func65, Tryz.ntmps65
  go_wp2
  exact bodyPost_ret (v := .agg #[.int .i64 pn, .int .i64 (lenOf n pn - b), .int .i64 (lenOf n pn - a)]) (by simp [results, Tryz.results65, go_sem]) rfl ⟨by rw [unhide HP], bw0⟩

def bodyParts (n : Nt) (t : Tr) : List Pt := bodyFrom n t.long (behind n t.front) ⟨t.front.piece, t.front.way⟩ t.back

end Go.Proofs.YtjacbppeebnjfaaGreat

namespace Go.Proofs.YtjacbppeebnjfaaGreat
open Go.RowKit

theorem spot_behind' {n : Nt} (hG : NetGood n) {s : Sp} (hs : SpotOk n s) : 0 ≤ behind n s ∧ behind n s ≤ 10000000 := by
 have hlen := hG.len hs.1.1 hs.1.2
 have h3 := hs.2.2
 unfold behind room
 split <;> omega

def enterSp (n : Nt) (e : Ed) : Sp := if e.side = 0 then ⟨e.piece, 0, 1⟩ else ⟨e.piece, lenOf n e.piece, -1⟩

set_option maxRecDepth 100000 in
set_option maxHeartbeats 2000000 in
theorem l2enter_any (v : Value) (n : Nt) (e0 : Ed) (w : World) {L : Nat} (hv : NetAt L w v n) (he : EdFits n.pieces.length e0) :
  Calls Tryz.prog 62 #[v, .agg #[.int .i64 e0.piece, .int .i64 e0.side]] w fun e w' => e = .returned (.agg #[.int .i64 (enterSp n e0).piece, .int .i64 (enterSp n e0).at_, .int .i64 (enterSp n e0).way]) ∧ Below w.heap.size w w' := by
 obtain ⟨x, c, ca, cc, rfl, hp, hj⟩ := hv
 obtain ⟨p, sd⟩ := e0
 obtain ⟨⟨h1, h2⟩, h3, h4⟩ := he
 dsimp only at h1 h2 h3 h4 ⊢
 obtain ⟨pb, poff, rfl, hpb, c1⟩ := hp.len h1 h2
 obtain ⟨pn, rfl⟩ := Int.eq_ofNat_of_zero_le h1
 simp only [Int.toNat_natCast] at c1
 have hpb1 : pb < w.heap.size + 1 := by omega
 have hpb2 : pb < w.heap.size + 1 + 1 := by omega
 by_cases hs : sd = 0
 ·subst hs
  have HP : Hid (enterSp n ⟨pn, 0⟩ = ⟨pn, 0, 1⟩) := by unfold Hid; simp [enterSp]
  go_enter Tryz.func62, Tryz.ntmps62
  go_wp2
  exact bodyPost_ret (v := .agg #[.int .i64 pn, .int .i64 0, .int .i64 1]) (by simp [results, Tryz.results62, go_sem]) rfl ⟨by rw [unhide HP], bw0⟩
 ·have hsb := ne_beq hs
  have HP : Hid (enterSp n ⟨pn, sd⟩ = ⟨pn, lenOf n pn, -1⟩) := by unfold Hid; simp [enterSp, hs]
  clear hs
  go_enter Tryz.func62, Tryz.ntmps62
  go_wp2_with fail
  go_region
  go_wp2
  exact bodyPost_ret (v := .agg #[.int .i64 pn, .int .i64 (lenOf n pn), .int .i64 (-1)]) (by simp [results, Tryz.results62, go_sem]) rfl ⟨by rw [unhide HP], bw0⟩

theorem enter_twd {n : Nt} {e : Ed} (he : EdFits n.pieces.length e) : (⟨(enterSp n e).piece, -(enterSp n e).way⟩ : St) = twd e := by
 obtain ⟨p, sd⟩ := e
 have := he.2
 dsimp only at this
 unfold enterSp twd
 by_cases h : sd = 0
 ·simp [h]
 ·have h1 : sd = 1 := by omega
  simp [h1]

set_option maxRecDepth 100000 in
set_option maxHeartbeats 8000000 in
theorem specPlace_any (v : Value) (n : Nt) (zq : Option Addr) (zs : List Int) (zc : Nat) (s : Sp) (long : Int) (w : World) {L L' : Nat} (hv : NetAt L w v n) (hz : IntsAt L' w zq zs) (hl : n.pieces.length ≤ 1048576) (hl' : n.joints.length ≤ 1048576)
  (hle : ∀ i (h : i < n.joints.length), n.joints[i].ends.length ≤ 1048576 ∧ n.joints[i].name.size ≤ maxLen) (hnm : ∀ i (h : i < n.pieces.length), n.pieces[i].name.size ≤ maxLen) :
  Calls Tryz.prog 32 #[v, .slice zq zs.length zc, .agg #[.int .i64 s.piece, .int .i64 s.at_, .int .i64 s.way], .int .i64 long] w fun e w' => RetPl n zs s long w.heap.size e w' ∧ Below w.heap.size w w' := by
 have hvv := hv
 obtain ⟨x, c, ca, cc, rfl, hp, hj⟩ := hv
 obtain ⟨i0, hi, hz0, hz1, hz2⟩ := info_parts info_Step
 go_enter Tryz.func32, Tryz.ntmps32
 go_wp2_with fail
 refine (specLiesOk_any _ n _ zs _ _ (hvv.below ?_) (hz.below ?_) hl hl' hle hnm).mono ?_
 ·exact bw0
 ·exact bw0
 rintro e w1 ⟨hF, hb1⟩
 have hbw1 : Below w.heap.size w w1 := below_then bw0 hb1
 have hN1 : Boxed w1 w.heap.size [.slice x n.pieces.length ca, .slice c n.joints.length cc] := (((boxed_alloc _ _ _).alloc _).alloc _).below hb1
 have hS1 : Boxed w1 (w.heap.size + 1) [.int .i64 s.piece, .int .i64 s.at_, .int .i64 s.way] := ((boxedN _ _ _ (by simp)).alloc _).below hb1
 have hR1 : Boxed w1 (w.heap.size + 1 + 1) [.bool false, .int .i64 0, .int .i64 0, .int .i64 0, .int .i64 0, .slice none 0 0] := (boxedN _ _ _ (by simp)).below hb1
 have hsz1 := hbw1.size
 rcases hF with ⟨rfl, hF⟩ | ⟨rfl, hF⟩
 rotate_left
 ·have HF := hide hF
  clear hF
  have r0 := hR1.2.1 0 _ rfl
  have r1 := hR1.2.1 1 _ rfl
  have r2 := hR1.2.1 2 _ rfl
  have r3 := hR1.2.1 3 _ rfl
  have r4 := hR1.2.1 4 _ rfl
  have r5 := hR1.2.1 5 _ rfl
  have rz := hR1.2.2
  have rl := hR1.1
  go_wp2
  exact bodyPost_ret (v := .agg #[.bool false, .int .i64 0, .int .i64 0, .int .i64 0, .int .i64 0, .slice none 0 0]) (by simp [results, Tryz.results32, go_sem, r0, r1, r2, r3, r4, r5]) rfl ⟨retPl_no (Or.inl fun h => unhide HF ⟨h.1, h.2.1⟩), below_set6 hbw1 (by omega) _ _ _ _ _ _⟩
 have HF := hide hF
 clear hF
 have hG := netGood (unhide HF).1
 have a0 := hN1.2.1 0 _ rfl
 have a1 := hN1.2.1 1 _ rfl
 have s0 := hS1.2.1 0 _ rfl
 have s1 := hS1.2.1 1 _ rfl
 have s2 := hS1.2.1 2 _ rfl
 go_wp2_with fail
 refine (l2spot_any _ n s _ (hvv.below hbw1) hl).mono ?_
 rintro e w2 ⟨hP, hb2⟩
 have hbw2 := below_then hbw1 hb2
 have hN2 := hN1.below hb2
 have hS2 := hS1.below hb2
 have hR2 := hR1.below hb2
 have hsz2 := hbw2.size
 clear a0 a1 s0 s1 s2
 rcases hP with ⟨rfl, hP⟩ | ⟨rfl, hP⟩
 rotate_left
 ·have HP := hide hP
  clear hP
  have r0 := hR2.2.1 0 _ rfl
  have r1 := hR2.2.1 1 _ rfl
  have r2 := hR2.2.1 2 _ rfl
  have r3 := hR2.2.1 3 _ rfl
  have r4 := hR2.2.1 4 _ rfl
  have r5 := hR2.2.1 5 _ rfl
  have rz := hR2.2.2
  have rl := hR2.1
  go_wp2
  exact bodyPost_ret (v := .agg #[.bool false, .int .i64 0, .int .i64 0, .int .i64 0, .int .i64 0, .slice none 0 0]) (by simp [results, Tryz.results32, go_sem, r0, r1, r2, r3, r4, r5]) rfl ⟨retPl_no (Or.inl fun h => unhide HP h.2.2.1), below_set6 hbw2 (by omega) _ _ _ _ _ _⟩
 have HP := hide hP
 clear hP
 by_cases hW : 1 ≤ long ∧ long ≤ 100000
 rotate_left
 ·have hWb := inB_false hW
  have HW := hide hW
  clear hW
  go_wp2_with fail
  refine (l1in_F _ _ _ _ hWb).mono ?_
  rintro e w3 ⟨rfl, hw3⟩
  subst hw3
  have r0 := hR2.2.1 0 _ rfl
  have r1 := hR2.2.1 1 _ rfl
  have r2 := hR2.2.1 2 _ rfl
  have r3 := hR2.2.1 3 _ rfl
  have r4 := hR2.2.1 4 _ rfl
  have r5 := hR2.2.1 5 _ rfl
  have rz := hR2.2.2
  have rl := hR2.1
  go_wp2
  exact bodyPost_ret (v := .agg #[.bool false, .int .i64 0, .int .i64 0, .int .i64 0, .int .i64 0, .slice none 0 0]) (by simp [results, Tryz.results32, go_sem, r0, r1, r2, r3, r4, r5]) rfl ⟨retPl_no (Or.inl fun h => unhide HW h.2.2.2), below_set6 hbw2 (by omega) _ _ _ _ _ _⟩
 have hWb := inB_true hW
 have HGOOD : Hid (PlaceGood n zs s long) := ⟨(unhide HF).1, (unhide HF).2, unhide HP, hW⟩
 go_wp2_with fail
 refine (l1in_T _ _ _ _ hWb).mono ?_
 rintro e w3 ⟨rfl, hw3⟩
 subst hw3
 have hlen := hG.len (unhide HP).1.1 (unhide HP).1.2
 have hbeh := spot_behind' hG (unhide HP)
 have hA3 : Below w3.heap.size w3 (w3.alloc (.cells #[.int .i64 s.piece, .int .i64 s.at_, .int .i64 s.way, .int .i64 long, .slice none 0 0] 32)) := bw0
 have a0 := hN2.2.1 0 _ rfl
 have a1 := hN2.2.1 1 _ rfl
 have s0 := hS2.2.1 0 _ rfl
 have s1 := hS2.2.1 1 _ rfl
 have s2 := hS2.2.1 2 _ rfl
 have nl := hN2.1
 have sl := hS2.1
 have rl := hR2.1
 go_wp2_with fail
 refine (l2behind_any _ n s _ (hvv.below (below_then hbw2 hA3)) (unhide HP) hlen.2).mono ?_
 rintro e w4 ⟨rfl, hb4⟩
 have hb34 := below_then hA3 hb4
 have hbw4 := below_then hbw2 hb34
 have hN4 := hN2.below hb34
 have hS4 := hS2.below hb34
 have hR4 := hR2.below hb34
 have hT4 : Boxed w4 w3.heap.size [.int .i64 s.piece, .int .i64 s.at_, .int .i64 s.way, .int .i64 long, .slice none 0 0] := (boxed_alloc _ _ _).below hb4
 have hsz4 := hb34.size
 have tl4 := hT4.1
 clear a0 a1 s0 s1 s2
 obtain ⟨beh, hbe⟩ : ∃ beh, behind n s = beh := ⟨_, rfl⟩
 rw [hbe] at hbeh ⊢
 have HBE := hide hbe
 clear hbe
 have s0 := hS4.2.1 0 _ rfl
 have s2 := hS4.2.1 2 _ rfl
 have HW := hide hW
 go_wp2_with fail
 go_loopw [10] (fun z wr => ∃ (xs : List St) (h : Int) (u : Value) (at_ : St), z = .int .i64 h ∧ h = beh + sumLen n xs ∧ (0 ≤ h ∧ h ≤ 100000000000) ∧ Hid (Lays (NxBack n zs) n (beh - long) ⟨s.piece, s.way⟩ xs at_) ∧ xs.length ≤ 200 ∧ StepOk n at_
   ∧ Hid (StRow wr (w4.heap.size + 1) u xs) ∧ Boxed wr w.heap.size [.slice x n.pieces.length ca, .slice c n.joints.length cc] ∧ Boxed wr (w.heap.size + 1 + 1) [.bool false, .int .i64 0, .int .i64 0, .int .i64 0, .int .i64 0, .slice none 0 0]
   ∧ Boxed wr w3.heap.size [.int .i64 s.piece, .int .i64 s.at_, .int .i64 s.way, .int .i64 long, u] ∧ Boxed wr w4.heap.size [.int .i64 at_.piece, .int .i64 at_.way] ∧ Below w.heap.size w wr) (fun z _ => (long - intOf z).toNat)
 case atStart =>
  exact ⟨[], beh, .slice none 0 0, ⟨s.piece, s.way⟩, rfl, by simp [sumLen_nil], by omega, hide (Lays.nil _ _ _ _), by simp, ⟨(unhide HP).1, (unhide HP).2.1⟩, hide (Row.nil _ _ _ _ _), hN4.alloc _, hR4.alloc _, hT4.alloc _, boxed_alloc _ _ _, below_then hbw4 bw0⟩
 case round =>
  clear s0 s2
  obtain ⟨xs, h, u, at_, rfl, hsum, hh, HLAY, hx200, hok, HROW, hN, hR, hT, hA, hb⟩ := hrel
  have HSUM := hide hsum
  have HOK := hide hok
  have hszr := hb.size
  have nlr := hN.1
  have rlr := hR.1
  have tlr := hT.1
  have alr := hA.1
  have t4 := hT.2.1 4 _ rfl
  obtain ⟨ua, ucap, rfl, huc, _⟩ := stRow_at (unhide HROW)
  clear hsum
  by_cases hlt : h < long
  ·obtain ⟨ap, ay⟩ := at_
   obtain ⟨i, kk, hstd⟩ := stands_some (hG.hd hok.1.1 hok.1.2 (-ay))
   dsimp only at hstd
   obtain ⟨r, hr⟩ : ∃ r, OverIs n zs i kk r := ⟨_, hstd.1, by rw [(unhide HF).2.1]; exact hstd.1, rfl⟩
   have hNx : ∀ q, ((r.2 ≠ 0 ∧ q = none) ∨ (r.2 = 0 ∧ q = some (twd r.1, twd r.1))) → NxBack n zs ⟨ap, ay⟩ q := fun q hq => ⟨i, kk, r, hstd, hr, hq⟩
   have hfitR : r.2 = 0 → EdFits n.pieces.length r.1 := fun hq => by obtain ⟨g1, g2, g3⟩ := hr; exact overJ_fits hG g1 hstd.2.1 g3 hq
   have hay : ay = 1 ∨ ay = -1 := hok.2
   have hneg : IntKind.i64.wrap (-ay) = -ay := wrap_small (by omega) (by omega)
   have hfitE : EdFits n.pieces.length (hd ap (-ay)) := stands_fits hG hstd
   have HNX := hide hNx
   have HFITR := hide hfitR
   have HR := hide hr
   have HSTD := hide hstd
   clear hNx hfitR hr hstd hok hay
   obtain ⟨⟨rp, rs⟩, rc⟩ := r
   obtain ⟨oe, hoe⟩ : ∃ oe, overEnd (hd ap (-ay)) (⟨rp, rs⟩, rc) = oe := ⟨_, rfl⟩
   have HOE := hide hoe
   clear hoe
   obtain ⟨op, os⟩ := oe
   dsimp only at hA
   have a0 := hN.2.1 0 _ rfl
   have a1 := hN.2.1 1 _ rfl
   have b0 := hA.2.1 0 _ rfl
   have b1 := hA.2.1 1 _ rfl
   have ne0 : ¬ wr.heap.size = w.heap.size := by omega
   have ne1 : ¬ w.heap.size = wr.heap.size := by omega
   have ne2 : ¬ wr.heap.size = w4.heap.size := by omega
   have ne3 : ¬ w4.heap.size = wr.heap.size := by omega
   go_upto_region 7 with fail
   go_cut [12, 13] (fun p z wx => ∃ B, p = .pointer (some ⟨B, 0, none⟩) ∧ z = .int .i64 rc ∧ wr.heap.size ≤ B ∧ Boxed wx B [.int .i64 op, .int .i64 os] ∧ Below wr.heap.size wr wx)
   case first =>
    go_region_held3 (fun w' => w'.cell? ⟨w.heap.size, 0, none⟩ = some (.slice x n.pieces.length ca) ∧ w'.cell? ⟨w.heap.size, 1, none⟩ = some (.slice c n.joints.length cc)
      ∧ w'.cell? ⟨w4.heap.size, 0, none⟩ = some (.int .i64 ap) ∧ w'.cell? ⟨w4.heap.size, 1, none⟩ = some (.int .i64 ay))
     (((try dsimp only); (repeat' apply And.intro)) <;> (go_keep; done))
     (first
      | (go_at_call 61; refine (l2head_any _ _ _).mono ?_; rintro e w5 ⟨rfl, hb5⟩; obtain ⟨hc5, hf5⟩ := bcell hb5; have sz5 := hb5.size; (try simp at sz5); (try have lt5 := Nat.lt_of_succ_le sz5); have new10 : ¬ w5.heap.size = w4.heap.size := (by omega); have mew10 : ¬ w4.heap.size = w5.heap.size := (by omega); have new11 : ¬ w5.heap.size = w.heap.size := (by omega); have mew11 : ¬ w.heap.size = w5.heap.size := (by omega); have q0 := hc5 (w.heap.size) (0) (by first | (simp; done) | (simp; omega) | omega); have q1 := hc5 (w.heap.size) (1) (by first | (simp; done) | (simp; omega) | omega); have q2 := hc5 (w4.heap.size) (0) (by first | (simp; done) | (simp; omega) | omega); have q3 := hc5 (w4.heap.size) (1) (by first | (simp; done) | (simp; omega) | omega))
      | (go_at_call 60; refine (l2over_any _ n _ zs _ (hd ap (-ay)) i kk (⟨rp, rs⟩, rc) _ (hvv.below (below_then hb ?_)) (hz.below (below_then hb ?_)) hG (unhide HF).2 hfitE (unhide HSTD) (unhide HR)).mono ?_; (first | exact below_then bw0 hb5 | exact below_then (below_then bw0 hb5) bw0); (first | exact below_then bw0 hb5 | exact below_then (below_then bw0 hb5) bw0); rw [unhide HOE]; rintro e w6 ⟨rfl, hb6⟩; obtain ⟨hc6, hf6⟩ := bcell hb6; have sz6 := hb6.size; (try simp at sz6); (try have lt6 := Nat.lt_of_succ_le sz6); have new20 : ¬ w6.heap.size = w4.heap.size := (by omega); have mew20 : ¬ w4.heap.size = w6.heap.size := (by omega); have new21 : ¬ w6.heap.size = w.heap.size := (by omega); have mew21 : ¬ w.heap.size = w6.heap.size := (by omega); have r0 := hc6 (w.heap.size) (0) (by first | (have := hb5.size; omega) | (have := hb5.size; simp at this ⊢; omega) | (simp; omega)); have r1 := hc6 (w.heap.size) (1) (by first | (have := hb5.size; omega) | (have := hb5.size; simp at this ⊢; omega) | (simp; omega)); have r2 := hc6 (w4.heap.size) (0) (by first | (have := hb5.size; omega) | (have := hb5.size; simp at this ⊢; omega) | (simp; omega)); have r3 := hc6 (w4.heap.size) (1) (by first | (have := hb5.size; omega) | (have := hb5.size; simp at this ⊢; omega) | (simp; omega))))
    all_goals go_wp2_with fail
    all_goals go_meet
    ·refine ⟨_, rfl, rfl, by omega, boxed_alloc _ _ _, below_then (below_then (below_then bw0 hb5) hb6) bw0⟩
    ·have hZ : Boxed w6 w5.heap.size [.int .i64 0, .int .i64 0] := (boxed_alloc _ _ _).below hb6
     refine ⟨_, rfl, rfl, by omega, hZ.put2 _ _, ?_⟩
     have hbw6 := below_then (below_then (below_then (bw0 : Below wr.heap.size wr _) hb5) bw0) hb6
     exact (bw1 hbw6)
    ·have hZ : Boxed w6 wr.heap.size [.int .i64 0, .int .i64 0] := (((boxed_alloc _ _ _).drew).below hb5).below hb6
     refine ⟨_, rfl, rfl, by omega, hZ.put2 _ _, ?_⟩
     have hbw6 := below_then (below_then (bw0 : Below wr.heap.size wr _) hb5) hb6
     exact (bw1 hbw6)
   case rest =>
    obtain ⟨B, rfl, rfl, hBl, hBe, hbc⟩ := hcut
    have hbwc := below_then hb hbc
    have hNc := hN.below hbc
    have hRc := hR.below hbc
    have hTc := hT.below hbc
    have hAc := hA.below hbc
    have HROWc := hide ((unhide HROW).below hbc)
    have szc := hbc.size
    clear a0 a1 b0 b1 t4
    have t4 := hTc.2.1 4 _ rfl
    by_cases hq : rc = 0
    rotate_left
    ·have hqb := ne_beq hq
     have hqn : (rc != 0) = true := by simp [bne, hqb]
     have HNO : Hid (LayNo (NxBack n zs) n (behind n s - long) ⟨s.piece, s.way⟩) := by
      rw [← unhide HBE] at HLAY
      exact ⟨xs, _, unhide HLAY, by have := unhide HSUM; rw [unhide HBE]; omega, Or.inl (unhide HNX none (Or.inl ⟨hq, rfl⟩))⟩
     clear hq
     have r0 := hRc.2.1 0 _ rfl
     have r1 := hRc.2.1 1 _ rfl
     have r2 := hRc.2.1 2 _ rfl
     have r3 := hRc.2.1 3 _ rfl
     have r4 := hRc.2.1 4 _ rfl
     have r5 := hRc.2.1 5 _ rfl
     have rz := hRc.2.2
     have rl := hRc.1
     go_wp2
     exact bodyPost_ret (v := .agg #[.bool false, .int .i64 0, .int .i64 0, .int .i64 0, .int .i64 0, .slice none 0 0]) (by simp [results, Tryz.results32, go_sem, r0, r1, r2, r3, r4, r5]) rfl ⟨retPl_no (Or.inr ⟨unhide HGOOD, unhide HNO⟩), below_set6 hbwc (by omega) _ _ _ _ _ _⟩
    subst hq
    obtain ⟨e1, e2⟩ : op = rp ∧ os = rs := by
     have := unhide HOE
     simp [overEnd] at this
     exact ⟨this.1.symm, this.2.symm⟩
    subst e1 e2
    have hfit := unhide HFITR rfl
    have hnx := unhide HNX _ (Or.inr ⟨rfl, rfl⟩)
    dsimp only at hfit hnx
    by_cases hx : xs.length = 200
    ·have hx2 : ((xs.length : Int) == 200) = true := by simp; omega
     have HNO : Hid (LayNo (NxBack n zs) n (behind n s - long) ⟨s.piece, s.way⟩) := by
      rw [← unhide HBE] at HLAY
      exact ⟨xs, _, unhide HLAY, by have := unhide HSUM; rw [unhide HBE]; omega, Or.inr ⟨hx, _, hnx⟩⟩
     clear hx hnx hfit
     have r0 := hRc.2.1 0 _ rfl
     have r1 := hRc.2.1 1 _ rfl
     have r2 := hRc.2.1 2 _ rfl
     have r3 := hRc.2.1 3 _ rfl
     have r4 := hRc.2.1 4 _ rfl
     have r5 := hRc.2.1 5 _ rfl
     have rz := hRc.2.2
     have rl := hRc.1
     go_wp2
     exact bodyPost_ret (v := .agg #[.bool false, .int .i64 0, .int .i64 0, .int .i64 0, .int .i64 0, .slice none 0 0]) (by simp [results, Tryz.results32, go_sem, r0, r1, r2, r3, r4, r5]) rfl ⟨retPl_no (Or.inr ⟨unhide HGOOD, unhide HNO⟩), below_set6 hbwc (by omega) _ _ _ _ _ _⟩
    ·have hx2 : ((xs.length : Int) == 200) = false := by simp; omega
     have hx3 : xs.length < 200 := by omega
     clear hx
     have htw := enter_twd (n := n) hfit
     have hyok := twd_ok hfit
     obtain ⟨en, hen⟩ : ∃ en, enterSp n ⟨op, os⟩ = en := ⟨_, rfl⟩
     have hlays := (unhide HLAY).snoc hnx hyok (by have := unhide HSUM; omega) (by omega)
     rw [← htw] at hlays hyok
     rw [hen] at hlays hyok
     have HEN := hide hen
     have hway : en.way = 1 ∨ en.way = -1 := by rw [← hen]; unfold enterSp; split <;> simp
     clear hen htw hnx
     obtain ⟨ep, ea, ey⟩ := en
     dsimp only at hway hlays hyok
     have hneg2 : IntKind.i64.wrap (-ey) = -ey := wrap_small (by omega) (by omega)
     have HFIT := hide hfit
     have HYOK := hide hyok
     have HLAYS := hide hlays
     have hylen := hG.len hyok.1.1 hyok.1.2
     have hy0 := hyok.1
     dsimp only at hylen hy0
     clear hfit hyok hlays hway
     obtain ⟨epn, rfl⟩ := Int.eq_ofNat_of_zero_le hy0.1
     obtain ⟨pb, poff, rfl, hpb, p1w⟩ := hp.len hy0.1 hy0.2
     simp only [Int.toNat_natCast] at p1w
     have a0 := hNc.2.1 0 _ rfl
     have a1 := hNc.2.1 1 _ rfl
     have b0 := hBe.2.1 0 _ rfl
     have b1 := hBe.2.1 1 _ rfl
     have bl := hBe.1
     go_wp2_with fail
     refine (l2enter_any _ n ⟨op, os⟩ _ (hvv.below hbwc) (unhide HFIT)).mono ?_
     rw [unhide HEN]
     rintro e w7 ⟨rfl, hb7⟩
     have hbw7 := below_then hbwc hb7
     have hN7 := hNc.below hb7
     have hR7 := hRc.below hb7
     have hT7 := hTc.below hb7
     have hA7 := hAc.below hb7
     have hrow7 := (unhide HROWc).below hb7
     have sz7 := hb7.size
     have HROW7 := hide hrow7
     clear a0 a1 b0 b1 bl t4 hrow7
     have t4 := hT7.2.1 4 _ rfl
     have c0 := hA7.2.1 0 _ rfl
     have c1 := hA7.2.1 1 _ rfl
     have cz := hA7.2.2
     have n7 := hN7.1
     have t7 := hT7.1
     have l7 := hA7.1
     have r7 := hR7.1
     have ne8 : ¬ w7.heap.size = w4.heap.size := by omega
     have ne9 : ¬ w4.heap.size = w7.heap.size := by omega
     have ne10 : ¬ w3.heap.size = w4.heap.size := by omega
     have ne11 : ¬ w4.heap.size = w3.heap.size := by omega
     have ne12 : ¬ w3.heap.size = w7.heap.size := by omega
     dsimp only
     go_wp2_with (at_builtin; refine wpList_append_lies _ rfl (.tmp 78) (.tmp 80) 30 rfl (w4.heap.size + 1) 67 i0 (.agg #[.int .i64 0, .int .i64 0]) 2 16 Tryz.underlying30 hi hz0 hz1 hz2 rfl (by decide) _ _ _ rfl ((((unhide HROW7).setCell (show w4.heap.size < w4.heap.size + 1 by omega) _).setCell (show w4.heap.size < w4.heap.size + 1 by omega) _).below bw0) _ 1 1 (stF ⟨epn, -ey⟩) rfl rfl ?c1 (st_one _) (by omega) ?c3 ?c4 ?c5 _ rfl ?_)
     case c1 => exact st_news (x := ⟨epn, -ey⟩) (boxedN _ _ _ (by simp))
     case c3 => unfold maxLen; omega
     case c4 => omega
     case c5 => simp; omega
     intro g gcap w8 hown8 hgrow hat hlt8
     have hrowW : StRow (((w7.setCell ⟨w4.heap.size, 0, none⟩ (.int .i64 epn)).setCell ⟨w4.heap.size, 1, none⟩ (.int .i64 (-ey))).alloc (.cells #[.int .i64 epn, .int .i64 ea, .int .i64 ey] 29)) (w4.heap.size + 1) (.slice ua xs.length ucap) xs :=
      (((unhide HROW7).setCell (show w4.heap.size < w4.heap.size + 1 by omega) _).setCell (show w4.heap.size < w4.heap.size + 1 by omega) _).below bw0
     have hbwV := (hbw7.setCell (p := ⟨w4.heap.size, 0, none⟩) (show w.heap.size ≤ w4.heap.size by omega) (.int .i64 epn)).setCell (p := ⟨w4.heap.size, 1, none⟩) (show w.heap.size ≤ w4.heap.size by omega) (.int .i64 (-ey))
     have hbwW := hbwV.alloc hbwV.size (.cells #[.int .i64 epn, .int .i64 ea, .int .i64 ey] 29)
     have hb8 : Below w.heap.size w w8 := row_below_grown hrowW hbwW hgrow (by omega) hbwW.size
     have hN8 := row_boxed_grown hrowW hgrow (by omega) (((hN7.apart (p := ⟨w4.heap.size, 0, none⟩) (show w.heap.size ≠ w4.heap.size by omega) _).apart (p := ⟨w4.heap.size, 1, none⟩) (show w.heap.size ≠ w4.heap.size by omega) _).alloc _)
     have hR8 := row_boxed_grown hrowW hgrow (by omega) (((hR7.apart (p := ⟨w4.heap.size, 0, none⟩) (show w.heap.size + 1 + 1 ≠ w4.heap.size by omega) _).apart (p := ⟨w4.heap.size, 1, none⟩) (show w.heap.size + 1 + 1 ≠ w4.heap.size by omega) _).alloc _)
     have hT8 := row_boxed_grown hrowW hgrow (by omega) (((hT7.apart (p := ⟨w4.heap.size, 0, none⟩) (show w3.heap.size ≠ w4.heap.size by omega) _).apart (p := ⟨w4.heap.size, 1, none⟩) (show w3.heap.size ≠ w4.heap.size by omega) _).alloc _)
     have hA8 := row_boxed_grown hrowW hgrow (by omega) ((hA7.set2 (.int .i64 epn) (.int .i64 (-ey))).alloc _)
     have hrow8 : StRow w8 (w4.heap.size + 1) (.slice (some ⟨g, 0, none⟩) (xs.length + 1) gcap) (xs ++ [⟨epn, -ey⟩]) := Row.snoc hown8
     have HROW8 := hide hrow8
     clear hrow8 hown8 hgrow hrowW hbwV hbwW hat t4 c0 c1 cz
     have t4 := hT8.2.1 4 _ rfl
     have tz := hT8.2.2
     have t8 := hT8.1
     have a0 := hN8.2.1 0 _ rfl
     have n8 := hN8.1
     have c0 := hA8.2.1 0 _ rfl
     have l8 := hA8.1
     have p1 := (hb8.cell hpb).trans p1w
     have hpb8 : pb < w8.heap.size := by have := hb8.size; omega
     have ne13 : ¬ pb = w3.heap.size := by omega
     have ne14 : ¬ w3.heap.size = pb := by omega
     have ne15 : ¬ w.heap.size = w3.heap.size := by omega
     have ne16 : ¬ w3.heap.size = w.heap.size := by omega
     go_wp2
     refine ⟨⟨xs ++ [⟨epn, -ey⟩], h + lenOf n epn, _, ⟨epn, -ey⟩, rfl, ?_, ⟨by omega, by omega⟩, HLAYS, by simp; omega, unhide HYOK, ?_, hN8.apart (p := ⟨w3.heap.size, 4, none⟩) (show w.heap.size ≠ w3.heap.size by omega) _, hR8.apart (p := ⟨w3.heap.size, 4, none⟩) (show w.heap.size + 1 + 1 ≠ w3.heap.size by omega) _, hT8.setAt (i := 4) (by simp) _, hA8.apart (p := ⟨w3.heap.size, 4, none⟩) (show w4.heap.size ≠ w3.heap.size by omega) _, hb8.setCell (p := ⟨w3.heap.size, 4, none⟩) (show w.heap.size ≤ w3.heap.size by omega) _⟩, by simp [intOf]; omega⟩
     ·have := unhide HSUM
      rw [sumLen_append, sumLen_cons, sumLen_nil]
      dsimp only
      omega
     ·have hR8' := (unhide HROW8).setCell (p := ⟨w3.heap.size, 4, none⟩) (show w3.heap.size < w4.heap.size + 1 by omega) (.slice (some ⟨g, 0, none⟩) (xs.length + 1) gcap)
      exact hide hR8'
  ·have t0 := hT.2.1 0 _ rfl
   have t1 := hT.2.1 1 _ rfl
   have t2 := hT.2.1 2 _ rfl
   have t3 := hT.2.1 3 _ rfl
   have r0 := hR.2.1 0 _ rfl
   have r1 := hR.2.1 1 _ rfl
   have r2 := hR.2.1 2 _ rfl
   have r3 := hR.2.1 3 _ rfl
   have r4 := hR.2.1 4 _ rfl
   have r5 := hR.2.1 5 _ rfl
   have rz := hR.2.2
   have HLT := hide (unhide HROW).lt
   have HLK : Hid (LayOk (NxBack n zs) n (behind n s - long) ⟨s.piece, s.way⟩ xs (h - long)) := by
    rw [← unhide HBE] at HLAY
    exact ⟨_, unhide HLAY, by have := unhide HSUM; rw [unhide HBE]; omega, by omega⟩
   go_wp2
   refine bodyPost_ret (v := .agg #[.bool true, .int .i64 s.piece, .int .i64 s.at_, .int .i64 s.way, .int .i64 long, .slice ua xs.length ucap]) (by simp [results, Tryz.results32, go_sem, r0, r1, r2, r3, r4, r5]) rfl ⟨⟨true, ⟨s, long, xs⟩, ua, ucap, Or.inl ⟨unhide HGOOD, xs, _, unhide HLK, rfl, rfl⟩, rfl, ?_⟩, below_set6 hb (by omega) _ _ _ _ _ _⟩
   refine ((unhide HROW).mono (show w.heap.size ≤ _ by omega)).block fun k hk => ?_
   have hk2 := (unhide HLT k hk).1
   have hne : k ≠ w.heap.size + 1 + 1 := by omega
   rw [Below.heap_setCell _ _ _ k (by simpa using hne), Below.heap_setCell _ _ _ k (by simpa using hne), Below.heap_setCell _ _ _ k (by simpa using hne), Below.heap_setCell _ _ _ k (by simpa using hne), Below.heap_setCell _ _ _ k (by simpa using hne), Below.heap_setCell _ _ _ k (by simpa using hne)]

end Go.Proofs.YtjacbppeebnjfaaGreat

namespace Go.Proofs.YtjacbppeebnjfaaGreat
open Go.RowKit

theorem below_trim {B N M : Nat} {a w : World} (h : Below B a w) (hM : B ≤ M) (hN : B ≤ N) (u v0 v1 v2 v3 v4 : Value) :
  Below B a ((((((w.setCell ⟨M, 4, none⟩ u).setCell ⟨N, 0, none⟩ v0).setCell ⟨N, 1, none⟩ v1).setCell ⟨N, 2, none⟩ v2).setCell ⟨N, 3, none⟩ v3).setCell ⟨N, 4, none⟩ v4) :=
 (((((h.setCell (p := ⟨M, 4, none⟩) hM u).setCell (p := ⟨N, 0, none⟩) hN v0).setCell (p := ⟨N, 1, none⟩) hN v1).setCell (p := ⟨N, 2, none⟩) hN v2).setCell (p := ⟨N, 3, none⟩) hN v3).setCell (p := ⟨N, 4, none⟩) hN v4

set_option maxRecDepth 100000 in
set_option maxHeartbeats 8000000 in
theorem l3trim_any (v tv : Value) (n : Nt) (t : Tr) (w : World) {L L' : Nat} (hv : NetAt L w v n) (htv : TrAt L' w tv t) (hG : NetGood n) (hS : SpotOk n t.front) (hsteps : ∀ x ∈ t.back, StepOk n x) (h200 : t.back.length ≤ 1000) :
  Calls Tryz.prog 58 #[v, tv] w fun e w' => ∃ a cap, e = .returned (.agg #[.int .i64 t.front.piece, .int .i64 t.front.at_, .int .i64 t.front.way, .int .i64 t.long, .slice a (takeLen n t.long (behind n t.front) t.back).length cap]) ∧ StRow w' w.heap.size (.slice a (takeLen n t.long (behind n t.front) t.back).length cap) (takeLen n t.long (behind n t.front) t.back) ∧ Below w.heap.size w w' := by
 have hvv := hv
 obtain ⟨x, c, ca, cc, rfl, hp, hj⟩ := hv
 obtain ⟨ba, bc, rfl, hst⟩ := htv
 obtain ⟨⟨fp, fa, fy⟩, long, back⟩ := t
 dsimp only at hst h200 hS hsteps ⊢
 have hlen := hG.len hS.1.1 hS.1.2
 have hbeh := spot_behind' hG hS
 dsimp only at hlen
 obtain ⟨i0, hi, hz0, hz1, hz2⟩ := info_parts info_Step
 have HST := hide hsteps
 have HS := hide hS
 clear hsteps
 go_enter Tryz.func58, Tryz.ntmps58
 go_wp2_with fail
 refine (l2behind_any _ n ⟨fp, fa, fy⟩ _ (hvv.below ?_) hS hlen.2).mono ?_
 ·exact bw0
 rintro e w1 ⟨rfl, hb1⟩
 have hbw1 : Below w.heap.size w w1 := below_then bw0 hb1
 have hN1 : Boxed w1 w.heap.size [.slice x n.pieces.length ca, .slice c n.joints.length cc] := (((boxed_alloc _ _ _).alloc _).alloc _).below hb1
 have hT1 : Boxed w1 (w.heap.size + 1) [.int .i64 fp, .int .i64 fa, .int .i64 fy, .int .i64 long, .slice ba back.length bc] := ((boxedN _ _ _ (by simp)).alloc _).below hb1
 have hR1 : Boxed w1 (w.heap.size + 1 + 1) [.int .i64 0, .int .i64 0, .int .i64 0, .int .i64 0, .slice none 0 0] := (boxedN _ _ _ (by simp)).below hb1
 have b4 := hT1.2.1 4 _ rfl
 have n1 := hR1.1
 obtain ⟨beh, hbe⟩ : ∃ beh, behind n ⟨fp, fa, fy⟩ = beh := ⟨_, rfl⟩
 rw [hbe] at hbeh ⊢
 have HBE := hide hbe
 clear hbe hS
 go_wp2_with fail
 go_loopw [5, 6, 16] (fun y u z wr => ∃ (k : Nat) (hv : Int) (ps : List St), k ≤ back.length ∧ y = .int .i64 hv ∧ z = .int .i64 k ∧ (0 ≤ hv ∧ hv ≤ 10000000 + 10000000 * (k : Int)) ∧ Hid (ps ++ takeLen n long hv (back.drop k) = takeLen n long beh back) ∧ ps.length ≤ k
   ∧ Hid (StRow wr (w.heap.size + 1 + 1 + 1) u ps) ∧ Boxed wr w.heap.size [.slice x n.pieces.length ca, .slice c n.joints.length cc] ∧ Boxed wr (w.heap.size + 1) [.int .i64 fp, .int .i64 fa, .int .i64 fy, .int .i64 long, .slice ba back.length bc]
   ∧ Boxed wr (w.heap.size + 1 + 1) [.int .i64 0, .int .i64 0, .int .i64 0, .int .i64 0, .slice none 0 0] ∧ Below w.heap.size w wr) (fun _ _ z _ => back.length - (intOf z).toNat)
 case atStart => exact ⟨0, beh, [], Nat.zero_le _, rfl, rfl, by omega, hide (by simp), by simp, hide (Row.nil _ _ _ _ _), hN1, hT1, hR1, hbw1⟩
 case round =>
  clear b4
  obtain ⟨k, hv, ps, hk, rfl, rfl, hhv, HPS, hpl, HROW, hN, hT, hR, hb⟩ := hrel
  have nn := hN.1
  have nt := hT.1
  have nr := hR.1
  have hszr := hb.size
  have a0 := hN.2.1 0 _ rfl
  have t3' := hT.2.1 3 _ rfl
  by_cases hlt : k < back.length
  ·have hdrop : back.drop k = back[k] :: back.drop (k + 1) := List.drop_eq_getElem_cons hlt
   obtain ⟨sb, soff, rfl, hsb, s0w, s1w⟩ := hst k hlt
   have s0 := (hb.cell hsb.2).trans s0w
   have s1 := (hb.cell hsb.2).trans s1w
   have hoks := unhide HST back[k] (List.getElem_mem hlt)
   generalize hx : back[k] = sk at *
   obtain ⟨sp, sy⟩ := sk
   have hlss := hG.len hoks.1.1 hoks.1.2
   have hsp := hoks.1
   have HD := hide hdrop
   dsimp only at s0 s1 s0w s1w hlss hsp
   clear hx hdrop hoks
   have hsb2 : sb < wr.heap.size := by omega
   by_cases hge : long ≤ hv
   ·have HFIN : Hid (ps = takeLen n long beh back) := by
     unfold Hid
     rw [← unhide HPS, unhide HD]
     simp [takeLen, show ¬ hv < long by omega]
    clear s0w s1w t3' a0
    have a0 := hN.2.1 0 _ rfl
    have hrow := unhide HROW
    rw [unhide HFIN] at hrow
    obtain ⟨ua, ucap, rfl, huc, _⟩ := stRow_at hrow
    have HR := hide hrow
    have HLT := hide hrow.lt
    clear hrow HROW
    have t0 := hT.2.1 0 _ rfl
    have t1 := hT.2.1 1 _ rfl
    have t2 := hT.2.1 2 _ rfl
    have t3 := hT.2.1 3 _ rfl
    have t4 := hT.2.1 4 _ rfl
    have tz := hT.2.2
    have r0 := hR.2.1 0 _ rfl
    have r1 := hR.2.1 1 _ rfl
    have r2 := hR.2.1 2 _ rfl
    have r3 := hR.2.1 3 _ rfl
    have r4 := hR.2.1 4 _ rfl
    have rz := hR.2.2
    go_wp2
    refine bodyPost_ret (v := .agg #[.int .i64 fp, .int .i64 fa, .int .i64 fy, .int .i64 long, .slice ua (takeLen n long beh back).length ucap]) (by simp [results, Tryz.results58, go_sem, nr, r0, r1, r2, r3, r4]) rfl ⟨ua, ucap, by rw [unhide HBE], ?_, ?_⟩
    ·rw [unhide HBE]
     refine ((unhide HR).mono (show w.heap.size ≤ _ by omega)).block fun k hk => ?_
     have hk2 := unhide HLT k hk
     have hne : k ≠ w.heap.size + 1 + 1 := by omega
     have hne2 : k ≠ w.heap.size + 1 := by omega
     rw [((Below.refl _ _).alloc (Nat.le_refl _) _).block k (by simpa [World.setCell] using hk2.2), Below.heap_setCell _ _ _ k (by simpa using hne), Below.heap_setCell _ _ _ k (by simpa using hne), Below.heap_setCell _ _ _ k (by simpa using hne), Below.heap_setCell _ _ _ k (by simpa using hne), Below.heap_setCell _ _ _ k (by simpa using hne), Below.heap_setCell _ _ _ k (by simpa using hne2)]
    ·exact (below_trim hb (by omega) (by omega) _ _ _ _ _ _).alloc (below_trim hb (by omega) (by omega) _ _ _ _ _ _).size _
   ·have hlo : hv < long := by omega
    have HSTEP : Hid ((ps ++ [⟨sp, sy⟩]) ++ takeLen n long (hv + lenOf n sp) (back.drop (k + 1)) = takeLen n long beh back) := by
     unfold Hid
     rw [← unhide HPS, unhide HD]
     simp [takeLen, hlo]
    obtain ⟨spn, rfl⟩ := Int.eq_ofNat_of_zero_le hsp.1
    obtain ⟨pb, poff, rfl, hpb, c1w⟩ := hp.len hsp.1 hsp.2
    simp only [Int.toNat_natCast] at c1w
    go_wp2_with (at_builtin; refine wpList_append_own _ rfl (.tmp 24) (.tmp 26) 30 rfl (w.heap.size + 1 + 1 + 1) 67 i0 (.agg #[.int .i64 0, .int .i64 0]) 2 16 Tryz.underlying30 hi hz0 hz1 hz2 rfl (by decide) _ _ _ rfl ((unhide HROW).below bw0) _ 1 1 (stF ⟨spn, sy⟩) rfl rfl ?c1 (st_one _) ?c3 ?c4 ?c5 ?_)
    case c1 => exact fun j u h => by simpa [stF] using h
    case c3 => unfold maxLen; omega
    case c4 => omega
    case c5 => first | omega | (simp; omega)
    intro v' w3 hown' hgrow _
    have hrow1 := (unhide HROW).below (show Below wr.heap.size wr (wr.alloc (.cells #[.int .i64 spn, .int .i64 sy] 67)) from bw0)
    have hbA : Below w.heap.size w (wr.alloc (.cells #[.int .i64 spn, .int .i64 sy] 67)) := (bw1 hb)
    have hrow3 : StRow w3 (w.heap.size + 1 + 1 + 1) v' (ps ++ [⟨spn, sy⟩]) := Row.snoc hown'
    have hb3 : Below w.heap.size w w3 := row_below_grown hrow1 hbA hgrow (by omega) hbA.size
    have hN3 := row_boxed_grown hrow1 hgrow (by omega) (hN.alloc _)
    have hT3 := row_boxed_grown hrow1 hgrow (by omega) (hT.alloc _)
    have hR3 := row_boxed_grown hrow1 hgrow (by omega) (hR.alloc _)
    have hs3 : w3.cell? ⟨wr.heap.size, 0, none⟩ = some (.int .i64 spn) := by
     have hne : some wr.heap.size ≠ u6.ownBlock := fun hc => by have := ((unhide HROW).lt _ hc.symm).2; omega
     rw [hgrow.cell_far ⟨wr.heap.size, 0, none⟩ (by simp; omega) hne, World.cell?_alloc_past _ _ _ (by simp)]
     exact (boxed_alloc wr #[.int .i64 spn, .int .i64 sy] 67).2.1 0 _ rfl
    have HROW3 := hide hrow3
    clear hrow3 hown' hgrow hrow1 a0 t3'
    have a0 := hN3.2.1 0 _ rfl
    have p1 := (hb3.cell hpb).trans c1w
    go_wp2
    refine ⟨⟨k + 1, hv + lenOf n spn, ps ++ [⟨spn, sy⟩], by omega, rfl, by go_num, ⟨by omega, by omega⟩, HSTEP, by simp; omega, HROW3, hN3, hT3, hR3, hb3⟩, by simp [intOf]; omega⟩
  ·have hkl : k = back.length := by omega
   have HFIN : Hid (ps = takeLen n long beh back) := by
    unfold Hid
    rw [← unhide HPS, hkl]
    simp [takeLen]
   clear t3' a0 hkl
   have hrow := unhide HROW
   rw [unhide HFIN] at hrow
   obtain ⟨ua, ucap, rfl, huc, _⟩ := stRow_at hrow
   have HR := hide hrow
   have HLT := hide hrow.lt
   clear hrow HROW
   have t0 := hT.2.1 0 _ rfl
   have t1 := hT.2.1 1 _ rfl
   have t2 := hT.2.1 2 _ rfl
   have t3 := hT.2.1 3 _ rfl
   have t4 := hT.2.1 4 _ rfl
   have tz := hT.2.2
   have r0 := hR.2.1 0 _ rfl
   have r1 := hR.2.1 1 _ rfl
   have r2 := hR.2.1 2 _ rfl
   have r3 := hR.2.1 3 _ rfl
   have r4 := hR.2.1 4 _ rfl
   have rz := hR.2.2
   go_wp2
   refine bodyPost_ret (v := .agg #[.int .i64 fp, .int .i64 fa, .int .i64 fy, .int .i64 long, .slice ua (takeLen n long beh back).length ucap]) (by simp [results, Tryz.results58, go_sem, r0, r1, r2, r3, r4]) rfl ⟨ua, ucap, by rw [unhide HBE], ?_, ?_⟩
   ·rw [unhide HBE]
    refine ((unhide HR).mono (show w.heap.size ≤ _ by omega)).block fun k hk => ?_
    have hk2 := unhide HLT k hk
    have hne : k ≠ w.heap.size + 1 + 1 := by omega
    have hne2 : k ≠ w.heap.size + 1 := by omega
    rw [Below.heap_setCell _ _ _ k (by simpa using hne), Below.heap_setCell _ _ _ k (by simpa using hne), Below.heap_setCell _ _ _ k (by simpa using hne), Below.heap_setCell _ _ _ k (by simpa using hne), Below.heap_setCell _ _ _ k (by simpa using hne), Below.heap_setCell _ _ _ k (by simpa using hne2)]
   ·exact below_trim hb (by omega) (by omega) _ _ _ _ _ _

end Go.Proofs.YtjacbppeebnjfaaGreat

