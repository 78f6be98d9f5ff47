import Derived.Test.YtjacbppeebnjfaaGreatMPw7
import Derived.Test.YtjacbppeebnjfaaGreatSpec21
import Derived.Test.YtjacbppeebnjfaaGreatMFd
import Derived.Test.YtjacbppeebnjfaaGreatMReadBy
import Derived.Test.YtjacbppeebnjfaaGreatPm4
set_option linter.unusedSimpArgs false
namespace Go.Proofs.YtjacbppeebnjfaaGreat
open Go.RowKit

structure PsT (n : Nt) (zs : List Int) (t : Tr) (ax : List Int) (qs : List (Int × Int)) (F : Int) : Prop where
 net : NetRes n 0 0
 lies : LiesFit n.joints zs
 fits : TrainFits n t
 far : 0 ≤ F ∧ F ≤ 10000
 nax : ax.length ≤ 60
 nqs : qs.length ≤ 60
set_option maxRecDepth 100000 in
set_option maxHeartbeats 8000000 in
theorem specPasses_any (a c : Option Addr) (ca cc : Nat) (n : Nt) (t : Tr) (ba : Option Addr) (bc : Nat) (zq : Option Addr) (zs : List Int) (zc : Nat) (xq : Option Addr) (ax : List Int) (xc : Nat) (qa : Option Addr) (qs : List (Int × Int)) (qc : Nat) (F : Int) (w : World) {L L' L2 L3 : Nat} (hv : NetAt L w (.agg #[.slice a n.pieces.length ca, .slice c n.joints.length cc]) n) (hst : StsAt 0 w ba t.back) (hz : IntsAt L' w zq zs) (hx : IntsAt L2 w xq ax) (hq : PoAt L3 w qa qs) (hbl : t.back.length ≤ 1048576)
  (hl : n.pieces.length ≤ 1048576) (hl' : n.joints.length ≤ 1048576) (hxl : ax.length ≤ 1048576) (hql : qs.length ≤ 1048576) (hle : ∀ i (h : i < n.joints.length), n.joints[i].ends.length ≤ 1048576 ∧ n.joints[i].name.size ≤ maxLen) (hnm : ∀ i (h : i < n.pieces.length), n.pieces[i].name.size ≤ maxLen) :
  Calls Tryz.prog 8 #[.agg #[.slice a n.pieces.length ca, .slice c n.joints.length cc], .slice zq zs.length zc, .agg #[.int .i64 t.front.piece, .int .i64 t.front.at_, .int .i64 t.front.way, .int .i64 t.long, .slice ba t.back.length bc], .slice xq ax.length xc, .slice qa qs.length qc, .int .i64 F] w fun e w' => ∃ u out, e = .returned u ∧ PaRow w' w.heap.size u out ∧ PsIs n zs t ax qs F out ∧ Below w.heap.size w w' := by
 obtain ⟨i1, hj1, hy0, hy1, hy2⟩ := info_parts info_pass
 have HV := hide hv
 have HS := hide hst
 have HZ := hide hz
 have HX := hide hx
 have HQ := hide hq
 have HIN : Hid (hide hle = hide hle ∧ hide hnm = hide hnm) := ⟨rfl, rfl⟩
 clear hv hst hz hx hq HIN
 obtain ⟨H, hH⟩ : ∃ H, w.heap.size = H := ⟨_, rfl⟩
 have hHw : w.heap.size ≤ H ∧ H ≤ w.heap.size := by omega
 go_enter Tryz.func8, Tryz.ntmps8
 go_wp2_with fail
 refine (l3good_any _ _ n zq zs zc t F _ (L'' := 0) ((unhide HV).below ?b1) ((unhide HZ).below ?b2) ⟨ba, bc, rfl, (unhide HS).below ?b3⟩ hl hl' hle hnm hbl).mono ?_
 case b1 => exact bw0
 case b2 => exact bw0
 case b3 => exact bw0
 rintro e w1 ⟨hret, hb1⟩
 have hbw1 : Below w.heap.size w w1 := below_then bw0 hb1
 have hBn : Boxed w1 H [.slice a n.pieces.length ca, .slice c n.joints.length cc] := ((boxedN _ _ _ (by omega)).alloc _).below hb1
 have hBt : Boxed w1 (H + 1) [.int .i64 t.front.piece, .int .i64 t.front.at_, .int .i64 t.front.way, .int .i64 t.long, .slice ba t.back.length bc] := (boxedN _ _ _ (by simp; omega)).below hb1
 clear hb1
 rcases hret with ⟨rfl, hg⟩ | ⟨rfl, hg⟩
 rotate_left
 ·have HG := hide hg
  clear hg
  go_wp2_with fail
  go_ret
  exact ⟨_, [], rfl, Row.nil _ _ _ _ _, Or.inr ⟨fun h => unhide HG ⟨⟨h.1.1.1, h.1.2.1⟩, h.1.1.2, h.1.2.2⟩, rfl⟩, hbw1⟩
 have HG := hide hg
 clear hg
 by_cases h60 : ax.length ≤ 60
 rotate_left
 ·have h60' : ¬ (ax.length : Int) ≤ 60 := by omega
  have h60b : (60 : Int) < (ax.length : Int) := by omega
  go_wp2_with fail
  go_ret
  exact ⟨_, [], rfl, Row.nil _ _ _ _ _, Or.inr ⟨fun h => h60 h.2.1.1, rfl⟩, hbw1⟩
 have h60b : ¬ (60 : Int) < (ax.length : Int) := by omega
 by_cases hq60 : qs.length ≤ 60
 rotate_left
 ·have hq60b : (60 : Int) < (qs.length : Int) := by omega
  go_wp2_with fail
  go_ret
  exact ⟨_, [], rfl, Row.nil _ _ _ _ _, Or.inr ⟨fun h => hq60 h.2.2.1, rfl⟩, hbw1⟩
 have hq60b : ¬ (60 : Int) < (qs.length : Int) := by omega
 have HT : Hid (PsT n zs t ax qs F) := ⟨(unhide HG).1.1, (unhide HG).1.2, (unhide HG).2.1, (unhide HG).2.2, h60, hq60⟩
 have hlong := (unhide HG).2.1.2.1
 clear HG
 go_wp2_with fail
 go_loopw [45] (fun z wr => ∃ k : Nat, k ≤ ax.length ∧ z = .int .i64 k ∧ Hid (∀ i (h : i < ax.length), i < k → AxOne ax t.long i ax[i]) ∧ Boxed wr H [.slice a n.pieces.length ca, .slice c n.joints.length cc] ∧ Boxed wr (H + 1) [.int .i64 t.front.piece, .int .i64 t.front.at_, .int .i64 t.front.way, .int .i64 t.long, .slice ba t.back.length bc] ∧ Below w.heap.size w wr) (fun z _ => ax.length - (intOf z).toNat)
 case atStart => exact ⟨0, Nat.zero_le _, rfl, hide (fun i h h0 => by omega), hBn, hBt, hbw1⟩
 case round =>
  clear hBn hBt hbw1
  obtain ⟨k, hk, rfl, HI, hBn, hBt, hb⟩ := hrel
  rename World => wr
  have hsz := hb.size
  have HBN := hide hBn
  have HBT := hide hBt
  have HB := hide hb
  have t3 := hBt.2.1 3 _ rfl
  have tl := hBt.1
  clear hBn hBt
  by_cases hlt : k < ax.length
  ·have hlt' : (k : Int) < (ax.length : Int) := by omega
   obtain ⟨xb, xo, rfl, hxb, c0⟩ := (unhide HX).below hb k hlt
   have hxb2 := hxb.2
   obtain ⟨av, hav⟩ : ∃ av, ax[k] = av := ⟨_, rfl⟩
   have HAV := hide hav
   rw [hav] at c0
   clear hav
   by_cases hin : 0 ≤ av ∧ av ≤ t.long
   rotate_left
   ·have hinb := inB_false hin
    go_wp2_with fail
    refine (l1in_F _ _ _ _ hinb).mono ?_
    rintro e w2 ⟨rfl, rfl⟩
    go_wp2_with fail
    go_ret
    refine ⟨_, [], rfl, Row.nil _ _ _ _ _, Or.inr ⟨fun h => hin ?_, rfl⟩, unhide HB⟩
    have := (h.2.1.2 k hlt).1
    rw [unhide HAV] at this
    exact this
   have hinb := inB_true hin
   by_cases hk0 : 0 < k
   ·have hk0' : (0 : Int) < (k : Int) := by omega
    have hk1 : k - 1 < ax.length := by omega
    have hwk : IntKind.i64.wrap ((k : Int) - 1) = ((k - 1 : Nat) : Int) := by rw [wrap_small (by omega) (by omega)]; omega
    obtain ⟨xb', xo', ee, _, d0⟩ := (unhide HX).below (unhide HB) (k - 1) hk1
    simp only [Option.some.injEq, Addr.mk.injEq, and_true] at ee
    obtain ⟨rfl, rfl⟩ := ee
    obtain ⟨pv, hpv⟩ : ∃ pv, ax[k - 1] = pv := ⟨_, rfl⟩
    have HPV : Hid (ax.getD (k - 1) 0 = pv) := by rw [List.getD_eq_getElem?_getD, List.getElem?_eq_getElem hk1, hpv]; rfl
    rw [hpv] at d0
    clear hpv
    by_cases hlp : av < pv
    ·go_wp2_with fail
     refine (l1in_T _ _ _ _ hinb).mono ?_
     rintro e w2 ⟨rfl, rfl⟩
     go_wp2_with fail
     go_ret
     refine ⟨_, [], rfl, Row.nil _ _ _ _ _, Or.inr ⟨fun h => ?_, rfl⟩, unhide HB⟩
     have := (h.2.1.2 k hlt).2 hk0
     rw [unhide HAV, unhide HPV] at this
     omega
    ·go_wp2_with fail
     refine (l1in_T _ _ _ _ hinb).mono ?_
     rintro e w2 ⟨rfl, rfl⟩
     go_wp2_with fail
     refine ⟨⟨k + 1, by omega, by go_num, hide (fun i hi h0 => ?_), unhide HBN, unhide HBT, unhide HB⟩, by simp [intOf]; omega⟩
     by_cases e : i = k
     ·subst e
      rw [unhide HAV]
      exact ⟨hin, fun _ => by rw [unhide HPV]; omega⟩
     ·exact unhide HI i hi (by omega)
   ·have hk0' : ¬ (0 : Int) < (k : Int) := by omega
    go_wp2_with fail
    refine (l1in_T _ _ _ _ hinb).mono ?_
    rintro e w2 ⟨rfl, rfl⟩
    go_wp2_with fail
    refine ⟨⟨k + 1, by omega, by go_num, hide (fun i hi h0 => ?_), unhide HBN, unhide HBT, unhide HB⟩, by simp [intOf]; omega⟩
    by_cases e : i = k
    ·subst e
     rw [unhide HAV]
     exact ⟨hin, fun h => absurd h hk0⟩
    ·exact unhide HI i hi (by omega)
  have hkl : k = ax.length := by omega
  have HAX : Hid (AxFit ax t.long) := ⟨h60, fun i hi => unhide HI i hi (by omega)⟩
  have hlt' : ¬ (k : Int) < (ax.length : Int) := by omega
  clear HI t3 tl
  go_wp2_with fail
  go_loopw [71] (fun z wr => ∃ k : Nat, k ≤ qs.length ∧ z = .int .i64 k ∧ Hid (∀ i (h : i < qs.length), i < k → PostOk n qs[i]) ∧ Boxed wr H [.slice a n.pieces.length ca, .slice c n.joints.length cc] ∧ Boxed wr (H + 1) [.int .i64 t.front.piece, .int .i64 t.front.at_, .int .i64 t.front.way, .int .i64 t.long, .slice ba t.back.length bc] ∧ Below w.heap.size w wr) (fun z _ => qs.length - (intOf z).toNat)
  case atStart => exact ⟨0, Nat.zero_le _, rfl, hide (fun i h h0 => by omega), unhide HBN, unhide HBT, unhide HB⟩
  case round =>
   clear HBN HBT HB hb hsz hlt hlt' hkl hk
   obtain ⟨k, hk, rfl, HI, hBn, hBt, hb⟩ := hrel
   rename World => wr
   have hsz := hb.size
   have HBN := hide hBn
   have HBT := hide hBt
   have HB := hide hb
   by_cases hlt : k < qs.length
   ·have hlt' : (k : Int) < (qs.length : Int) := by omega
    obtain ⟨qb, qo, rfl, hqb, q0, q1⟩ := (unhide HQ).below hb k hlt
    have hqb2 := hqb.2
    have a0 := hBn.2.1 0 _ rfl
    have a1 := hBn.2.1 1 _ rfl
    have al := hBn.1
    obtain ⟨q, hqe⟩ : ∃ q, qs[k] = q := ⟨_, rfl⟩
    have HQE := hide hqe
    rw [hqe] at q0 q1
    obtain ⟨qp, qx⟩ := q
    dsimp only at q0 q1
    clear hqe hBn hBt
    have hw0 : IntKind.i64.wrap ((n.pieces.length : Int) - 1) = (n.pieces.length : Int) - 1 := wrap_small (by omega) (by omega)
    by_cases h1 : 0 ≤ qp ∧ qp ≤ (n.pieces.length : Int) - 1
    rotate_left
    ·have HN : Hid (¬ PsGood n zs t ax qs F) := fun h => by have := (h.2.2.2 k hlt).1; rw [unhide HQE] at this; dsimp only at this; omega
     have HW : Hid (∀ W, Calls Tryz.prog 26 #[.int .i64 qp, .int .i64 0, .int .i64 ((n.pieces.length : Int) - 1)] W fun e w' => e = .returned (.bool false) ∧ Below W.heap.size W w') := fun W => by
      have := l1in_lit qp 0 ((n.pieces.length : Int) - 1) W
      rw [decide_eq_false h1] at this
      exact this
     clear h1
     go_wp2_with fail
     refine wp_region_grown (by kernel_rfl) (by kernel_rfl) (fun hgn hgc => ?_)
     repeat (go_big_quiet_step (first | (go_at_call 26; rename_i g; exact g.call (unhide HW _))))
     refine wpQuiet_nil ?_
     intro wq hwq
     have hbq : Below w.heap.size w wq := by obtain ⟨g, rfl⟩ := hwq; exact below_then hb (below_then bw0 g.below)
     clear hwq hgc hgn
     go_wp2_with fail
     go_ret
     exact ⟨_, [], rfl, Row.nil _ _ _ _ _, Or.inr ⟨unhide HN, rfl⟩, hbq⟩
    have HG := hide (netGood (unhide HT).net)
    have hq1 : 0 ≤ qp := h1.1
    have hq2 : qp < n.pieces.length := by omega
    have hll := (unhide HG).len hq1 hq2
    obtain ⟨nx, nc, nca, ncc, nve, hp, _⟩ := unhide HV
    simp only [Value.agg.injEq, Array.mk.injEq, List.cons.injEq, Value.slice.injEq, and_true, true_and] at nve
    obtain ⟨⟨rfl, rfl⟩, rfl, rfl⟩ := nve
    obtain ⟨b, off, rfl, hbb, c1⟩ := hp.len hq1 hq2
    have c2 := (hb.cell hbb).trans c1
    have hbb2 : b < wr.heap.size := by omega
    obtain ⟨pn, rfl⟩ := Int.eq_ofNat_of_zero_le hq1
    simp only [Int.toNat_natCast] at c2
    have HW : Hid (∀ W, Calls Tryz.prog 26 #[.int .i64 (pn : Int), .int .i64 0, .int .i64 ((n.pieces.length : Int) - 1)] W fun e w' => e = .returned (.bool true) ∧ Below W.heap.size W w') := fun W => by
     have := l1in_lit pn 0 ((n.pieces.length : Int) - 1) W
     rw [decide_eq_true h1] at this
     exact this
    have hw1 : IntKind.i64.wrap (lenOf n pn - 1) = lenOf n pn - 1 := wrap_small (by omega) (by omega)
    have h2n : pn < n.pieces.length := by omega
    have HE : Hid (PostOk n ((pn : Int), qx) ↔ (1 ≤ qx ∧ qx ≤ lenOf n pn - 1)) := ⟨fun h => h.2, fun h => ⟨⟨hq1, hq2⟩, h⟩⟩
    obtain ⟨ln, hln⟩ : ∃ ln, lenOf n pn = ln := ⟨_, rfl⟩
    rw [hln] at HE hw1 c2
    obtain ⟨rb, hrb⟩ : ∃ rb, decide (1 ≤ qx ∧ qx ≤ ln - 1) = rb := ⟨_, rfl⟩
    have HW2 : Hid (∀ W, Calls Tryz.prog 26 #[.int .i64 qx, .int .i64 1, .int .i64 (ln - 1)] W fun e w' => e = .returned (.bool rb) ∧ Below W.heap.size W w') := fun W => hrb ▸ l1in_lit qx 1 (ln - 1) W
    have HRB := hide hrb
    clear c1 hll hln hrb h1 hp
    go_wp2_with fail
    refine wp_region_grown (by kernel_rfl) (by kernel_rfl) (fun hgn hgc => ?_)
    repeat (go_big_quiet_step (first | (go_at_call_of 26 (Value.int IntKind.i64 0); rename_i g; exact g.call (unhide HW _)) | (go_at_call_of 26 (Value.int IntKind.i64 1); rename_i g; exact g.call (unhide HW2 _))))
    refine wpQuiet_nil ?_
    intro wq hwq
    have hbq0 : Below wr.heap.size wr wq := by obtain ⟨g, rfl⟩ := hwq; exact below_then bw0 g.below
    clear hwq hgc hgn
    cases rb with
    | true =>
     go_wp2_with fail
     refine ⟨⟨k + 1, by omega, by go_num, hide (fun i hi h0 => ?_), (unhide HBN).below hbq0, (unhide HBT).below hbq0, below_then hb hbq0⟩, by simp [intOf]; omega⟩
     by_cases e : i = k
     ·subst e
      rw [unhide HQE]
      exact (unhide HE).2 (of_decide_eq_true (unhide HRB))
     ·exact unhide HI i hi (by omega)
    | false =>
     go_wp2_with fail
     go_ret
     refine ⟨_, [], rfl, Row.nil _ _ _ _ _, Or.inr ⟨fun h => ?_, rfl⟩, below_then hb hbq0⟩
     have := h.2.2.2 k hlt
     rw [unhide HQE] at this
     exact absurd ((unhide HE).1 this) (of_decide_eq_false (unhide HRB))
   have hkl : k = qs.length := by omega
   have HPO : Hid (PoFit n qs) := ⟨hq60, fun i hi => unhide HI i hi (by omega)⟩
   have hlt' : ¬ (k : Int) < (qs.length : Int) := by omega
   have HG := hide (netGood (unhide HT).net)
   have HPG : Hid (PsGood n zs t ax qs F) := ⟨⟨⟨(unhide HT).net, (unhide HT).fits⟩, (unhide HT).lies, (unhide HT).far⟩, unhide HAX, unhide HPO⟩
   have hfar := (unhide HT).far
   have t0 := hBt.2.1 0 _ rfl
   have t1 := hBt.2.1 1 _ rfl
   have t2 := hBt.2.1 2 _ rfl
   have t3 := hBt.2.1 3 _ rfl
   have t4 := hBt.2.1 4 _ rfl
   have tl := hBt.1
   obtain ⟨X, hX⟩ : ∃ X, wr.heap.size = X := ⟨_, rfl⟩
   have hXw : wr.heap.size ≤ X ∧ X ≤ wr.heap.size := by omega
   have hXH : H + 2 ≤ X := by omega
   clear HI hBn hBt
   go_wp2_with fail
   go_loopw [17, 19] (fun y z wr => ∃ (us : List (St × Int)) (k : Int) (s : Sp) (xs : List St) (bw : Option Addr) (bv : Nat), z = .int .i64 k ∧ (1 ≤ k ∧ k ≤ F + 1) ∧ Hid (k = (us.length : Int) + 1) ∧ Hid (PsSt n zs t us s xs) ∧ Hid (PsW w (X + 1) [(H, [.slice a n.pieces.length ca, .slice c n.joints.length cc]), (X, [.int .i64 s.piece, .int .i64 s.at_, .int .i64 s.way, .int .i64 t.long, .slice bw xs.length bv])] [(bw, xs)] y (outS n qs ax (bu n t.front t.back) us) wr)) (fun _ z _ => (F + 1 - intOf z).toNat)
   case atStart =>
    refine ⟨[], 1, t.front, t.back, ba, bc, rfl, ⟨by omega, by omega⟩, rfl, PsSt.first (unhide HT).fits, ?_⟩
    have hbA : Below wr.heap.size wr (wr.alloc (.cells #[.int .i64 t.front.piece, .int .i64 t.front.at_, .int .i64 t.front.way, .int .i64 t.long, .slice ba t.back.length bc] 32)) := bw0
    refine ⟨Row.nil _ _ _ _ _, fun p hp => ?_, fun q hq => ?_, below_then hb hbA, by omega⟩
    ·simp only [List.mem_cons, List.not_mem_nil, or_false] at hp
     rcases hp with rfl | rfl
     ·exact ⟨(unhide HBN).below hbA, by simp [Value.ownBlock]⟩
     ·exact ⟨boxedN _ _ _ (by omega), by simp [Value.ownBlock]⟩
    ·simp only [List.mem_cons, List.not_mem_nil, or_false] at hq
     subst hq
     exact ⟨(unhide HS).below (below_then hb hbA), fun _ a _ => by simp [Value.ownBlock]⟩
   case round =>
    clear t0 t1 t2 t3 t4 tl HBN HBT HB hb hsz hlt hlt' hkl hk
    obtain ⟨us, k, s, xs, bw, bv, rfl, hk, HK, HST, HW⟩ := hrel
    clear hXw
    rename World => wr
    obtain ⟨LO, hLO⟩ : ∃ LO, outS n qs ax (bu n t.front t.back) us = LO := ⟨_, rfl⟩
    have HLO := hide hLO
    rw [hLO] at HW
    obtain ⟨ya, yc, hye, _, _⟩ := (unhide HW).row.shape paF_len
    subst hye
    have hLOl : LO.length ≤ 36000000 := by
     have := outS_len n qs ax (bu n t.front t.back) h60 hq60 us
     have h2 := unhide HK
     rw [hLO] at this
     omega
    clear hLO
    have hb := (unhide HW).bel
    have hsz := hb.size
    by_cases hle : k ≤ F
    rotate_left
    ·have HWY := hide ((unhide HST).last (F := F) (by have := unhide HK; omega))
     go_wp2_with fail
     go_ret
     exact ⟨_, rfl, LO, (unhide HW).row.mono (by omega), Or.inl ⟨unhide HPG, us, unhide HWY, (unhide HLO).symm⟩, by rw [← hH]; exact hb⟩
    have hN := ((unhide HW).box _ List.mem_cons_self).1
    have n0 := hN.2.1 0 _ rfl
    have n1 := hN.2.1 1 _ rfl
    have nl := hN.1
    have hXb := ((unhide HW).box _ (List.mem_cons_of_mem _ List.mem_cons_self)).1
    have x0 := hXb.2.1 0 _ rfl
    have x1 := hXb.2.1 1 _ rfl
    have x2 := hXb.2.1 2 _ rfl
    have x3 := hXb.2.1 3 _ rfl
    have x4 := hXb.2.1 4 _ rfl
    have xl := hXb.1
    have hss := ((unhide HW).sts _ List.mem_cons_self).1
    have HSS := hide hss
    dsimp only at nl xl
    clear hN hXb hss
    go_wp2_with fail
    refine (l3move_any _ n bw bv zq zs zc ⟨s, t.long, xs⟩ 1 _ ((unhide HV).below hb) (unhide HSS) ((unhide HZ).below hb) (unhide HG) (unhide HT).lies (unhide HST).fits ⟨by omega, by omega⟩).mono ?_
    rintro e w2 ⟨⟨m, code, joint, bb, bd, oa, oc, rfl, hrun, hrs, _⟩, hb2⟩
    dsimp only at hrun
    have HRUN := hide hrun
    have HW2 := hide ((unhide HW).below hb2)
    obtain ⟨hsm, hfb⟩ := stRow_far hrs
    have HSM := hide hsm
    have HFB := hide hfb
    have hs2 := hb2.size
    clear hrun hrs hsm hfb n0 n1 nl x0 x1 x2 x3 x4 xl
    unfold movedV
    dsimp only
    by_cases hm0 : m.far = 0
    ·have hm0b : (m.far == 0) = true := by simpa using hm0
     have HWY := hide ((unhide HST).stop (unhide HT).net (unhide HRUN) hm0 (F := F) (by have := unhide HK; omega))
     clear hm0
     go_wp2_with fail
     go_ret
     exact ⟨_, LO, rfl, ((unhide HW2).row.below bw0).mono (by omega), Or.inl ⟨unhide HPG, us, unhide HWY, (unhide HLO).symm⟩, below_then (unhide HW2).bel bw0⟩
    have hm0b : (m.far == 0) = false := by simpa using hm0
    obtain ⟨u, hu⟩ := (unhide HST).next (unhide HT).net (unhide HT).lies (unhide HRUN) hm0
    have HU := hide hu
    obtain ⟨M, hM⟩ : ∃ M, w2.heap.size = M := ⟨_, rfl⟩
    have hMw : w2.heap.size ≤ M ∧ M ≤ w2.heap.size := by omega
    obtain ⟨BS, hBS⟩ : ∃ BS : List (Nat × List Value), [(M, [.int .i64 code, .int .i64 m.far, .int .i64 joint, .int .i64 m.s.piece, .int .i64 m.s.at_, .int .i64 m.s.way, .int .i64 t.long, .slice bb m.xs.length bd, .slice oa m.over.length oc]), (H, [.slice a n.pieces.length ca, .slice c n.joints.length cc]), (X, [.int .i64 s.piece, .int .i64 s.at_, .int .i64 s.way, .int .i64 t.long, .slice bw xs.length bv])] = BS := ⟨_, rfl⟩
    obtain ⟨SS, hSS⟩ : ∃ SS : List (Option Addr × List St), [(bb, m.xs), (bw, xs)] = SS := ⟨_, rfl⟩
    have IM : Hid ((M, [.int .i64 code, .int .i64 m.far, .int .i64 joint, .int .i64 m.s.piece, .int .i64 m.s.at_, .int .i64 m.s.way, .int .i64 t.long, .slice bb m.xs.length bd, .slice oa m.over.length oc]) ∈ BS) := by rw [← hBS]; exact List.mem_cons_self
    have IH : Hid ((H, [.slice a n.pieces.length ca, .slice c n.joints.length cc]) ∈ BS) := by rw [← hBS]; exact List.mem_cons_of_mem _ List.mem_cons_self
    have IX : Hid ((X, [.int .i64 s.piece, .int .i64 s.at_, .int .i64 s.way, .int .i64 t.long, .slice bw xs.length bv]) ∈ BS) := by rw [← hBS]; exact List.mem_cons_of_mem _ (List.mem_cons_of_mem _ List.mem_cons_self)
    have JM : Hid ((bb, m.xs) ∈ SS) := by rw [← hSS]; exact List.mem_cons_self
    have JX : Hid ((bw, xs) ∈ SS) := by rw [← hSS]; exact List.mem_cons_of_mem _ List.mem_cons_self
    have HA : Hid (∀ W, Below w2.heap.size w2 W → Boxed W M [.int .i64 code, .int .i64 m.far, .int .i64 joint, .int .i64 m.s.piece, .int .i64 m.s.at_, .int .i64 m.s.way, .int .i64 t.long, .slice bb m.xs.length bd, .slice oa m.over.length oc] → PsW w (X + 1) BS SS (.slice ya LO.length yc) LO W) := fun W hW hB => by
     rw [← hBS, ← hSS]
     have hlt := fun k hk => (unhide HW).row.lt k hk
     refine (((unhide HW2).below hW).moreS ((unhide HSM).below hW) fun hx a ha e => ?_).more hB fun e => ?_
     ·have h1 := hlt _ e
      have h2 := unhide HFB a ha
      omega
     ·have h1 := hlt _ e
      omega
    have hBX : Hid (∀ p ∈ BS, p ∈ BS) := fun p h => h
    have hfX : Hid (0 < m.xs.length → ∀ a, bb = some a → a.block ≠ X) := fun _ a ha => by
     have h2 := unhide HFB a ha
     have h3 := ((unhide HW).box _ (List.mem_cons_of_mem _ List.mem_cons_self)).1.1
     dsimp only at h3
     omega
    clear hBS hSS hm0 hu hBX HW2 HW HSS hb2 hsz
    go_wp2_with fail
    go_loopw [17, 114] (fun y z wq => ∃ i : Nat, i ≤ ax.length ∧ z = .int .i64 i ∧ Hid (PsW w (X + 1) BS SS y (LO ++ axTo n qs k s m.s xs m.xs ax i) wq)) (fun _ z _ => ax.length - (intOf z).toNat)
    case atStart =>
     refine ⟨0, Nat.zero_le _, rfl, ?_⟩
     rw [axTo_zero, List.append_nil]
     exact unhide HA _ bw0 (boxedN _ _ _ (by omega))
    case round =>
     clear HA hMw hs2 hb HRUN HSM HFB
     obtain ⟨i, hi, rfl, HW⟩ := hrel
     rename World => wq
     obtain ⟨LA, hLA⟩ : ∃ LA, LO ++ axTo n qs k s m.s xs m.xs ax i = LA := ⟨_, rfl⟩
     have HLA := hide hLA
     rw [hLA] at HW
     obtain ⟨ya, yc, hye, _, _⟩ := (unhide HW).row.shape paF_len
     subst hye
     have hLAl : LA.length ≤ 36010000 := by
      have := axTo_len n qs k s m.s xs m.xs ax i h60 hq60
      rw [← hLA, List.length_append]
      omega
     clear hLA
     have hb := (unhide HW).bel
     have hsz := hb.size
     have hN := ((unhide HW).box _ (unhide IH)).1
     have hXb := ((unhide HW).box _ (unhide IX)).1
     have hMb := ((unhide HW).box _ (unhide IM)).1
     have n0 := hN.2.1 0 _ rfl
     have n1 := hN.2.1 1 _ rfl
     have nl := hN.1
     have m3 := hMb.2.1 3 _ rfl
     have m4 := hMb.2.1 4 _ rfl
     have m5 := hMb.2.1 5 _ rfl
     have m6 := hMb.2.1 6 _ rfl
     have m7 := hMb.2.1 7 _ rfl
     have ml := hMb.1
     have x0 := hXb.2.1 0 _ rfl
     have x1 := hXb.2.1 1 _ rfl
     have x2 := hXb.2.1 2 _ rfl
     have x3 := hXb.2.1 3 _ rfl
     have x4 := hXb.2.1 4 _ rfl
     have xl := hXb.1
     have xz := hXb.2.2
     dsimp only at nl xl ml xz n0 n1 m3 m4 m5 m6 m7 x0 x1 x2 x3 x4
     clear hN hXb hMb
     by_cases hlt : i < ax.length
     rotate_left
     ·have hil : i = ax.length := by omega
      have hlt' : ¬ (i : Int) < (ax.length : Int) := by omega
      have hwk : IntKind.i64.wrap (k + 1) = k + 1 := wrap_small (by omega) (by omega)
      have HE : Hid (LA = outS n qs ax (bu n t.front t.back) (u :: us)) := by
       unfold Hid
       rw [← unhide HLA, hil, ← unhide HLO]
       exact ax_out (unhide HG) (unhide HT).fits (unhide HST) (unhide HU) (unhide HAX).mem (unhide HPO).mem (unhide HK)
      have HFIN := hide ((unhide HW).was rfl (unhide IH) (unhide IX) rfl (by omega) (by omega) (unhide JM) (unhide hfX) (v0 := .int .i64 m.s.piece) (v1 := .int .i64 m.s.at_) (v2 := .int .i64 m.s.way) (v3 := .int .i64 t.long) (v4 := .slice bb m.xs.length bd))
      have z0 := xz 0
      have z1 := xz 1
      have z2 := xz 2
      have z3 := xz 3
      have z4 := xz 4
      clear hil xz
      go_wp2_with fail
      refine ⟨⟨u :: us, k + 1, m.s, m.xs, bb, bd, rfl, ⟨by omega, by omega⟩, by have := unhide HK; unfold Hid; simp; omega, HU, ?_⟩, by simp [intOf]; omega⟩
      rw [← unhide HE]
      exact HFIN
     have hlt' : (i : Int) < (ax.length : Int) := by omega
     obtain ⟨xb, xo, rfl, hxb, c0⟩ := (unhide HX).below hb i hlt
     have hxb2 := hxb.2
     obtain ⟨av, hav⟩ : ∃ av, ax[i] = av := ⟨_, rfl⟩
     have hav2 := (unhide HAX).mem av (by rw [← hav]; exact List.getElem_mem hlt)
     have HSU := hide (axTo_succ n qs k s m.s xs m.xs ax i hlt)
     rw [hav] at c0 HSU
     have hsx := ((unhide HW).sts _ (unhide JX)).1
     have HSX := hide hsx
     clear hav hsx xz
     go_wp2_with fail
     refine (l3axle_any _ n bw bv ⟨s, t.long, xs⟩ av _ ((unhide HV).below hb) (unhide HSX) (unhide HG) (unhide HST).fits hav2).mono ?_
     rintro e w3 ⟨rfl, hb3⟩
     dsimp only
     obtain ⟨B1, hB1⟩ : ∃ B1, w3.heap.size = B1 := ⟨_, rfl⟩
     have hB1w : w3.heap.size ≤ B1 ∧ B1 ≤ w3.heap.size := by omega
     obtain ⟨xq', hxe⟩ : ∃ x, axleSp n s xs av = x := ⟨_, rfl⟩
     rw [hxe] at HSU ⊢
     have HW3 := hide ((unhide HW).below hb3)
     have hs3 := hb3.size
     have hN := ((unhide HW3).box _ (unhide IH)).1
     have hMb := ((unhide HW3).box _ (unhide IM)).1
     clear n0 n1 nl m3 m4 m5 m6 m7 ml x0 x1 x2 x3 x4 xl c0 hxe
     have n0 := hN.2.1 0 _ rfl
     have n1 := hN.2.1 1 _ rfl
     have nl := hN.1
     have m3 := hMb.2.1 3 _ rfl
     have m4 := hMb.2.1 4 _ rfl
     have m5 := hMb.2.1 5 _ rfl
     have m6 := hMb.2.1 6 _ rfl
     have m7 := hMb.2.1 7 _ rfl
     have ml := hMb.1
     dsimp only at nl ml n0 n1 m3 m4 m5 m6 m7
     have nB1 : H < B1 := by omega
     have mB1 : M < B1 := by omega
     have hbA : Below w3.heap.size w3 (w3.alloc (.cells #[.int .i64 xq'.piece, .int .i64 xq'.at_, .int .i64 xq'.way] 29)) := bw0
     have hbx1 : Boxed (w3.alloc (.cells #[.int .i64 xq'.piece, .int .i64 xq'.at_, .int .i64 xq'.way] 29)) B1 [.int .i64 xq'.piece, .int .i64 xq'.at_, .int .i64 xq'.way] := boxedN _ _ _ (by omega)
     have HWA := hide (((unhide HW3).below hbA).more hbx1 (fun e => by have := ((unhide HW3).row.lt _ e).2; omega))
     have HSM := hide ((unhide HWA).sts _ (unhide JM)).1
     have hbA2 := (unhide HWA).bel
     clear hN hMb hbx1
     go_wp2_with fail
     refine (l3axle_any _ n bb bd ⟨m.s, t.long, m.xs⟩ av _ ((unhide HV).below hbA2) (unhide HSM) (unhide HG) (unhide HU).fits hav2).mono ?_
     rintro e w4 ⟨rfl, hb4⟩
     dsimp only
     obtain ⟨yq', hye⟩ : ∃ x, axleSp n m.s m.xs av = x := ⟨_, rfl⟩
     rw [hye] at HSU ⊢
     have HW4 := hide ((unhide HWA).below hb4)
     have hs4 := hb4.size
     have hs3' : w3.heap.size < w4.heap.size := by simp at hs4; omega
     obtain ⟨B2, hB2⟩ : ∃ B2, w4.heap.size = B2 := ⟨_, rfl⟩
     have hB2w : w4.heap.size ≤ B2 ∧ B2 ≤ w4.heap.size := by omega
     have hB12 : B1 < B2 := by omega
     have HA : Hid (∀ W, Below w4.heap.size w4 W → Boxed W B2 [.int .i64 yq'.piece, .int .i64 yq'.at_, .int .i64 yq'.way] → PsW w (X + 1) ((B2, [.int .i64 yq'.piece, .int .i64 yq'.at_, .int .i64 yq'.way]) :: (B1, [.int .i64 xq'.piece, .int .i64 xq'.at_, .int .i64 xq'.way]) :: BS) SS (.slice ya LA.length yc) LA W) := fun W hW hB =>
      ((unhide HW4).below hW).more hB fun e => by have := ((unhide HW4).row.lt _ e).2; omega
     clear hye n0 n1 nl m3 m4 m5 m6 m7 ml nB1 mB1 hb hb3 hb4 hbA hbA2 HSM HSX HWA HW4 HW3 HW hs3 hs4 hs3' hsz
     go_wp2_with fail
     go_loopw [17, 129] (fun y z wp => ∃ j : Nat, j ≤ qs.length ∧ z = .int .i64 j ∧ Hid (PsW w (X + 1) ((B2, [.int .i64 yq'.piece, .int .i64 yq'.at_, .int .i64 yq'.way]) :: (B1, [.int .i64 xq'.piece, .int .i64 xq'.at_, .int .i64 xq'.way]) :: BS) SS y (LA ++ toldTo qs k xq' yq' j) wp)) (fun _ z _ => qs.length - (intOf z).toNat)
     case atStart =>
      refine ⟨0, Nat.zero_le _, rfl, ?_⟩
      rw [toldTo_zero, List.append_nil]
      exact unhide HA _ bw0 (boxedN _ _ _ (by omega))
     case round =>
      clear HA hB1w hB2w
      obtain ⟨j, hj, rfl, HW⟩ := hrel
      rename World => wp
      obtain ⟨LB, hLB⟩ : ∃ LB, LA ++ toldTo qs k xq' yq' j = LB := ⟨_, rfl⟩
      have HLB := hide hLB
      rw [hLB] at HW
      obtain ⟨ya, yc, hye, _, _⟩ := (unhide HW).row.shape paF_len
      subst hye
      have hLBl : LB.length ≤ 36020000 := by
       have := toldTo_len qs k xq' yq' j
       rw [← hLB, List.length_append]
       omega
      clear hLB
      have hb := (unhide HW).bel
      have hsz := hb.size
      by_cases hlt2 : j < qs.length
      rotate_left
      ·have hjl : j = qs.length := by omega
       have hlt2' : ¬ (j : Int) < (qs.length : Int) := by omega
       have HE : Hid (LO ++ axTo n qs k s m.s xs m.xs ax (i + 1) = LB) := by
        unfold Hid
        rw [unhide HSU, ← List.append_assoc, unhide HLA, ← hjl, unhide HLB]
       clear hjl
       go_wp2_with fail
       refine ⟨⟨i + 1, by omega, by go_num, ?_⟩, by simp [intOf]; omega⟩
       rw [unhide HE]
       exact (unhide HW).less (fun p hp => List.mem_cons_of_mem _ (List.mem_cons_of_mem _ hp)) (fun q hq => hq)
      have hlt2' : (j : Int) < (qs.length : Int) := by omega
      obtain ⟨qb, qo, rfl, hqb, q0, q1⟩ := (unhide HQ).below hb j hlt2
      have hqb2 := hqb.2
      have hTS := toldTo_succ qs k xq' yq' j hlt2
      obtain ⟨q, hqe⟩ : ∃ q, qs[j] = q := ⟨_, rfl⟩
      rw [hqe] at q0 q1 hTS
      obtain ⟨qp, qx⟩ := q
      dsimp only at q0 q1
      have HNO : Hid (¬ Came xq' yq' (qp, qx) → LA ++ toldTo qs k xq' yq' (j + 1) = LB) := fun h => by
       rw [hTS, if_neg h, List.append_nil, unhide HLB]
      have HYES : Hid (Came xq' yq' (qp, qx) → LA ++ toldTo qs k xq' yq' (j + 1) = LB ++ [(k, (j : Int), yq'.way)]) := fun h => by
       rw [hTS, if_pos h, ← List.append_assoc, unhide HLB]
      clear hTS hqe
      have hY := ((unhide HW).box _ List.mem_cons_self).1
      have hXx := ((unhide HW).box _ (List.mem_cons_of_mem _ List.mem_cons_self)).1
      have y0 := hY.2.1 0 _ rfl
      have y1 := hY.2.1 1 _ rfl
      have y2 := hY.2.1 2 _ rfl
      have yl := hY.1
      have x0 := hXx.2.1 0 _ rfl
      have x1 := hXx.2.1 1 _ rfl
      have xl := hXx.1
      dsimp only at y0 y1 y2 yl x0 x1 xl
      clear hY hXx
      obtain ⟨yp, ya', yw⟩ := yq'
      obtain ⟨xp, xa', xw⟩ := xq'
      dsimp only at y0 y1 y2 x0 x1
      by_cases h1 : yp = qp
      rotate_left
      ·have h1b := ne_beq h1
       have HN := hide (unhide HNO (fun h => h1 h.1))
       clear h1
       go_wp2_with fail
       refine ⟨⟨j + 1, by omega, by go_num, ?_⟩, by simp [intOf]; omega⟩
       rw [unhide HN]
       exact hide ((unhide HW).below bw0)
      have h1b : (yp == qp) = true := by simpa using h1
      by_cases h2 : ya' = qx
      rotate_left
      ·have h2b := ne_beq h2
       have HN := hide (unhide HNO (fun h => h2 h.2.1))
       clear h1 h2
       go_wp2_with fail
       refine ⟨⟨j + 1, by omega, by go_num, ?_⟩, by simp [intOf]; omega⟩
       rw [unhide HN]
       exact hide ((unhide HW).below bw0)
      have h2b : (ya' == qx) = true := by simpa using h2
      by_cases h3 : xp = qp ∧ xa' = qx
      ·have h3b : (xp != qp) = false := by simpa using h3.1
       have h4b : (xa' != qx) = false := by simpa using h3.2
       have HN := hide (unhide HNO (fun h => h.2.2 h3))
       clear h1 h2 h3
       go_wp2_with fail
       refine ⟨⟨j + 1, by omega, by go_num, ?_⟩, by simp [intOf]; omega⟩
       rw [unhide HN]
       exact hide ((unhide HW).below bw0)
      have HN := hide (unhide HYES ⟨h1, h2, h3⟩)
      have hor : (xp != qp) = true ∨ ((xp != qp) = false ∧ (xa' != qx) = true) := by
       by_cases e : xp = qp
       ·exact Or.inr ⟨by simpa using e, by simpa using fun e2 => h3 ⟨e, e2⟩⟩
       ·exact Or.inl (by simpa using e)
      clear h1 h2 h3
      have hXl := ((unhide HW).box _ (List.mem_cons_of_mem _ (List.mem_cons_of_mem _ (unhide IX)))).1.1
      dsimp only at hXl
      rcases hor with h3b | ⟨h3b, h4b⟩
      ·skip
       go_wp2_with (at_builtin; refine wpList_append_lies _ rfl (.tmp 160) (.tmp 166) 40 rfl (X + 1) 43 i1 (.agg #[.int .i64 0, .int .i64 0, .int .i64 0]) 3 24 Tryz.underlying40 hj1 hy0 hy1 hy2 rfl (by decide) _ _ _ rfl ((unhide HW).row.below bw0) ⟨wp.heap.size + 1, 0, none⟩ 1 1 (paF (k, (j : Int), yw)) rfl rfl ?c1 (pa_one _) (by omega) ?c2 ?c3 ?c4 _ rfl ?_)
       case c1 => first | exact fun j u h => h | exact pa_news (t := (k, (j : Int), yw)) (boxedN _ _ _ (by simp))
       case c2 => unfold maxLen; omega
       case c3 => omega
       case c4 => (first | omega | (simp; omega))
       intro g gcap w5 hown hgrow hat hlt5
       have hbA : Below wp.heap.size wp ((wp.alloc (.cells #[.int .i64 qp, .int .i64 qx] 94)).alloc (.cells #[.int .i64 k, .int .i64 j, .int .i64 yw] 43)) := bw0
       have hrow5 : PaRow w5 (X + 1) (.slice (some ⟨g, 0, none⟩) (LB.length + 1) gcap) (LB ++ [(k, (j : Int), yw)]) := Row.snoc (f := paF) hown
       have HW5 := hide (((unhide HW).below hbA).add hgrow hrow5 (fun k hk => by
        simp [Value.ownBlock] at hk
        subst hk
        rcases hat with h | h
        ·exact Or.inl h
        ·exact Or.inr (by simp; omega)))
       clear hown hgrow hat hbA hrow5 y0 y1 y2 yl x0 x1 xl q0 q1
       go_wp2_with fail
       refine ⟨⟨j + 1, by omega, by go_num, ?_⟩, by simp [intOf]; omega⟩
       rw [unhide HN]
       exact HW5
      ·skip
       go_wp2_with (at_builtin; refine wpList_append_lies _ rfl (.tmp 160) (.tmp 166) 40 rfl (X + 1) 43 i1 (.agg #[.int .i64 0, .int .i64 0, .int .i64 0]) 3 24 Tryz.underlying40 hj1 hy0 hy1 hy2 rfl (by decide) _ _ _ rfl ((unhide HW).row.below bw0) ⟨wp.heap.size + 1, 0, none⟩ 1 1 (paF (k, (j : Int), yw)) rfl rfl ?c1 (pa_one _) (by omega) ?c2 ?c3 ?c4 _ rfl ?_)
       case c1 => first | exact fun j u h => h | exact pa_news (t := (k, (j : Int), yw)) (boxedN _ _ _ (by simp))
       case c2 => unfold maxLen; omega
       case c3 => omega
       case c4 => (first | omega | (simp; omega))
       intro g gcap w5 hown hgrow hat hlt5
       have hbA : Below wp.heap.size wp ((wp.alloc (.cells #[.int .i64 qp, .int .i64 qx] 94)).alloc (.cells #[.int .i64 k, .int .i64 j, .int .i64 yw] 43)) := bw0
       have hrow5 : PaRow w5 (X + 1) (.slice (some ⟨g, 0, none⟩) (LB.length + 1) gcap) (LB ++ [(k, (j : Int), yw)]) := Row.snoc (f := paF) hown
       have HW5 := hide (((unhide HW).below hbA).add hgrow hrow5 (fun k hk => by
        simp [Value.ownBlock] at hk
        subst hk
        rcases hat with h | h
        ·exact Or.inl h
        ·exact Or.inr (by simp; omega)))
       clear hown hgrow hat hbA hrow5 y0 y1 y2 yl x0 x1 xl q0 q1
       go_wp2_with fail
       refine ⟨⟨j + 1, by omega, by go_num, ?_⟩, by simp [intOf]; omega⟩
       rw [unhide HN]
       exact HW5
end Go.Proofs.YtjacbppeebnjfaaGreat

namespace Go.Proofs.YtjacbppeebnjfaaGreat
open Go.RowKit

set_option maxRecDepth 100000 in
set_option maxHeartbeats 8000000 in
theorem specMove_any (v : Value) (n : Nt) (ba0 : Option Addr) (bc0 : Nat) (zq : Option Addr) (zs : List Int) (zc : Nat) (t : Tr) (F : Int) (w : World) {L L' : Nat} (hv : NetAt L w v n) (hst : StsAt 0 w ba0 t.back) (hz : IntsAt L' w zq zs) (hbl : t.back.length ≤ 1048576)
  (hl : n.pieces.length ≤ 1048576) (hl' : n.joints.length ≤ 1048576) (hle : ∀ i (h : i < n.joints.length), n.joints[i].ends.length ≤ 1048576 ∧ n.joints[i].name.size ≤ maxLen) (hnm : ∀ i (h : i < n.pieces.length), n.pieces[i].name.size ≤ maxLen) :
  Calls Tryz.prog 9 #[v, .slice zq zs.length zc, .agg #[.int .i64 t.front.piece, .int .i64 t.front.at_, .int .i64 t.front.way, .int .i64 t.long, .slice ba0 t.back.length bc0], .int .i64 F] w fun e w' => MovedIs n zs t F w.heap.size e w' ∧ Below w.heap.size w w' := by
 have hvv := hv
 obtain ⟨x, c, ca, cc, rfl, hp, hj⟩ := hv
 go_enter Tryz.func9, Tryz.ntmps9
 go_wp2_with fail
 refine (l3good_any _ _ n zq zs zc t F _ (hvv.below ?_) (hz.below ?_) ⟨ba0, bc0, rfl, hst.below ?_⟩ hl hl' hle hnm hbl).mono ?_
 ·exact bw0
 ·exact bw0
 ·exact bw0
 rintro e w1 ⟨hR, hb1⟩
 have hbw1 : Below w.heap.size w w1 := below_then bw0 hb1
 have hn1 : Boxed w1 w.heap.size [.slice x n.pieces.length ca, .slice c n.joints.length cc] := (((boxed_alloc _ _ _).alloc _).alloc _).below hb1
 have ht1 : Boxed w1 (w.heap.size + 1) [.int .i64 t.front.piece, .int .i64 t.front.at_, .int .i64 t.front.way, .int .i64 t.long, .slice ba0 t.back.length bc0] := ((boxedN _ _ _ (by simp)).alloc _).below hb1
 have hr1 : Boxed w1 (w.heap.size + 1 + 1) [.int .i64 0, .int .i64 0, .int .i64 0, .int .i64 0, .int .i64 0, .int .i64 0, .int .i64 0, .slice none 0 0, .slice none 0 0] := (boxedN _ _ _ (by simp)).below hb1
 have hrl := hr1.1
 rcases hR with ⟨rfl, hR⟩ | ⟨rfl, hR⟩
 ·have hG := netGood hR.1.1
  have HR := hide hR
  clear hR
  have p0 := hn1.2.1 0 _ rfl
  have p1 := hn1.2.1 1 _ rfl
  have p2 := ht1.2.1 0 _ rfl
  have p3 := ht1.2.1 1 _ rfl
  have p4 := ht1.2.1 2 _ rfl
  have p5 := ht1.2.1 3 _ rfl
  have p6 := ht1.2.1 4 _ rfl
  go_wp2_with fail
  refine (l3move_any _ n ba0 bc0 zq zs zc t F _ (hvv.below hbw1) (hst.below hbw1) (hz.below hbw1) hG (unhide HR).1.2 (unhide HR).2.1 (unhide HR).2.2).mono ?_
  rintro e w2 ⟨⟨m, code, joint, ba1, bc1, oa, oc, rfl, hrun, hbk, hrow⟩, hb2⟩
  clear p0 p1 p2 p3 p4 p5 p6
  have hr2 := hr1.below hb2
  have hrf := (((((((((hr2.setAt (i := 0) (by simp) (.int .i64 code)).setAt (i := 1) (by simp) (.int .i64 m.far)).setAt (i := 2) (by simp) (.int .i64 joint)).setAt (i := 3) (by simp) (.int .i64 m.s.piece)).setAt (i := 4) (by simp) (.int .i64 m.s.at_)).setAt (i := 5) (by simp) (.int .i64 m.s.way)).setAt (i := 6) (by simp) (.int .i64 t.long)).setAt (i := 7) (by simp) (.slice ba1 m.xs.length bc1)).setAt (i := 8) (by simp) (.slice oa m.over.length oc))
  have hof := (((((((((only_setCell (S := fun k => k = w.heap.size + 1 + 1) w2 (p := ⟨w.heap.size + 1 + 1, 0, none⟩) rfl (.int .i64 code)).trans (only_setCell (S := fun k => k = w.heap.size + 1 + 1) _ (p := ⟨w.heap.size + 1 + 1, 1, none⟩) rfl (.int .i64 m.far))).trans (only_setCell (S := fun k => k = w.heap.size + 1 + 1) _ (p := ⟨w.heap.size + 1 + 1, 2, none⟩) rfl (.int .i64 joint))).trans (only_setCell (S := fun k => k = w.heap.size + 1 + 1) _ (p := ⟨w.heap.size + 1 + 1, 3, none⟩) rfl (.int .i64 m.s.piece))).trans (only_setCell (S := fun k => k = w.heap.size + 1 + 1) _ (p := ⟨w.heap.size + 1 + 1, 4, none⟩) rfl (.int .i64 m.s.at_))).trans (only_setCell (S := fun k => k = w.heap.size + 1 + 1) _ (p := ⟨w.heap.size + 1 + 1, 5, none⟩) rfl (.int .i64 m.s.way))).trans (only_setCell (S := fun k => k = w.heap.size + 1 + 1) _ (p := ⟨w.heap.size + 1 + 1, 6, none⟩) rfl (.int .i64 t.long))).trans (only_setCell (S := fun k => k = w.heap.size + 1 + 1) _ (p := ⟨w.heap.size + 1 + 1, 7, none⟩) rfl (.slice ba1 m.xs.length bc1))).trans (only_setCell (S := fun k => k = w.heap.size + 1 + 1) _ (p := ⟨w.heap.size + 1 + 1, 8, none⟩) rfl (.slice oa m.over.length oc)))
  have hbw2 := below_then hbw1 hb2
  have hszb := hbw1.size
  have HST := hide (hbk.only hof (fun k hk (he : k = w.heap.size + 1 + 1) => by have := (hbk.lt k hk).1; omega))
  have HPT := hide (hrow.only hof (fun k hk (he : k = w.heap.size + 1 + 1) => by have := (hrow.lt k hk).1; omega))
  have HBF := hide (hbw2.trans (hof.below hbw2.size (fun k hk (he : k = w.heap.size + 1 + 1) => by omega)))
  have HRF := hide hrf
  have HRUN := hide hrun
  have r0 := hr2.2.1 0 _ rfl
  have r1 := hr2.2.1 1 _ rfl
  have r2 := hr2.2.1 2 _ rfl
  have r3 := hr2.2.1 3 _ rfl
  have r4 := hr2.2.1 4 _ rfl
  have r5 := hr2.2.1 5 _ rfl
  have r6 := hr2.2.1 6 _ rfl
  have r7 := hr2.2.1 7 _ rfl
  have r8 := hr2.2.1 8 _ rfl
  have rz := hr2.2.2
  have rl := hr2.1
  clear hrf hof hrun hbk hrow
  unfold movedV
  go_wp2
  have hrf := unhide HRF
  have f0 := hrf.2.1 0 _ rfl
  have f1 := hrf.2.1 1 _ rfl
  have f2 := hrf.2.1 2 _ rfl
  have f3 := hrf.2.1 3 _ rfl
  have f4 := hrf.2.1 4 _ rfl
  have f5 := hrf.2.1 5 _ rfl
  have f6 := hrf.2.1 6 _ rfl
  have f7 := hrf.2.1 7 _ rfl
  have f8 := hrf.2.1 8 _ rfl
  exact bodyPost_ret (v := movedV code m.far joint m.s t.long (.slice ba1 m.xs.length bc1) (.slice oa m.over.length oc)) (by simp [results, Tryz.results9, go_sem, f0, f1, f2, f3, f4, f5, f6, f7, f8, movedV]) rfl ⟨Or.inl ⟨⟨⟨(unhide HR).1.1, (unhide HR).2.1⟩, (unhide HR).1.2, (unhide HR).2.2⟩, m, code, joint, ba1, bc1, oa, oc, rfl, unhide HRUN, (unhide HST).mono (by omega), (unhide HPT).mono (by omega)⟩, unhide HBF⟩
 ·have HN : Hid (¬ OutOk n zs t F) := fun h => hR ⟨⟨h.1.1, h.2.1⟩, h.1.2, h.2.2⟩
  clear hR
  have r0 := hr1.2.1 0 _ rfl
  have r1 := hr1.2.1 1 _ rfl
  have r2 := hr1.2.1 2 _ rfl
  have r3 := hr1.2.1 3 _ rfl
  have r4 := hr1.2.1 4 _ rfl
  have r5 := hr1.2.1 5 _ rfl
  have r6 := hr1.2.1 6 _ rfl
  have r7 := hr1.2.1 7 _ rfl
  have r8 := hr1.2.1 8 _ rfl
  have rz := hr1.2.2
  go_wp2
  exact bodyPost_ret (v := movedV 5 0 0 ⟨0, 0, 0⟩ 0 (.slice none 0 0) (.slice none 0 0)) (by simp [results, Tryz.results9, go_sem, r0, r1, r2, r3, r4, r5, r6, r7, r8, movedV]) rfl ⟨Or.inr ⟨unhide HN, rfl⟩, (bw1 hbw1)⟩
end Go.Proofs.YtjacbppeebnjfaaGreat

set_option linter.unusedSimpArgs false
namespace Go.Proofs.YtjacbppeebnjfaaGreat
open Go.RowKit

theorem bytes_to {w w' : World} {a : Option Addr} {bs : List Int} (h : BytesAt w.heap.size w a bs) (hb : Below w.heap.size w w') : BytesAt w'.heap.size w' a bs := fun i hi => by
 obtain ⟨b, off, e, hl, hc, hr⟩ := h i hi
 exact ⟨b, off, e, ⟨Nat.lt_of_lt_of_le hl.2 hb.size, Nat.lt_of_lt_of_le hl.2 hb.size⟩, (hb.cell hl.2).trans hc, hr⟩
theorem poRow_at {w : World} {base : Nat} {v : Value} {ps : List (Int × Int)} (h : PoRow w base v ps) : ∃ a cap, v = .slice a ps.length cap ∧ PoAt 0 w a ps := by
 obtain ⟨a, cap, hv, _, hx⟩ := Row.shape (f := poF) (sz := 2) (fun _ => rfl) h
 refine ⟨a, cap, hv, fun i hi => ?_⟩
 obtain ⟨g, rfl, hl, hcell⟩ := hx i hi
 exact ⟨g, 0, rfl, ⟨Nat.zero_le _, hl.2⟩, (by have h0 := hcell 0 (by omega); rw [Nat.zero_add]; exact h0), (by have h1 := hcell 1 (by omega); rw [Nat.zero_add]; exact h1)⟩
theorem three_ints {W : World} {N : Nat} {d l : Int} (h : Boxed W N [.int .i64 0, .int .i64 d, .int .i64 l]) : IntsAt 0 W (some ⟨N, 0, none⟩) [0, d, l] := fun i hi => by
 have e := h.2.1
 match i, hi with
 | 0, _ => exact ⟨N, 0, rfl, ⟨Nat.zero_le _, h.1⟩, by simpa using e 0 _ rfl⟩
 | 1, _ => exact ⟨N, 0, rfl, ⟨Nat.zero_le _, h.1⟩, by simpa using e 1 _ rfl⟩
 | 2, _ => exact ⟨N, 0, rfl, ⟨Nat.zero_le _, h.1⟩, by simpa using e 2 _ rfl⟩
structure Pz (n : Nt) (zs : List Int) (a1 a2 zq : Option Addr) (k1 k2 N : Nat) (t : Tr) (ta : Option Addr) (tc T : Nat) (xq : Option Addr) (ax : List Int) (qa : Option Addr) (po : List (Int × Int)) (w0 w : World) : Prop where
 nw : Nw n zs a1 a2 zq k1 k2 N w
 tw : Tw t ta tc T w
 xs : IntsAt 0 w xq ax
 ps : PoAt 0 w qa po
 bel : Below w0.heap.size w0 w
theorem Pz.below {n : Nt} {zs : List Int} {a1 a2 zq : Option Addr} {k1 k2 N : Nat} {t : Tr} {ta : Option Addr} {tc T : Nat} {xq : Option Addr} {ax : List Int} {qa : Option Addr} {po : List (Int × Int)} {w0 w w' : World} (h : Pz n zs a1 a2 zq k1 k2 N t ta tc T xq ax qa po w0 w) (hb : Below w.heap.size w w') : Pz n zs a1 a2 zq k1 k2 N t ta tc T xq ax qa po w0 w' :=
 ⟨h.nw.below hb, h.tw.below hb, IntsAt.below h.xs hb, h.ps.below hb, below_then h.bel hb⟩
theorem netAt0' {L : Nat} {w : World} {n : Nt} {a c : Option Addr} {la lc ca cc : Nat} (h : NetAt L w (.agg #[.slice a la ca, .slice c lc cc]) n) : PcsAt 0 w a n.pieces ∧ JtsAt 0 w c n.joints := by
 obtain ⟨a', c', ca', cc', e, hp, hj⟩ := h
 simp only [Value.agg.injEq, Array.mk.injEq, List.cons.injEq, Value.slice.injEq, and_true] at e
 obtain ⟨⟨rfl, _, _⟩, rfl, _, _⟩ := e
 exact ⟨hp.mono (Nat.zero_le _), hj.mono (Nat.zero_le _)⟩

theorem pzI {n : Nt} {zs : List Int} {a1 a2 zq : Option Addr} {k1 k2 N : Nat} {t t' : Tr} {ta ta' : Option Addr} {tc tc' T : Nat} {xq : Option Addr} {ax : List Int} {qa : Option Addr} {po : List (Int × Int)} {w0 w : World} (h : Pz n zs a1 a2 zq k1 k2 N t ta tc T xq ax qa po w0 w) (hT : Ts0 t' ta' tc' w) (hsm : NtSmall n) (hbl : t'.back.length ≤ 200) (hx : ax.length ≤ 60) (hp : po.length ≤ 60) (zc xc qc : Nat) (F : Int) :
  Calls Tryz.prog 7 #[.agg #[.slice a1 n.pieces.length k1, .slice a2 n.joints.length k2], .slice zq zs.length zc, .agg #[.int .i64 t'.front.piece, .int .i64 t'.front.at_, .int .i64 t'.front.way, .int .i64 t'.long, .slice ta' t'.back.length tc'], .slice xq ax.length xc, .slice qa po.length qc, .int .i64 F] w fun e w' => ∃ g out cap, e = .returned (.slice g (List.length out) cap) ∧ PasAt 0 w' g out ∧ PsIs n zs t' ax po F out ∧ Below w.heap.size w w' :=
 (implPasses_any a1 a2 k1 k2 n t' ta' tc' zq zs zc xq ax xc qa po qc F w (netAt0' h.nw.net).1 (netAt0' h.nw.net).2 hT.sts h.nw.lies h.xs h.ps hT.cap (by omega) (by have := hsm.pcs; omega) (by have := hsm.jts; omega) (by omega) (by omega) (fun i hi => (hsm.hle i hi).2) hsm.hnm).mono fun e w' ⟨u, out, he, hr, hi, hb⟩ => by
  obtain ⟨g, cap, rfl, _, hx⟩ := paRow_at (hr.mono (Nat.zero_le _))
  exact ⟨g, out, cap, he, hx, hi, hb⟩

theorem pzS {n : Nt} {zs : List Int} {a1 a2 zq : Option Addr} {k1 k2 N : Nat} {t t' : Tr} {ta ta' : Option Addr} {tc tc' T : Nat} {xq : Option Addr} {ax : List Int} {qa : Option Addr} {po : List (Int × Int)} {w0 w : World} (h : Pz n zs a1 a2 zq k1 k2 N t ta tc T xq ax qa po w0 w) (hT : Ts0 t' ta' tc' w) (hsm : NtSmall n) (hbl : t'.back.length ≤ 200) (hx : ax.length ≤ 60) (hp : po.length ≤ 60) (zc xc qc : Nat) (F : Int) :
  Calls Tryz.prog 8 #[.agg #[.slice a1 n.pieces.length k1, .slice a2 n.joints.length k2], .slice zq zs.length zc, .agg #[.int .i64 t'.front.piece, .int .i64 t'.front.at_, .int .i64 t'.front.way, .int .i64 t'.long, .slice ta' t'.back.length tc'], .slice xq ax.length xc, .slice qa po.length qc, .int .i64 F] w fun e w' => ∃ g out cap, e = .returned (.slice g (List.length out) cap) ∧ PasAt 0 w' g out ∧ PsIs n zs t' ax po F out ∧ Below w.heap.size w w' :=
 (specPasses_any a1 a2 k1 k2 n t' ta' tc' zq zs zc xq ax xc qa po qc F w h.nw.net hT.sts h.nw.lies h.xs h.ps (by omega) (by have := hsm.pcs; omega) (by have := hsm.jts; omega) (by omega) (by omega) hsm.hle hsm.hnm).mono fun e w' ⟨u, out, he, hr, hi, hb⟩ => by
  obtain ⟨g, cap, rfl, _, hx⟩ := paRow_at (hr.mono (Nat.zero_le _))
  exact ⟨g, out, cap, he, hx, hi, hb⟩

end Go.Proofs.YtjacbppeebnjfaaGreat

