import Derived.Test.YtbdggfpfpjijoaaGreatDoorMFd
import Derived.Deep.RegionHeld3
import Derived.Deep.DeepCutAuto
set_option linter.unusedSimpArgs false
namespace Go.Proofs.YtbdggfpfpjijoaaGreatDoor
open Go.RowKit

set_option maxRecDepth 100000 in
set_option maxHeartbeats 8000000 in
theorem fnBack_any (bs : List Int) (ba : Option Addr) (bcap : Nat) (ms : List Int) (ma : Option Addr) (mcap : Nat) (w : World) (hba : Bg bs ba w) (hbs : BytesIn bs) (hma : Bg ms ma w) :
  Calls Tryz.prog 4 #[.slice ba bs.length bcap, .slice ma ms.length mcap] w fun e w' => e = .returned (.bool true) ∧ Below w.heap.size w w' := by
 have HA0 := hide hba
 have HM0 := hide hma
 clear hba hma
 go_enter Tryz.func4, Tryz.ntmps4
 by_cases h1 : 1048576 < bs.length
 ·have h1' : (1048576 : Int) < (bs.length : Int) := by omega
  go_wp2_with fail
  go_ret
  exact ⟨rfl, Below.refl _ _⟩
 ·have h1' : ¬ (1048576 : Int) < (bs.length : Int) := by omega
  by_cases h2 : 1048576 < ms.length
  ·have h2' : (1048576 : Int) < (ms.length : Int) := by omega
   go_wp2_with fail
   go_ret
   exact ⟨rfl, Below.refl _ _⟩
  ·have h2' : ¬ (1048576 : Int) < (ms.length : Int) := by omega
   go_wp2_with fail
   refine (drawn_any bs ba bcap _ (unhide HA0).by_ hbs).mono ?_
   rintro e w1 ⟨v, n, zq, zs, zc, t, ta, tc, ok, rfl, hdi, hok, hN1, hZ1, hS1, hB1⟩
   dsimp only [trV]
   have hsm := hdi.small
   have hbk := hdi.back
   have hN1' := hN1
   obtain ⟨a1, a2, k1, k2, rfl, _, _⟩ := hN1
   obtain ⟨N, T, w2, hNe, hTe, hw2, hNw, hTw, hB2⟩ := drawn_boxes 26 32 hN1' hZ1 hS1 hB1
   have HSM := hide hsm
   have HNE := hide hNe
   have HTE := hide hTe
   have HW2 := hide hw2
   have HN2 := hide hNw
   have HT2 := hide hTw
   have HB2 := hide hB2
   have HM2 := hide ((unhide HM0).below hB2)
   clear hdi hN1' hZ1 hS1 hB1 hsm hNe hTe hw2 hNw hTw hB2 HA0 HM0
   cases ok with
   | false =>
    clear hok
    obtain ⟨b, hb⟩ : ∃ b : Bool, SitsRight n zs t ↔ b = true := by
     by_cases h : SitsRight n zs t
     ·exact ⟨true, by simp [h]⟩
     ·exact ⟨false, by simp [h]⟩
    go_upto_region 5 with fail
    rw [← unhide HW2, ← unhide HTE, ← unhide HNE]
    clear HW2 HTE HNE
    have n0 := (unhide HN2).bn.2.1 0 _ rfl
    have n1 := (unhide HN2).bn.2.1 1 _ rfl
    have nl := (unhide HN2).bn.1
    have t0 := (unhide HT2).bt.2.1 0 _ rfl
    have t1 := (unhide HT2).bt.2.1 1 _ rfl
    have t2 := (unhide HT2).bt.2.1 2 _ rfl
    have t3 := (unhide HT2).bt.2.1 3 _ rfl
    have t4 := (unhide HT2).bt.2.1 4 _ rfl
    have tl := (unhide HT2).bt.1
    refine wp_region_grown (by kernel_rfl) (by kernel_rfl) (fun hgn hgc => ?_)
    repeat (go_big_quiet_step (first | (go_at_call 16; rename_i g; exact g.call (dSitsI ((unhide HN2).below g.below) ((unhide HT2).s.below g.below) (unhide HSM) hbk hb)) | (go_at_call 17; rename_i g; exact g.call (dSitsS ((unhide HN2).below g.below) ((unhide HT2).s.below g.below) (unhide HSM) hbk hb))))
    refine wpQuiet_nil ?_
    intro wq hwq
    have hbq : Below w2.heap.size w2 wq := by obtain ⟨g, rfl⟩ := hwq; exact g.below
    clear hwq hgc hgn hb
    cases b
    all_goals
     go_wp2_with fail
     go_ret
     exact ⟨rfl, (unhide HB2).trans (hbq.mono (unhide HB2).size)⟩
   | true =>
    obtain ⟨hTR, hSR⟩ := hok.1 rfl
    clear hok
    have HTR := hide hTR
    have HSR := hide hSR
    clear hTR hSR
    have n0 := (unhide HN2).bn.2.1 0 _ rfl
    have n1 := (unhide HN2).bn.2.1 1 _ rfl
    have nl := (unhide HN2).bn.1
    have t0 := (unhide HT2).bt.2.1 0 _ rfl
    have t1 := (unhide HT2).bt.2.1 1 _ rfl
    have t2 := (unhide HT2).bt.2.1 2 _ rfl
    have t3 := (unhide HT2).bt.2.1 3 _ rfl
    have t4 := (unhide HT2).bt.2.1 4 _ rfl
    have tl := (unhide HT2).bt.1
    go_upto_region 6 with fail
    rw [← unhide HW2, ← unhide HTE, ← unhide HNE]
    clear HW2 HTE HNE
    have eg0 : ¬ w2.heap.size = N := by omega
    have fg0 : ¬ N = w2.heap.size := by omega
    have eg1 : ¬ w2.heap.size = T := by omega
    have fg1 : ¬ T = w2.heap.size := by omega
    go_cut [9] (fun p wx => ∃ (B : Nat) (F : Int) (u : MvA) (pa : Option Addr) (pc : Nat) (oa : Option Addr) (oc : Nat), p = .pointer (some ⟨B, 0, none⟩) ∧ w2.heap.size ≤ B ∧ Hid ((0 ≤ F ∧ F ≤ 1530) ∧ MvIs n zs t F u) ∧ Hid (Mw u pa pc oa oc B wx) ∧ Below w2.heap.size w2 wx)
    case first =>
     go_region_held3 (fun w' => w'.cell? ⟨N, 0, none⟩ = some (.slice a1 n.pieces.length k1) ∧ w'.cell? ⟨N, 1, none⟩ = some (.slice a2 n.joints.length k2) ∧ w'.cell? ⟨T, 0, none⟩ = some (.int .i64 t.front.piece) ∧ w'.cell? ⟨T, 1, none⟩ = some (.int .i64 t.front.at_) ∧ w'.cell? ⟨T, 2, none⟩ = some (.int .i64 t.front.way) ∧ w'.cell? ⟨T, 3, none⟩ = some (.int .i64 t.long) ∧ w'.cell? ⟨T, 4, none⟩ = some (.slice ta t.back.length tc)) (((try dsimp only); (repeat' apply And.intro)) <;> (go_keep; done))
      (first
       | (go_at_call 8; refine (wFar_any ms ma mcap 0 _ ((unhide HM2).below ?_).by_ (by omega) (by omega)).mono ?_; exact bw0; rintro e w_g0 ⟨F, rfl, hF, hbg0⟩; obtain ⟨hcg0, hfg0⟩ := bcell hbg0; have szg0 := hbg0.size; (try simp at szg0); (try have ltg0 := Nat.lt_of_succ_le szg0); have ng0_0 : ¬ w_g0.heap.size = N := (by omega); have mg0_0 : ¬ N = w_g0.heap.size := (by omega); have ng0_1 : ¬ w_g0.heap.size = T := (by omega); have mg0_1 : ¬ T = w_g0.heap.size := (by omega); have qg0_0 := hcg0 (N) (0) (by first | (simp; done) | (simp; omega) | omega); have qg0_1 := hcg0 (N) (1) (by first | (simp; done) | (simp; omega) | omega); have qg0_2 := hcg0 (T) (0) (by first | (simp; done) | (simp; omega) | omega); have qg0_3 := hcg0 (T) (1) (by first | (simp; done) | (simp; omega) | omega); have qg0_4 := hcg0 (T) (2) (by first | (simp; done) | (simp; omega) | omega); have qg0_5 := hcg0 (T) (3) (by first | (simp; done) | (simp; omega) | omega); have qg0_6 := hcg0 (T) (4) (by first | (simp; done) | (simp; omega) | omega))
       | (go_at_call 9; refine (dMoveR (F := F) ((unhide HN2).below ?_) ((unhide HT2).s.below ?_) ((unhide HM2).below ?_).gl (unhide HSM) hbk).mono ?_; (first | exact (below_then bw0 hbg0) | exact (below_then (below_then bw0 hbg0) bw0)); (first | exact (below_then bw0 hbg0) | exact (below_then (below_then bw0 hbg0) bw0)); (first | exact (below_then bw0 hbg0) | exact (below_then (below_then bw0 hbg0) bw0)); rintro e w_gs ⟨u, pa, pc, oa, oc, hans, rfl, hrow, hbgs⟩; have HANS := hide (And.intro hF hans); have HROW := hide hrow; clear hans hrow; obtain ⟨hcgs, hfgs⟩ := bcell hbgs; have szgs := hbgs.size; (try simp at szgs); (try have ltgs := Nat.lt_of_succ_le szgs); have ngs_0 : ¬ w_gs.heap.size = N := (by omega); have mgs_0 : ¬ N = w_gs.heap.size := (by omega); have ngs_1 : ¬ w_gs.heap.size = T := (by omega); have mgs_1 : ¬ T = w_gs.heap.size := (by omega); have qgs_0 := hcgs (N) (0) (by first | (have := hbg0.size; omega) | (have := hbg0.size; simp at this ⊢; omega) | (simp; omega)); have qgs_1 := hcgs (N) (1) (by first | (have := hbg0.size; omega) | (have := hbg0.size; simp at this ⊢; omega) | (simp; omega)); have qgs_2 := hcgs (T) (0) (by first | (have := hbg0.size; omega) | (have := hbg0.size; simp at this ⊢; omega) | (simp; omega)); have qgs_3 := hcgs (T) (1) (by first | (have := hbg0.size; omega) | (have := hbg0.size; simp at this ⊢; omega) | (simp; omega)); have qgs_4 := hcgs (T) (2) (by first | (have := hbg0.size; omega) | (have := hbg0.size; simp at this ⊢; omega) | (simp; omega)); have qgs_5 := hcgs (T) (3) (by first | (have := hbg0.size; omega) | (have := hbg0.size; simp at this ⊢; omega) | (simp; omega)); have qgs_6 := hcgs (T) (4) (by first | (have := hbg0.size; omega) | (have := hbg0.size; simp at this ⊢; omega) | (simp; omega)); (try have ltg0 := Nat.lt_of_lt_of_le ltg0 szgs)))
     all_goals go_wp2_with fail
     all_goals go_meet
     ·have hw : Below w2.heap.size w2 w_gs := (below_then (below_then bw0 hbg0) hbgs)
      have hws := hw.size
      exact ⟨_, F, u, pa, pc, oa, oc, rfl, by omega, HANS, hide (Mw.box ⟨stRow_ts0 (unhide HROW).1, ptRow_at0 (unhide HROW).2⟩ _ _), below_then hw bw0⟩
     ·have hZ : Boxed w_gs (w_g0.heap.size) [.int .i64 0, .int .i64 0, .int .i64 0, .int .i64 0, .int .i64 0, .int .i64 0, .int .i64 0, .slice none 0 0, .slice none 0 0] := ((boxed_alloc _ _ _).below hbgs)
      have hw : Below w2.heap.size w2 w_gs := (below_then (below_then (below_then bw0 hbg0) bw0) hbgs)
      have hbl : w2.heap.size ≤ w_g0.heap.size := by have := hbg0.size; first | omega | (simp at this; omega)
      exact ⟨_, F, u, pa, pc, oa, oc, rfl, hbl, HANS, hide (mw_late hZ (unhide HROW).1 (unhide HROW).2 (by first | omega | (simp; done) | (simp; omega))), below_late hw hbl⟩
     ·have hZ : Boxed w_gs (w2.heap.size) [.int .i64 0, .int .i64 0, .int .i64 0, .int .i64 0, .int .i64 0, .int .i64 0, .int .i64 0, .slice none 0 0, .slice none 0 0] := (((boxed_alloc _ _ _).drew.below hbg0).below hbgs)
      have hw : Below w2.heap.size w2 w_gs := (below_then (below_then bw0 hbg0) hbgs)
      have hbl : w2.heap.size ≤ w2.heap.size := Nat.le_refl _
      exact ⟨_, F, u, pa, pc, oa, oc, rfl, hbl, HANS, hide (mw_late hZ (unhide HROW).1 (unhide HROW).2 (by have := hbg0.size; first | omega | (simp at this ⊢; omega))), below_late hw hbl⟩
    case rest =>
     obtain ⟨X, F, u, pa, pc, oa, oc, rfl, hXl, HANS, HX3, hb_c⟩ := hcut
     obtain ⟨w3, rfl⟩ : ∃ w3, w3 = wc := ⟨_, rfl⟩
     clear eg0 fg0 eg1 fg1
     clear n0 n1 nl t0 t1 t2 t3 t4 tl
     have HN3 := hide ((unhide HN2).below hb_c)
     have HT3 := hide ((unhide HT2).below hb_c)
     have HM3 := hide ((unhide HM2).below hb_c)
     have HB3 := hide ((unhide HB2).trans (hb_c.mono (unhide HB2).size))
     clear hXl hb_c HN2 HT2 HM2 HB2
     have hf := (unhide HANS).2.facts (unhide HSR) ⟨(unhide HANS).1.1, by have := (unhide HANS).1.2; omega⟩
     have HF := hide hf
     have HR := hide hf.sits.1
     have hul := (unhide HANS).2.len.1
     obtain ⟨xt, hxt⟩ : ∃ xt, turnOf n u.tr = xt := ⟨_, rfl⟩
     have hxs := turn_sits hf.sits
     rw [hxt] at hxs
     have hxl : xt.back.length ≤ 200 := hxs.1.2.2.2.1
     have HXT := hide hxt
     clear hf hxt hxs
     have n0 := (unhide HN3).bn.2.1 0 _ rfl
     have n1 := (unhide HN3).bn.2.1 1 _ rfl
     have nl := (unhide HN3).bn.1
     have x0 := (unhide HX3).b.2.1 0 _ rfl
     have x1 := (unhide HX3).b.2.1 1 _ rfl
     have x2 := (unhide HX3).b.2.1 2 _ rfl
     have x3 := (unhide HX3).b.2.1 3 _ rfl
     have x4 := (unhide HX3).b.2.1 4 _ rfl
     have x5 := (unhide HX3).b.2.1 5 _ rfl
     have x6 := (unhide HX3).b.2.1 6 _ rfl
     have x7 := (unhide HX3).b.2.1 7 _ rfl
     have x8 := (unhide HX3).b.2.1 8 _ rfl
     have xl := (unhide HX3).b.1
     go_upto_region 7 with fail
     have eh0 : ¬ w3.heap.size = N := by omega
     have fh0 : ¬ N = w3.heap.size := by omega
     have eh1 : ¬ w3.heap.size = X := by omega
     have fh1 : ¬ X = w3.heap.size := by omega
     go_cut [10] (fun p wx => ∃ (B : Nat) (y : MvA) (fa : Option Addr) (fc : Nat) (ga : Option Addr) (gc : Nat), p = .pointer (some ⟨B, 0, none⟩) ∧ w3.heap.size ≤ B ∧ Hid (MvIs n zs xt u.far y) ∧ Hid (Mw y fa fc ga gc B wx) ∧ Below w3.heap.size w3 wx)
     case first =>
      go_region_held3 (fun w' => w'.cell? ⟨N, 0, none⟩ = some (.slice a1 n.pieces.length k1) ∧ w'.cell? ⟨N, 1, none⟩ = some (.slice a2 n.joints.length k2) ∧ w'.cell? ⟨X, 0, none⟩ = some (.int .i64 u.code) ∧ w'.cell? ⟨X, 1, none⟩ = some (.int .i64 u.far) ∧ w'.cell? ⟨X, 2, none⟩ = some (.int .i64 u.joint) ∧ w'.cell? ⟨X, 3, none⟩ = some (.int .i64 u.tr.front.piece) ∧ w'.cell? ⟨X, 4, none⟩ = some (.int .i64 u.tr.front.at_) ∧ w'.cell? ⟨X, 5, none⟩ = some (.int .i64 u.tr.front.way) ∧ w'.cell? ⟨X, 6, none⟩ = some (.int .i64 u.tr.long) ∧ w'.cell? ⟨X, 7, none⟩ = some (.slice pa u.tr.back.length pc) ∧ w'.cell? ⟨X, 8, none⟩ = some (.slice oa u.over.length oc)) (((try dsimp only); (repeat' apply And.intro)) <;> (go_keep; done))
       (first
        | (go_at_call 18; refine (dTurnI (t := u.tr) ((unhide HN3).below ?_) ((unhide HX3).s.s.below ?_) (unhide HSM) (unhide HR)).mono ?_; exact bw0; exact bw0; rintro e w_h0 ⟨xa, xk, rfl, hX0, hbh0⟩; rw [unhide HXT] at hX0 ⊢; dsimp only [trV]; have HX0 := hide hX0; clear hX0; obtain ⟨hch0, hfh0⟩ := bcell hbh0; have szh0 := hbh0.size; (try simp at szh0); (try have lth0 := Nat.lt_of_succ_le szh0); have nh0_0 : ¬ w_h0.heap.size = N := (by omega); have mh0_0 : ¬ N = w_h0.heap.size := (by omega); have nh0_1 : ¬ w_h0.heap.size = X := (by omega); have mh0_1 : ¬ X = w_h0.heap.size := (by omega); have qh0_0 := hch0 (N) (0) (by first | (simp; done) | (simp; omega) | omega); have qh0_1 := hch0 (N) (1) (by first | (simp; done) | (simp; omega) | omega); have qh0_2 := hch0 (X) (0) (by first | (simp; done) | (simp; omega) | omega); have qh0_3 := hch0 (X) (1) (by first | (simp; done) | (simp; omega) | omega); have qh0_4 := hch0 (X) (2) (by first | (simp; done) | (simp; omega) | omega); have qh0_5 := hch0 (X) (3) (by first | (simp; done) | (simp; omega) | omega); have qh0_6 := hch0 (X) (4) (by first | (simp; done) | (simp; omega) | omega); have qh0_7 := hch0 (X) (5) (by first | (simp; done) | (simp; omega) | omega); have qh0_8 := hch0 (X) (6) (by first | (simp; done) | (simp; omega) | omega); have qh0_9 := hch0 (X) (7) (by first | (simp; done) | (simp; omega) | omega); have qh0_10 := hch0 (X) (8) (by first | (simp; done) | (simp; omega) | omega))
        | (go_at_call 9; refine (dMoveR (t := xt) (F := u.far) ((unhide HN3).below ?_) ((unhide HX0).below ?_) ((unhide HM3).below ?_).gl (unhide HSM) hxl).mono ?_; (first | exact (below_then bw0 hbh0) | exact (below_then (below_then bw0 hbh0) bw0)); exact bw0; (first | exact (below_then bw0 hbh0) | exact (below_then (below_then bw0 hbh0) bw0)); rintro e w_hs ⟨y, fa, fc, ga, gc, hans, rfl, hrow, hbhs⟩; have HANS := hide hans; have HROW := hide hrow; clear hans hrow; obtain ⟨hchs, hfhs⟩ := bcell hbhs; have szhs := hbhs.size; (try simp at szhs); (try have lths := Nat.lt_of_succ_le szhs); have nhs_0 : ¬ w_hs.heap.size = N := (by omega); have mhs_0 : ¬ N = w_hs.heap.size := (by omega); have nhs_1 : ¬ w_hs.heap.size = X := (by omega); have mhs_1 : ¬ X = w_hs.heap.size := (by omega); have qhs_0 := hchs (N) (0) (by first | (have := hbh0.size; omega) | (have := hbh0.size; simp at this ⊢; omega) | (simp; omega)); have qhs_1 := hchs (N) (1) (by first | (have := hbh0.size; omega) | (have := hbh0.size; simp at this ⊢; omega) | (simp; omega)); have qhs_2 := hchs (X) (0) (by first | (have := hbh0.size; omega) | (have := hbh0.size; simp at this ⊢; omega) | (simp; omega)); have qhs_3 := hchs (X) (1) (by first | (have := hbh0.size; omega) | (have := hbh0.size; simp at this ⊢; omega) | (simp; omega)); have qhs_4 := hchs (X) (2) (by first | (have := hbh0.size; omega) | (have := hbh0.size; simp at this ⊢; omega) | (simp; omega)); have qhs_5 := hchs (X) (3) (by first | (have := hbh0.size; omega) | (have := hbh0.size; simp at this ⊢; omega) | (simp; omega)); have qhs_6 := hchs (X) (4) (by first | (have := hbh0.size; omega) | (have := hbh0.size; simp at this ⊢; omega) | (simp; omega)); have qhs_7 := hchs (X) (5) (by first | (have := hbh0.size; omega) | (have := hbh0.size; simp at this ⊢; omega) | (simp; omega)); have qhs_8 := hchs (X) (6) (by first | (have := hbh0.size; omega) | (have := hbh0.size; simp at this ⊢; omega) | (simp; omega)); have qhs_9 := hchs (X) (7) (by first | (have := hbh0.size; omega) | (have := hbh0.size; simp at this ⊢; omega) | (simp; omega)); have qhs_10 := hchs (X) (8) (by first | (have := hbh0.size; omega) | (have := hbh0.size; simp at this ⊢; omega) | (simp; omega)); (try have lth0 := Nat.lt_of_lt_of_le lth0 szhs)))
      all_goals go_wp2_with fail
      all_goals go_meet
      ·have hw : Below w3.heap.size w3 w_hs := (below_then (below_then bw0 hbh0) hbhs)
       have hws := hw.size
       exact ⟨_, y, fa, fc, ga, gc, rfl, by omega, HANS, hide (Mw.box ⟨stRow_ts0 (unhide HROW).1, ptRow_at0 (unhide HROW).2⟩ _ _), below_then hw bw0⟩
      ·have hZ : Boxed w_hs (w_h0.heap.size) [.int .i64 0, .int .i64 0, .int .i64 0, .int .i64 0, .int .i64 0, .int .i64 0, .int .i64 0, .slice none 0 0, .slice none 0 0] := ((boxed_alloc _ _ _).below hbhs)
       have hw : Below w3.heap.size w3 w_hs := (below_then (below_then (below_then bw0 hbh0) bw0) hbhs)
       have hbl : w3.heap.size ≤ w_h0.heap.size := by have := hbh0.size; first | omega | (simp at this; omega)
       exact ⟨_, y, fa, fc, ga, gc, rfl, hbl, HANS, hide (mw_late hZ (unhide HROW).1 (unhide HROW).2 (by first | omega | (simp; done) | (simp; omega))), below_late hw hbl⟩
      ·have hZ : Boxed w_hs (w3.heap.size) [.int .i64 0, .int .i64 0, .int .i64 0, .int .i64 0, .int .i64 0, .int .i64 0, .int .i64 0, .slice none 0 0, .slice none 0 0] := (((boxed_alloc _ _ _).drew.below hbh0).below hbhs)
       have hw : Below w3.heap.size w3 w_hs := (below_then (below_then bw0 hbh0) hbhs)
       have hbl : w3.heap.size ≤ w3.heap.size := Nat.le_refl _
       exact ⟨_, y, fa, fc, ga, gc, rfl, hbl, HANS, hide (mw_late hZ (unhide HROW).1 (unhide HROW).2 (by have := hbh0.size; first | omega | (simp at this ⊢; omega))), below_late hw hbl⟩
     case rest =>
      obtain ⟨Y, y, fa, fc, ga, gc, rfl, hYl, HAN2, HY4, hb_c⟩ := hcut
      obtain ⟨w4, rfl⟩ : ∃ w4, w4 = wc := ⟨_, rfl⟩
      clear eh0 fh0 eh1 fh1
      clear n0 n1 nl x0 x1 x2 x3 x4 x5 x6 x7 x8 xl
      have HN4 := hide ((unhide HN3).below hb_c)
      have HT4 := hide ((unhide HT3).below hb_c)
      have HM4 := hide ((unhide HM3).below hb_c)
      have HX4 := hide ((unhide HX3).below hb_c)
      have HB4 := hide ((unhide HB3).trans (hb_c.mono (unhide HB3).size))
      clear hYl hb_c HN3 HT3 HM3 HX3 HB3
      obtain ⟨q1, q2, q3⟩ := mv_back (unhide HSR) ⟨(unhide HANS).1.1, by have := (unhide HANS).1.2; omega⟩ (unhide HANS).2 (by rw [unhide HXT]; exact unhide HAN2)
      have hG := netGood (unhide HTR).1
      obtain ⟨v, hv⟩ : ∃ v, turnOf n t = v := ⟨_, rfl⟩
      obtain ⟨vv, hvv⟩ : ∃ vv, turnOf n v = vv := ⟨_, rfl⟩
      obtain ⟨qs, hqs⟩ : ∃ qs, bodyParts n t = qs := ⟨_, rfl⟩
      have hVR := turn_right (unhide HTR)
      have hbv := body_turn hG (unhide HTR).2
      rw [hv] at hVR hbv q3
      have hWR := turn_right hVR
      have hbw := body_turn hG hVR.2
      rw [hvv] at hWR hbw
      rw [hbv, List.reverse_reverse, hqs] at hbw
      have hql : qs.length ≤ 201 := by rw [← hqs]; exact bodyParts_len hG (unhide HTR).2
      have HVR := hide hVR
      have HWR := hide hWR
      have HBW := hide hbw
      have HQS := hide hqs
      have HVV := hide hvv
      clear hG hv hvv hqs hVR hWR hbv hbw HAN2
      obtain ⟨yc0, yf0, yj0, yt0, yo0⟩ := y
      dsimp only at q1 q2 q3
      subst q1 q2
      replace q3 := q3.symm
      subst q3
      have HYt := hide (unhide HY4).s.s
      have HYb : Hid (Boxed w4 Y [.int .i64 0, .int .i64 u.far, .int .i64 yj0, .int .i64 v.front.piece, .int .i64 v.front.at_, .int .i64 v.front.way, .int .i64 v.long, .slice fa v.back.length fc, .slice ga yo0.length gc]) := (unhide HY4).b
      (try dsimp only at HYt)
      clear HY4
      have n0 := (unhide HN4).bn.2.1 0 _ rfl
      have n1 := (unhide HN4).bn.2.1 1 _ rfl
      have nl := (unhide HN4).bn.1
      have t0 := (unhide HT4).bt.2.1 0 _ rfl
      have t1 := (unhide HT4).bt.2.1 1 _ rfl
      have t2 := (unhide HT4).bt.2.1 2 _ rfl
      have t3 := (unhide HT4).bt.2.1 3 _ rfl
      have t4 := (unhide HT4).bt.2.1 4 _ rfl
      have tl := (unhide HT4).bt.1
      have x0 := (unhide HX4).b.2.1 0 _ rfl
      have x1 := (unhide HX4).b.2.1 1 _ rfl
      have x2 := (unhide HX4).b.2.1 2 _ rfl
      have x3 := (unhide HX4).b.2.1 3 _ rfl
      have x4 := (unhide HX4).b.2.1 4 _ rfl
      have x5 := (unhide HX4).b.2.1 5 _ rfl
      have x6 := (unhide HX4).b.2.1 6 _ rfl
      have x7 := (unhide HX4).b.2.1 7 _ rfl
      have x8 := (unhide HX4).b.2.1 8 _ rfl
      have xl := (unhide HX4).b.1
      have y0 := (unhide HYb).2.1 0 _ rfl
      have y1 := (unhide HYb).2.1 1 _ rfl
      have y2 := (unhide HYb).2.1 2 _ rfl
      have y3 := (unhide HYb).2.1 3 _ rfl
      have y4 := (unhide HYb).2.1 4 _ rfl
      have y5 := (unhide HYb).2.1 5 _ rfl
      have y6 := (unhide HYb).2.1 6 _ rfl
      have y7 := (unhide HYb).2.1 7 _ rfl
      have y8 := (unhide HYb).2.1 8 _ rfl
      have yl := (unhide HYb).1
      go_upto_region 8 with fail
      refine wp_region_held_drew (S := fun w' => w'.cell? ⟨N, 0, none⟩ = some (.slice a1 n.pieces.length k1) ∧ w'.cell? ⟨N, 1, none⟩ = some (.slice a2 n.joints.length k2) ∧ w'.cell? ⟨T, 0, none⟩ = some (.int .i64 t.front.piece) ∧ w'.cell? ⟨T, 1, none⟩ = some (.int .i64 t.front.at_) ∧ w'.cell? ⟨T, 2, none⟩ = some (.int .i64 t.front.way) ∧ w'.cell? ⟨T, 3, none⟩ = some (.int .i64 t.long) ∧ w'.cell? ⟨T, 4, none⟩ = some (.slice ta t.back.length tc) ∧ w'.cell? ⟨X, 0, none⟩ = some (.int .i64 u.code) ∧ w'.cell? ⟨X, 1, none⟩ = some (.int .i64 u.far) ∧ w'.cell? ⟨X, 2, none⟩ = some (.int .i64 u.joint) ∧ w'.cell? ⟨X, 3, none⟩ = some (.int .i64 u.tr.front.piece) ∧ w'.cell? ⟨X, 4, none⟩ = some (.int .i64 u.tr.front.at_) ∧ w'.cell? ⟨X, 5, none⟩ = some (.int .i64 u.tr.front.way) ∧ w'.cell? ⟨X, 6, none⟩ = some (.int .i64 u.tr.long) ∧ w'.cell? ⟨X, 7, none⟩ = some (.slice pa u.tr.back.length pc) ∧ w'.cell? ⟨X, 8, none⟩ = some (.slice oa u.over.length oc) ∧ w'.cell? ⟨Y, 0, none⟩ = some (.int .i64 0) ∧ w'.cell? ⟨Y, 1, none⟩ = some (.int .i64 u.far) ∧ w'.cell? ⟨Y, 2, none⟩ = some (.int .i64 yj0) ∧ w'.cell? ⟨Y, 3, none⟩ = some (.int .i64 v.front.piece) ∧ w'.cell? ⟨Y, 4, none⟩ = some (.int .i64 v.front.at_) ∧ w'.cell? ⟨Y, 5, none⟩ = some (.int .i64 v.front.way) ∧ w'.cell? ⟨Y, 6, none⟩ = some (.int .i64 v.long) ∧ w'.cell? ⟨Y, 7, none⟩ = some (.slice fa v.back.length fc) ∧ w'.cell? ⟨Y, 8, none⟩ = some (.slice ga yo0.length gc)) (by kernel_rfl) ?_ (fun hHeld => ?_)
      ·exact ⟨by simpa using n0, by simpa using n1, by simpa using t0, by simpa using t1, by simpa using t2, by simpa using t3, by simpa using t4, by simpa using x0, by simpa using x1, by simpa using x2, by simpa using x3, by simpa using x4, by simpa using x5, by simpa using x6, by simpa using x7, by simpa using x8, by simpa using y0, by simpa using y1, by simpa using y2, by simpa using y3, by simpa using y4, by simpa using y5, by simpa using y6, by simpa using y7, by simpa using y8⟩
      refine wpAnyH_take (i := 0) (v := ?va1) rfl (by kernel_rfl) (by kernel_rfl) (by kernel_rfl) (fun _ _ _ h => h) (Or.inl ⟨by rfl, ?ya1⟩) (by assumption) ?ra1
      case ya1 => (intro w0 hSw; (try dsimp only at hSw); go_simp; (try with_reducible rfl))
      (try simp only [Act.put, List.getElem_toArray, List.getElem_cons_zero, List.getElem_cons_succ, List.setIfInBounds_toArray, List.set_cons_zero, List.set_cons_succ])
      refine wpAnyH_take (i := 1) (v := ?va2) rfl (by kernel_rfl) (by kernel_rfl) (by kernel_rfl) (fun _ _ _ h => h) (Or.inl ⟨by rfl, ?ya2⟩) (by assumption) ?ra2
      case ya2 => (intro w0 hSw; (try dsimp only at hSw); go_simp; (try with_reducible rfl))
      (try simp only [Act.put, List.getElem_toArray, List.getElem_cons_zero, List.getElem_cons_succ, List.setIfInBounds_toArray, List.set_cons_zero, List.set_cons_succ])
      refine wpAnyH_take (i := 2) (v := ?va3) rfl (by kernel_rfl) (by kernel_rfl) (by kernel_rfl) (fun _ _ _ h => h) (Or.inl ⟨by rfl, ?ya3⟩) (by assumption) ?ra3
      case ya3 => (intro w0 hSw; (try dsimp only at hSw); go_simp; (try with_reducible rfl))
      (try simp only [Act.put, List.getElem_toArray, List.getElem_cons_zero, List.getElem_cons_succ, List.setIfInBounds_toArray, List.set_cons_zero, List.set_cons_succ])
      refine wpAnyH_take (i := 3) (v := ?va4) rfl (by kernel_rfl) (by kernel_rfl) (by kernel_rfl) (fun _ _ _ h => h) (Or.inl ⟨by rfl, ?ya4⟩) (by assumption) ?ra4
      case ya4 => (intro w0 hSw; (try dsimp only at hSw); go_simp; (try with_reducible rfl))
      (try simp only [Act.put, List.getElem_toArray, List.getElem_cons_zero, List.getElem_cons_succ, List.setIfInBounds_toArray, List.set_cons_zero, List.set_cons_succ])
      refine wpAnyH_take (i := 4) (v := ?va5) rfl (by kernel_rfl) (by kernel_rfl) (by kernel_rfl) (fun _ _ _ h => h) (Or.inl ⟨by rfl, ?ya5⟩) (by assumption) ?ra5
      case ya5 => (intro w0 hSw; (try dsimp only at hSw); go_simp; (try with_reducible rfl))
      (try simp only [Act.put, List.getElem_toArray, List.getElem_cons_zero, List.getElem_cons_succ, List.setIfInBounds_toArray, List.set_cons_zero, List.set_cons_succ])
      refine wpAnyH_take (i := 5) (v := ?va6) rfl (by kernel_rfl) (by kernel_rfl) (by kernel_rfl) (fun _ _ _ h => h) (Or.inl ⟨by rfl, ?ya6⟩) (by assumption) ?ra6
      case ya6 => (intro w0 hSw; (try dsimp only at hSw); go_simp; (try with_reducible rfl))
      (try simp only [Act.put, List.getElem_toArray, List.getElem_cons_zero, List.getElem_cons_succ, List.setIfInBounds_toArray, List.set_cons_zero, List.set_cons_succ])
      refine wpAnyH_take (i := 6) (v := ?va7) rfl (by kernel_rfl) (by kernel_rfl) (by kernel_rfl) (fun _ _ _ h => h) (Or.inl ⟨by rfl, ?ya7⟩) (by assumption) ?ra7
      case ya7 => (intro w0 hSw; (try dsimp only at hSw); go_simp; (try with_reducible rfl))
      (try simp only [Act.put, List.getElem_toArray, List.getElem_cons_zero, List.getElem_cons_succ, List.setIfInBounds_toArray, List.set_cons_zero, List.set_cons_succ])
      refine wpAnyH_take (i := 7) (v := ?va8) rfl (by kernel_rfl) (by kernel_rfl) (by kernel_rfl) (fun _ _ _ h => h) (Or.inl ⟨by rfl, ?ya8⟩) (by assumption) ?ra8
      case ya8 => (intro w0 hSw; (try dsimp only at hSw); go_simp; (try with_reducible rfl))
      (try simp only [Act.put, List.getElem_toArray, List.getElem_cons_zero, List.getElem_cons_succ, List.setIfInBounds_toArray, List.set_cons_zero, List.set_cons_succ])
      refine wpAnyH_take (i := 8) (v := ?va9) rfl (by kernel_rfl) (by kernel_rfl) (by kernel_rfl) (fun _ _ _ h => h) (Or.inl ⟨by rfl, ?ya9⟩) (by assumption) ?ra9
      case ya9 => (intro w0 hSw; (try dsimp only at hSw); go_simp; (try with_reducible rfl))
      (try simp only [Act.put, List.getElem_toArray, List.getElem_cons_zero, List.getElem_cons_succ, List.setIfInBounds_toArray, List.set_cons_zero, List.set_cons_succ])
      refine wpAnyH_take (i := 9) (v := ?va10) rfl (by kernel_rfl) (by kernel_rfl) (by kernel_rfl) (fun _ _ _ h => h) (Or.inl ⟨by rfl, ?ya10⟩) (by assumption) ?ra10
      case ya10 => (intro w0 hSw; (try dsimp only at hSw); go_simp; (try with_reducible rfl))
      (try simp only [Act.put, List.getElem_toArray, List.getElem_cons_zero, List.getElem_cons_succ, List.setIfInBounds_toArray, List.set_cons_zero, List.set_cons_succ])
      refine wpAnyH_take (i := 10) (v := ?va11) rfl (by kernel_rfl) (by kernel_rfl) (by kernel_rfl) (fun _ _ _ h => h) (Or.inl ⟨by rfl, ?ya11⟩) (by assumption) ?ra11
      case ya11 => (intro w0 hSw; (try dsimp only at hSw); go_simp; (try with_reducible rfl))
      (try simp only [Act.put, List.getElem_toArray, List.getElem_cons_zero, List.getElem_cons_succ, List.setIfInBounds_toArray, List.set_cons_zero, List.set_cons_succ])
      refine wpAnyH_take (i := 11) (v := ?va12) rfl (by kernel_rfl) (by kernel_rfl) (by kernel_rfl) (fun _ _ _ h => h) (Or.inl ⟨by rfl, ?ya12⟩) (by assumption) ?ra12
      case ya12 => (intro w0 hSw; (try dsimp only at hSw); go_simp; (try with_reducible rfl))
      (try simp only [Act.put, List.getElem_toArray, List.getElem_cons_zero, List.getElem_cons_succ, List.setIfInBounds_toArray, List.set_cons_zero, List.set_cons_succ])
      refine wpAnyH_take (i := 12) (v := ?va13) rfl (by kernel_rfl) (by kernel_rfl) (by kernel_rfl) (fun _ _ _ h => h) (Or.inl ⟨by rfl, ?ya13⟩) (by assumption) ?ra13
      case ya13 => (intro w0 hSw; (try dsimp only at hSw); go_simp; (try with_reducible rfl))
      (try simp only [Act.put, List.getElem_toArray, List.getElem_cons_zero, List.getElem_cons_succ, List.setIfInBounds_toArray, List.set_cons_zero, List.set_cons_succ])
      refine wpAnyH_take (i := 13) (v := ?va14) rfl (by kernel_rfl) (by kernel_rfl) (by kernel_rfl) (fun _ _ _ h => h) (Or.inl ⟨by rfl, ?ya14⟩) (by assumption) ?ra14
      case ya14 => (intro w0 hSw; (try dsimp only at hSw); go_simp; (try with_reducible rfl))
      (try simp only [Act.put, List.getElem_toArray, List.getElem_cons_zero, List.getElem_cons_succ, List.setIfInBounds_toArray, List.set_cons_zero, List.set_cons_succ])
      refine wpAnyH_take (i := 14) (v := ?va15) rfl (by kernel_rfl) (by kernel_rfl) (by kernel_rfl) (fun _ _ _ h => h) (Or.inl ⟨by rfl, ?ya15⟩) (by assumption) ?ra15
      case ya15 => (intro w0 hSw; (try dsimp only at hSw); go_simp; (try with_reducible rfl))
      (try simp only [Act.put, List.getElem_toArray, List.getElem_cons_zero, List.getElem_cons_succ, List.setIfInBounds_toArray, List.set_cons_zero, List.set_cons_succ])
      refine wpAnyH_take (i := 17) (v := ?va16) rfl (by kernel_rfl) (by kernel_rfl) (by kernel_rfl) (fun _ _ _ h => h) (Or.inl ⟨by rfl, ?ya16⟩) (by assumption) ?ra16
      case ya16 => (intro w0 hSw; (try dsimp only at hSw); go_simp; (try with_reducible rfl))
      (try simp only [Act.put, List.getElem_toArray, List.getElem_cons_zero, List.getElem_cons_succ, List.setIfInBounds_toArray, List.set_cons_zero, List.set_cons_succ])
      refine wpAnyH_take (i := 18) (v := ?va17) rfl (by kernel_rfl) (by kernel_rfl) (by kernel_rfl) (fun _ _ _ h => h) (Or.inl ⟨by rfl, ?ya17⟩) (by assumption) ?ra17
      case ya17 => (intro w0 hSw; (try dsimp only at hSw); go_simp; (try with_reducible rfl))
      (try simp only [Act.put, List.getElem_toArray, List.getElem_cons_zero, List.getElem_cons_succ, List.setIfInBounds_toArray, List.set_cons_zero, List.set_cons_succ])
      refine wpAnyH_ready (rs := [15]) (by kernel_rfl) (by simp) ?_
      refine (AllReadyH.cons rfl (fun K hK => ?_) AllReadyH.nil)
      go_simp
      refine (dTurnI (t := v) ((unhide HN4).below bw0) ((unhide HYt).below bw0) (unhide HSM) (unhide HVR)).mono ?_
      rintro e w5 ⟨xa, xk, rfl, hX5, hb5⟩
      rw [unhide HVV] at hX5 ⊢
      dsimp only [trV]
      have HX5 := hide hX5
      clear hX5
      have hB5 : Below w4.heap.size w4 w5 := below_then bw0 hb5
      have hn5 := (unhide HN4).bn.below hB5
      have ht5 := (unhide HT4).bt.below hB5
      have hx5 := (unhide HX4).b.below hB5
      have hy5 := (unhide HYb).below hB5
      have nl5 := hn5.1
      have tl5 := ht5.1
      have xl5 := hx5.1
      have yl5 := hy5.1
      have HB5 := hide hB5
      have hH5 : (fun w' => w'.cell? ⟨N, 0, none⟩ = some (.slice a1 n.pieces.length k1) ∧ w'.cell? ⟨N, 1, none⟩ = some (.slice a2 n.joints.length k2) ∧ w'.cell? ⟨T, 0, none⟩ = some (.int .i64 t.front.piece) ∧ w'.cell? ⟨T, 1, none⟩ = some (.int .i64 t.front.at_) ∧ w'.cell? ⟨T, 2, none⟩ = some (.int .i64 t.front.way) ∧ w'.cell? ⟨T, 3, none⟩ = some (.int .i64 t.long) ∧ w'.cell? ⟨T, 4, none⟩ = some (.slice ta t.back.length tc) ∧ w'.cell? ⟨X, 0, none⟩ = some (.int .i64 u.code) ∧ w'.cell? ⟨X, 1, none⟩ = some (.int .i64 u.far) ∧ w'.cell? ⟨X, 2, none⟩ = some (.int .i64 u.joint) ∧ w'.cell? ⟨X, 3, none⟩ = some (.int .i64 u.tr.front.piece) ∧ w'.cell? ⟨X, 4, none⟩ = some (.int .i64 u.tr.front.at_) ∧ w'.cell? ⟨X, 5, none⟩ = some (.int .i64 u.tr.front.way) ∧ w'.cell? ⟨X, 6, none⟩ = some (.int .i64 u.tr.long) ∧ w'.cell? ⟨X, 7, none⟩ = some (.slice pa u.tr.back.length pc) ∧ w'.cell? ⟨X, 8, none⟩ = some (.slice oa u.over.length oc) ∧ w'.cell? ⟨Y, 0, none⟩ = some (.int .i64 0) ∧ w'.cell? ⟨Y, 1, none⟩ = some (.int .i64 u.far) ∧ w'.cell? ⟨Y, 2, none⟩ = some (.int .i64 yj0) ∧ w'.cell? ⟨Y, 3, none⟩ = some (.int .i64 v.front.piece) ∧ w'.cell? ⟨Y, 4, none⟩ = some (.int .i64 v.front.at_) ∧ w'.cell? ⟨Y, 5, none⟩ = some (.int .i64 v.front.way) ∧ w'.cell? ⟨Y, 6, none⟩ = some (.int .i64 v.long) ∧ w'.cell? ⟨Y, 7, none⟩ = some (.slice fa v.back.length fc) ∧ w'.cell? ⟨Y, 8, none⟩ = some (.slice ga yo0.length gc)) w5 := ⟨hn5.2.1 0 _ rfl, hn5.2.1 1 _ rfl, ht5.2.1 0 _ rfl, ht5.2.1 1 _ rfl, ht5.2.1 2 _ rfl, ht5.2.1 3 _ rfl, ht5.2.1 4 _ rfl, hx5.2.1 0 _ rfl, hx5.2.1 1 _ rfl, hx5.2.1 2 _ rfl, hx5.2.1 3 _ rfl, hx5.2.1 4 _ rfl, hx5.2.1 5 _ rfl, hx5.2.1 6 _ rfl, hx5.2.1 7 _ rfl, hx5.2.1 8 _ rfl, hy5.2.1 0 _ rfl, hy5.2.1 1 _ rfl, hy5.2.1 2 _ rfl, hy5.2.1 3 _ rfl, hy5.2.1 4 _ rfl, hy5.2.1 5 _ rfl, hy5.2.1 6 _ rfl, hy5.2.1 7 _ rfl, hy5.2.1 8 _ rfl⟩
      clear hb5 hB5 hn5 ht5 hx5 hy5
      refine hK.out _ _ hH5 (fun hHeld => ?_)
      clear hK K
      (try simp only [Act.put, List.getElem_toArray, List.getElem_cons_zero, List.getElem_cons_succ, List.setIfInBounds_toArray, List.set_cons_zero, List.set_cons_succ])
      refine wpAnyH_ready (rs := [16]) (by kernel_rfl) (by simp) ?_
      refine (AllReadyH.cons rfl (fun K hK => ?_) AllReadyH.nil)
      go_simp
      refine (dBodyI (t := vv) (((unhide HN4).below (unhide HB5)).below bw0) ((unhide HX5).below bw0) (unhide HSM) (unhide HWR)).mono ?_
      rintro e w6 ⟨ya, yk, rfl, hP6, hb6⟩
      dsimp only
      rw [unhide HBW] at hP6 ⊢
      have HP6 := hide hP6
      clear hP6
      have hB6 : Below w4.heap.size w4 w6 := below_then (unhide HB5) (below_then bw0 hb6)
      have hn6 := (unhide HN4).bn.below hB6
      have ht6 := (unhide HT4).bt.below hB6
      have hx6 := (unhide HX4).b.below hB6
      have hy6 := (unhide HYb).below hB6
      have nl6 := hn6.1
      have tl6 := ht6.1
      have xl6 := hx6.1
      have yl6 := hy6.1
      have HB6 := hide hB6
      have hH6 : (fun w' => w'.cell? ⟨N, 0, none⟩ = some (.slice a1 n.pieces.length k1) ∧ w'.cell? ⟨N, 1, none⟩ = some (.slice a2 n.joints.length k2) ∧ w'.cell? ⟨T, 0, none⟩ = some (.int .i64 t.front.piece) ∧ w'.cell? ⟨T, 1, none⟩ = some (.int .i64 t.front.at_) ∧ w'.cell? ⟨T, 2, none⟩ = some (.int .i64 t.front.way) ∧ w'.cell? ⟨T, 3, none⟩ = some (.int .i64 t.long) ∧ w'.cell? ⟨T, 4, none⟩ = some (.slice ta t.back.length tc) ∧ w'.cell? ⟨X, 0, none⟩ = some (.int .i64 u.code) ∧ w'.cell? ⟨X, 1, none⟩ = some (.int .i64 u.far) ∧ w'.cell? ⟨X, 2, none⟩ = some (.int .i64 u.joint) ∧ w'.cell? ⟨X, 3, none⟩ = some (.int .i64 u.tr.front.piece) ∧ w'.cell? ⟨X, 4, none⟩ = some (.int .i64 u.tr.front.at_) ∧ w'.cell? ⟨X, 5, none⟩ = some (.int .i64 u.tr.front.way) ∧ w'.cell? ⟨X, 6, none⟩ = some (.int .i64 u.tr.long) ∧ w'.cell? ⟨X, 7, none⟩ = some (.slice pa u.tr.back.length pc) ∧ w'.cell? ⟨X, 8, none⟩ = some (.slice oa u.over.length oc) ∧ w'.cell? ⟨Y, 0, none⟩ = some (.int .i64 0) ∧ w'.cell? ⟨Y, 1, none⟩ = some (.int .i64 u.far) ∧ w'.cell? ⟨Y, 2, none⟩ = some (.int .i64 yj0) ∧ w'.cell? ⟨Y, 3, none⟩ = some (.int .i64 v.front.piece) ∧ w'.cell? ⟨Y, 4, none⟩ = some (.int .i64 v.front.at_) ∧ w'.cell? ⟨Y, 5, none⟩ = some (.int .i64 v.front.way) ∧ w'.cell? ⟨Y, 6, none⟩ = some (.int .i64 v.long) ∧ w'.cell? ⟨Y, 7, none⟩ = some (.slice fa v.back.length fc) ∧ w'.cell? ⟨Y, 8, none⟩ = some (.slice ga yo0.length gc)) w6 := ⟨hn6.2.1 0 _ rfl, hn6.2.1 1 _ rfl, ht6.2.1 0 _ rfl, ht6.2.1 1 _ rfl, ht6.2.1 2 _ rfl, ht6.2.1 3 _ rfl, ht6.2.1 4 _ rfl, hx6.2.1 0 _ rfl, hx6.2.1 1 _ rfl, hx6.2.1 2 _ rfl, hx6.2.1 3 _ rfl, hx6.2.1 4 _ rfl, hx6.2.1 5 _ rfl, hx6.2.1 6 _ rfl, hx6.2.1 7 _ rfl, hx6.2.1 8 _ rfl, hy6.2.1 0 _ rfl, hy6.2.1 1 _ rfl, hy6.2.1 2 _ rfl, hy6.2.1 3 _ rfl, hy6.2.1 4 _ rfl, hy6.2.1 5 _ rfl, hy6.2.1 6 _ rfl, hy6.2.1 7 _ rfl, hy6.2.1 8 _ rfl⟩
      clear hb6 hB6 hn6 ht6 hx6 hy6
      refine hK.out _ _ hH6 (fun hHeld => ?_)
      clear hK K
      (try simp only [Act.put, List.getElem_toArray, List.getElem_cons_zero, List.getElem_cons_succ, List.setIfInBounds_toArray, List.set_cons_zero, List.set_cons_succ])
      refine wpAnyH_ready (rs := [19]) (by kernel_rfl) (by simp) ?_
      refine (AllReadyH.cons rfl (fun K hK => ?_) AllReadyH.nil)
      go_simp
      refine (dBodyS (((unhide HN4).below (unhide HB6)).below bw0) (((unhide HT4).s.below (unhide HB6)).below bw0) (unhide HSM) (unhide HTR)).mono ?_
      rintro e w7 ⟨sa, sk, rfl, hP7, hb7⟩
      dsimp only
      rw [unhide HQS] at hP7 ⊢
      have HP7 := hide hP7
      have HP6' := hide (((unhide HP6).below (below_then bw0 hb7)))
      clear hP7
      have hB7 : Below w4.heap.size w4 w7 := below_then (unhide HB6) (below_then bw0 hb7)
      have hn7 := (unhide HN4).bn.below hB7
      have ht7 := (unhide HT4).bt.below hB7
      have hx7 := (unhide HX4).b.below hB7
      have hy7 := (unhide HYb).below hB7
      have nl7 := hn7.1
      have tl7 := ht7.1
      have xl7 := hx7.1
      have yl7 := hy7.1
      have HB7 := hide hB7
      have hH7 : (fun w' => w'.cell? ⟨N, 0, none⟩ = some (.slice a1 n.pieces.length k1) ∧ w'.cell? ⟨N, 1, none⟩ = some (.slice a2 n.joints.length k2) ∧ w'.cell? ⟨T, 0, none⟩ = some (.int .i64 t.front.piece) ∧ w'.cell? ⟨T, 1, none⟩ = some (.int .i64 t.front.at_) ∧ w'.cell? ⟨T, 2, none⟩ = some (.int .i64 t.front.way) ∧ w'.cell? ⟨T, 3, none⟩ = some (.int .i64 t.long) ∧ w'.cell? ⟨T, 4, none⟩ = some (.slice ta t.back.length tc) ∧ w'.cell? ⟨X, 0, none⟩ = some (.int .i64 u.code) ∧ w'.cell? ⟨X, 1, none⟩ = some (.int .i64 u.far) ∧ w'.cell? ⟨X, 2, none⟩ = some (.int .i64 u.joint) ∧ w'.cell? ⟨X, 3, none⟩ = some (.int .i64 u.tr.front.piece) ∧ w'.cell? ⟨X, 4, none⟩ = some (.int .i64 u.tr.front.at_) ∧ w'.cell? ⟨X, 5, none⟩ = some (.int .i64 u.tr.front.way) ∧ w'.cell? ⟨X, 6, none⟩ = some (.int .i64 u.tr.long) ∧ w'.cell? ⟨X, 7, none⟩ = some (.slice pa u.tr.back.length pc) ∧ w'.cell? ⟨X, 8, none⟩ = some (.slice oa u.over.length oc) ∧ w'.cell? ⟨Y, 0, none⟩ = some (.int .i64 0) ∧ w'.cell? ⟨Y, 1, none⟩ = some (.int .i64 u.far) ∧ w'.cell? ⟨Y, 2, none⟩ = some (.int .i64 yj0) ∧ w'.cell? ⟨Y, 3, none⟩ = some (.int .i64 v.front.piece) ∧ w'.cell? ⟨Y, 4, none⟩ = some (.int .i64 v.front.at_) ∧ w'.cell? ⟨Y, 5, none⟩ = some (.int .i64 v.front.way) ∧ w'.cell? ⟨Y, 6, none⟩ = some (.int .i64 v.long) ∧ w'.cell? ⟨Y, 7, none⟩ = some (.slice fa v.back.length fc) ∧ w'.cell? ⟨Y, 8, none⟩ = some (.slice ga yo0.length gc)) w7 := ⟨hn7.2.1 0 _ rfl, hn7.2.1 1 _ rfl, ht7.2.1 0 _ rfl, ht7.2.1 1 _ rfl, ht7.2.1 2 _ rfl, ht7.2.1 3 _ rfl, ht7.2.1 4 _ rfl, hx7.2.1 0 _ rfl, hx7.2.1 1 _ rfl, hx7.2.1 2 _ rfl, hx7.2.1 3 _ rfl, hx7.2.1 4 _ rfl, hx7.2.1 5 _ rfl, hx7.2.1 6 _ rfl, hx7.2.1 7 _ rfl, hx7.2.1 8 _ rfl, hy7.2.1 0 _ rfl, hy7.2.1 1 _ rfl, hy7.2.1 2 _ rfl, hy7.2.1 3 _ rfl, hy7.2.1 4 _ rfl, hy7.2.1 5 _ rfl, hy7.2.1 6 _ rfl, hy7.2.1 7 _ rfl, hy7.2.1 8 _ rfl⟩
      clear hb7 hB7 hn7 ht7 hx7 hy7
      refine hK.out _ _ hH7 (fun hHeld => ?_)
      clear hK K
      (try simp only [Act.put, List.getElem_toArray, List.getElem_cons_zero, List.getElem_cons_succ, List.setIfInBounds_toArray, List.set_cons_zero, List.set_cons_succ])
      refine wpAnyH_ready (rs := [20]) (by kernel_rfl) (by simp) ?_
      refine (AllReadyH.cons rfl (fun K hK => ?_) AllReadyH.nil)
      go_simp
      refine (wParts_same qs ya sa yk sk _ ((unhide HP6').below bw0) ((unhide HP7).below bw0) (by omega)).mono ?_
      rintro e w8 ⟨rfl, hb8⟩
      dsimp only
      have hB8 : Below w4.heap.size w4 w8 := below_then (unhide HB7) (below_then bw0 hb8)
      have hn8 := (unhide HN4).bn.below hB8
      have ht8 := (unhide HT4).bt.below hB8
      have hx8 := (unhide HX4).b.below hB8
      have hy8 := (unhide HYb).below hB8
      have nl8 := hn8.1
      have tl8 := ht8.1
      have xl8 := hx8.1
      have yl8 := hy8.1
      have HB8 := hide hB8
      have hH8 : (fun w' => w'.cell? ⟨N, 0, none⟩ = some (.slice a1 n.pieces.length k1) ∧ w'.cell? ⟨N, 1, none⟩ = some (.slice a2 n.joints.length k2) ∧ w'.cell? ⟨T, 0, none⟩ = some (.int .i64 t.front.piece) ∧ w'.cell? ⟨T, 1, none⟩ = some (.int .i64 t.front.at_) ∧ w'.cell? ⟨T, 2, none⟩ = some (.int .i64 t.front.way) ∧ w'.cell? ⟨T, 3, none⟩ = some (.int .i64 t.long) ∧ w'.cell? ⟨T, 4, none⟩ = some (.slice ta t.back.length tc) ∧ w'.cell? ⟨X, 0, none⟩ = some (.int .i64 u.code) ∧ w'.cell? ⟨X, 1, none⟩ = some (.int .i64 u.far) ∧ w'.cell? ⟨X, 2, none⟩ = some (.int .i64 u.joint) ∧ w'.cell? ⟨X, 3, none⟩ = some (.int .i64 u.tr.front.piece) ∧ w'.cell? ⟨X, 4, none⟩ = some (.int .i64 u.tr.front.at_) ∧ w'.cell? ⟨X, 5, none⟩ = some (.int .i64 u.tr.front.way) ∧ w'.cell? ⟨X, 6, none⟩ = some (.int .i64 u.tr.long) ∧ w'.cell? ⟨X, 7, none⟩ = some (.slice pa u.tr.back.length pc) ∧ w'.cell? ⟨X, 8, none⟩ = some (.slice oa u.over.length oc) ∧ w'.cell? ⟨Y, 0, none⟩ = some (.int .i64 0) ∧ w'.cell? ⟨Y, 1, none⟩ = some (.int .i64 u.far) ∧ w'.cell? ⟨Y, 2, none⟩ = some (.int .i64 yj0) ∧ w'.cell? ⟨Y, 3, none⟩ = some (.int .i64 v.front.piece) ∧ w'.cell? ⟨Y, 4, none⟩ = some (.int .i64 v.front.at_) ∧ w'.cell? ⟨Y, 5, none⟩ = some (.int .i64 v.front.way) ∧ w'.cell? ⟨Y, 6, none⟩ = some (.int .i64 v.long) ∧ w'.cell? ⟨Y, 7, none⟩ = some (.slice fa v.back.length fc) ∧ w'.cell? ⟨Y, 8, none⟩ = some (.slice ga yo0.length gc)) w8 := ⟨hn8.2.1 0 _ rfl, hn8.2.1 1 _ rfl, ht8.2.1 0 _ rfl, ht8.2.1 1 _ rfl, ht8.2.1 2 _ rfl, ht8.2.1 3 _ rfl, ht8.2.1 4 _ rfl, hx8.2.1 0 _ rfl, hx8.2.1 1 _ rfl, hx8.2.1 2 _ rfl, hx8.2.1 3 _ rfl, hx8.2.1 4 _ rfl, hx8.2.1 5 _ rfl, hx8.2.1 6 _ rfl, hx8.2.1 7 _ rfl, hx8.2.1 8 _ rfl, hy8.2.1 0 _ rfl, hy8.2.1 1 _ rfl, hy8.2.1 2 _ rfl, hy8.2.1 3 _ rfl, hy8.2.1 4 _ rfl, hy8.2.1 5 _ rfl, hy8.2.1 6 _ rfl, hy8.2.1 7 _ rfl, hy8.2.1 8 _ rfl⟩
      clear hb8 hB8 hn8 ht8 hx8 hy8
      refine hK.out _ _ hH8 (fun hHeld => ?_)
      clear hK K
      (try simp only [Act.put, List.getElem_toArray, List.getElem_cons_zero, List.getElem_cons_succ, List.setIfInBounds_toArray, List.set_cons_zero, List.set_cons_succ])
      refine wpAnyH_take (i := 21) (v := ?va18) rfl (by kernel_rfl) (by kernel_rfl) (by kernel_rfl) (fun _ _ _ h => h) (Or.inl ⟨by rfl, ?ya18⟩) (by assumption) ?ra18
      case ya18 => (intro w0 hSw; (try dsimp only at hSw); go_simp; (try with_reducible rfl))
      (try simp only [Act.put, List.getElem_toArray, List.getElem_cons_zero, List.getElem_cons_succ, List.setIfInBounds_toArray, List.set_cons_zero, List.set_cons_succ])
      refine wpAnyH_take (i := 22) (v := ?va19) rfl (by kernel_rfl) (by kernel_rfl) (by kernel_rfl) (fun _ _ _ h => h) (Or.inl ⟨by rfl, ?ya19⟩) (by assumption) ?ra19
      case ya19 => (intro w0 hSw; (try dsimp only at hSw); go_simp; (try with_reducible rfl))
      (try simp only [Act.put, List.getElem_toArray, List.getElem_cons_zero, List.getElem_cons_succ, List.setIfInBounds_toArray, List.set_cons_zero, List.set_cons_succ])
      refine wpAnyH_done (by kernel_rfl) ?_ _
      go_wp2_with fail
      go_ret
      exact ⟨rfl, (unhide HB4).trans ((unhide HB8).mono (unhide HB4).size)⟩
end Go.Proofs.YtbdggfpfpjijoaaGreatDoor

