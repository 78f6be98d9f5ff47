import Derived.Test.YtbdggfpfpjijoaaGreatG1
import Derived.Test.YtbdggfpfpjijoaaGreatEq
import Derived.Test.YtbdggfpfpjijoaaGreatG6
import Derived.Test.YtbdggfpfpjijoaaGreatG25
namespace Go.Proofs.YtbdggfpfpjijoaaGreat
open Go.RowKit

set_option maxRecDepth 100000 in
set_option maxHeartbeats 8000000 in
theorem lawBody_any (v : Value) (n : Nt) (tv : Value) (t : Tr) (w : World) {L L1 : Nat} (hv : NetAt L w v n) (hl : n.pieces.length ≤ maxLen) (hl' : n.joints.length ≤ maxLen) (hle : ∀ i (h : i < n.joints.length), n.joints[i].name.size ≤ maxLen ∧ n.joints[i].ends.length ≤ maxLen) (hnm : ∀ i (h : i < n.pieces.length), n.pieces[i].name.size ≤ maxLen) (htv : TrAt L1 w tv t) (hbt : t.back.length ≤ maxLen) :
    Calls Tryz.prog 5 #[v, tv] w fun e w' => e = .returned (.bool true) ∧ Below w.heap.size w w' := by
  have hvv := hv
  obtain ⟨a, c, ca, cc, rfl, hp, hj⟩ := hv
  have htt := htv
  obtain ⟨tq, tk, rfl, hts⟩ := htv
  go_enter Tryz.func5, Tryz.ntmps5
  go_wp2_with fail
  refine (szNet_any a c n.pieces n.joints ca cc 1048576 _ (by omega) (by omega) hl (L := L) ?hA hnm hl' ?hB hle).mono ?_
  case hA => exact hp.below (by repeat (first | with_reducible exact Below.refl _ _ | refine Below.setCell ?_ (by first | omega | (simp <;> omega) | (simp [World.setCell] <;> omega)) _ | refine Below.alloc ?_ (by first | omega | (simp <;> omega) | (simp [World.setCell] <;> omega)) _ | refine Below.drew ?_ | refine below_draws ?_ _ | exact Below.refl _ _))
  case hB => exact hj.below (by repeat (first | with_reducible exact Below.refl _ _ | refine Below.setCell ?_ (by first | omega | (simp <;> omega) | (simp [World.setCell] <;> omega)) _ | refine Below.alloc ?_ (by first | omega | (simp <;> omega) | (simp [World.setCell] <;> omega)) _ | refine Below.drew ?_ | refine below_draws ?_ _ | exact Below.refl _ _))
  rintro e w1 ⟨r1, rfl, hr1, hbd1, hb1⟩
  have hbw1 : Below w.heap.size w w1 := below_then (by repeat (first | with_reducible exact Below.refl _ _ | refine Below.setCell ?_ (by first | omega | (simp <;> omega) | (simp [World.setCell] <;> omega)) _ | refine Below.alloc ?_ (by first | omega | (simp <;> omega) | (simp [World.setCell] <;> omega)) _ | refine Below.drew ?_ | refine below_draws ?_ _ | exact Below.refl _ _)) hb1
  have X0_1 : Boxed w1 (w.heap.size) [.slice a n.pieces.length ca, .slice c n.joints.length cc] := ((boxedN _ _ _ (by simp)).alloc _).below hb1
  have X1_1 : Boxed w1 (w.heap.size + 1) [.int .i64 t.front.piece, .int .i64 t.front.at_, .int .i64 t.front.way, .int .i64 t.long, .slice tq t.back.length tk] := (boxedN _ _ _ (by simp)).below hb1
  by_cases hneg1 : r1 < 0
  · go_wp2
    go_ret
    exact ⟨rfl, hbw1⟩
  obtain ⟨k1, k2, k3⟩ := hbd1 (by omega)
  have k1' : n.pieces.length ≤ 1048576 := by omega
  have k2' : n.joints.length ≤ 1048576 := by omega
  have k3' : ∀ i (h : i < n.joints.length), n.joints[i].ends.length ≤ 1048576 := fun i h => by have := k3 i h; omega
  clear k1 k2 k3 hbd1
  have p0 := X1_1.2.1 0 _ rfl
  have p1 := X1_1.2.1 1 _ rfl
  have p2 := X1_1.2.1 2 _ rfl
  have p3 := X1_1.2.1 3 _ rfl
  have p4 := X1_1.2.1 4 _ rfl
  go_wp2_with fail
  refine (szTrain_any _ t r1 _ (by omega) (by omega) (htt.below hbw1) hbt).mono ?_
  rintro e w2 ⟨r2, rfl, hr2, hbd2, hb2⟩
  have hbw2 := below_then hbw1 hb2
  have X0_2 := X0_1.below hb2
  have X1_2 := X1_1.below hb2
  clear p0 p1 p2 p3 p4
  by_cases hneg2 : r2 < 0
  · go_wp2
    go_ret
    exact ⟨rfl, hbw2⟩
  have hbl : t.back.length ≤ 1048576 := by have := hbd2 (by omega); omega
  clear hbd2
  have HK := hide k3'
  have HLE := hide hle
  have HNM := hide hnm
  clear k3' hle hnm
  have p0_0 := X0_2.2.1 0 _ rfl
  have p0_1 := X0_2.2.1 1 _ rfl
  have pn0 := X0_2.1
  have p1_0 := X1_2.2.1 0 _ rfl
  have p1_1 := X1_2.2.1 1 _ rfl
  have p1_2 := X1_2.2.1 2 _ rfl
  have p1_3 := X1_2.2.1 3 _ rfl
  have p1_4 := X1_2.2.1 4 _ rfl
  have pn1 := X1_2.1
  go_wp2_with fail
  go_region_held3 (fun w' => w'.cell? ⟨w.heap.size, 0, none⟩ = some (.slice a n.pieces.length ca) ∧ w'.cell? ⟨w.heap.size, 1, none⟩ = some (.slice c n.joints.length cc) ∧ w'.cell? ⟨w.heap.size + 1, 0, none⟩ = some (.int .i64 t.front.piece) ∧ w'.cell? ⟨w.heap.size + 1, 1, none⟩ = some (.int .i64 t.front.at_) ∧ w'.cell? ⟨w.heap.size + 1, 2, none⟩ = some (.int .i64 t.front.way) ∧ w'.cell? ⟨w.heap.size + 1, 3, none⟩ = some (.int .i64 t.long) ∧ w'.cell? ⟨w.heap.size + 1, 4, none⟩ = some (.slice tq t.back.length tk)) (((try dsimp only); (repeat' apply And.intro)) <;> (go_keep; done))
    (first
      | (go_at_call 26; refine (toNet_any _ n _ (hvv.below (below_then hbw2 (by repeat (first | with_reducible exact Below.refl _ _ | refine Below.setCell ?_ (by first | omega | (simp <;> omega) | (simp [World.setCell] <;> omega)) _ | refine Below.alloc ?_ (by first | omega | (simp <;> omega) | (simp [World.setCell] <;> omega)) _ | refine Below.drew ?_ | refine below_draws ?_ _ | exact Below.refl _ _)))) k1' k2' (unhide HK)).mono ?_; rintro e w_g0 ⟨g0v, rfl, hg0v, hbg0⟩; obtain ⟨hcg0, hfg0⟩ := bcell hbg0; have szg0 := hbg0.size; (try simp at szg0); have qg0_0 := hcg0 (w.heap.size) (0) (by first | (simp; done) | (simp; omega) | omega); have qg0_1 := hcg0 (w.heap.size) (1) (by first | (simp; done) | (simp; omega) | omega); have qg0_2 := hcg0 (w.heap.size+1) (0) (by first | (simp; done) | (simp; omega) | omega); have qg0_3 := hcg0 (w.heap.size+1) (1) (by first | (simp; done) | (simp; omega) | omega); have qg0_4 := hcg0 (w.heap.size+1) (2) (by first | (simp; done) | (simp; omega) | omega); have qg0_5 := hcg0 (w.heap.size+1) (3) (by first | (simp; done) | (simp; omega) | omega); have qg0_6 := hcg0 (w.heap.size+1) (4) (by first | (simp; done) | (simp; omega) | omega))
      | (go_at_call_of 27 (t.long); refine (toTrain_own _ t _ (htt.below (below_then (below_then hbw2 (by repeat (first | with_reducible exact Below.refl _ _ | refine Below.setCell ?_ (by first | omega | (simp <;> omega) | (simp [World.setCell] <;> omega)) _ | refine Below.alloc ?_ (by first | omega | (simp <;> omega) | (simp [World.setCell] <;> omega)) _ | refine Below.drew ?_ | refine below_draws ?_ _ | exact Below.refl _ _))) hbg0)) hbl).mono ?_; rintro e w_g1 ⟨g1v, rfl, hg1v, hbg1⟩; obtain ⟨hcg1, hfg1⟩ := bcell hbg1; have szg1 := hbg1.size; (try simp at szg1); have qg1_0 := hcg1 (w.heap.size) (0) (by first | (have := hbg0.size; omega) | (have := hbg0.size; simp at this ⊢; omega) | (simp; omega)); have qg1_1 := hcg1 (w.heap.size) (1) (by first | (have := hbg0.size; omega) | (have := hbg0.size; simp at this ⊢; omega) | (simp; omega)); have qg1_2 := hcg1 (w.heap.size+1) (0) (by first | (have := hbg0.size; omega) | (have := hbg0.size; simp at this ⊢; omega) | (simp; omega)); have qg1_3 := hcg1 (w.heap.size+1) (1) (by first | (have := hbg0.size; omega) | (have := hbg0.size; simp at this ⊢; omega) | (simp; omega)); have qg1_4 := hcg1 (w.heap.size+1) (2) (by first | (have := hbg0.size; omega) | (have := hbg0.size; simp at this ⊢; omega) | (simp; omega)); have qg1_5 := hcg1 (w.heap.size+1) (3) (by first | (have := hbg0.size; omega) | (have := hbg0.size; simp at this ⊢; omega) | (simp; omega)); have qg1_6 := hcg1 (w.heap.size+1) (4) (by first | (have := hbg0.size; omega) | (have := hbg0.size; simp at this ⊢; omega) | (simp; omega)))
      | (go_at_call 12; refine (specBody_any _ _ n t _ (hg0v.below hbg1) hg1v.at k1' k2' (fun i h => ⟨unhide HK i h, (unhide HLE i h).1⟩) (unhide HNM) hbl).mono ?_; rintro e w_gs ⟨⟨pa, pcap, ps, hps, rfl, hrowS⟩, hbgs⟩; have HPS := hide hps; have HRS := hide hrowS; clear hps hrowS; obtain ⟨hcgs, hfgs⟩ := bcell hbgs; have qgs_0 := hcgs (w.heap.size) (0) (by first | (have := hbg0.size; have := hbg1.size; omega) | (have := hbg0.size; have := hbg1.size; simp at this ⊢; omega) | (simp; omega)); have qgs_1 := hcgs (w.heap.size) (1) (by first | (have := hbg0.size; have := hbg1.size; omega) | (have := hbg0.size; have := hbg1.size; simp at this ⊢; omega) | (simp; omega)); have qgs_2 := hcgs (w.heap.size+1) (0) (by first | (have := hbg0.size; have := hbg1.size; omega) | (have := hbg0.size; have := hbg1.size; simp at this ⊢; omega) | (simp; omega)); have qgs_3 := hcgs (w.heap.size+1) (1) (by first | (have := hbg0.size; have := hbg1.size; omega) | (have := hbg0.size; have := hbg1.size; simp at this ⊢; omega) | (simp; omega)); have qgs_4 := hcgs (w.heap.size+1) (2) (by first | (have := hbg0.size; have := hbg1.size; omega) | (have := hbg0.size; have := hbg1.size; simp at this ⊢; omega) | (simp; omega)); have qgs_5 := hcgs (w.heap.size+1) (3) (by first | (have := hbg0.size; have := hbg1.size; omega) | (have := hbg0.size; have := hbg1.size; simp at this ⊢; omega) | (simp; omega)); have qgs_6 := hcgs (w.heap.size+1) (4) (by first | (have := hbg0.size; have := hbg1.size; omega) | (have := hbg0.size; have := hbg1.size; simp at this ⊢; omega) | (simp; omega))))
  have hbS : Below w2.heap.size w2 w_gs := below_then (below_then (below_then (by repeat (first | with_reducible exact Below.refl _ _ | refine Below.setCell ?_ (by first | omega | (simp <;> omega) | (simp [World.setCell] <;> omega)) _ | refine Below.alloc ?_ (by first | omega | (simp <;> omega) | (simp [World.setCell] <;> omega)) _ | refine Below.drew ?_ | refine below_draws ?_ _ | exact Below.refl _ _)) hbg0) hbg1) hbgs
  have hbwS := below_then hbw2 hbS
  clear qg0_0 qg0_1 qg0_2 qg0_3 qg0_4 qg0_5 qg0_6 hcg0 hfg0 qg1_0 qg1_1 qg1_2 qg1_3 qg1_4 qg1_5 qg1_6 hcg1 hfg1 qgs_0 qgs_1 qgs_2 qgs_3 qgs_4 qgs_5 qgs_6 hcgs hfgs p0_0 p0_1 p1_0 p1_1 p1_2 p1_3 p1_4 pn0 pn1
  have X0_S := X0_2.below hbS
  have X1_S := X1_2.below hbS
  have p0 := X0_S.2.1 0 _ rfl
  have p1 := X0_S.2.1 1 _ rfl
  have pn := X0_S.1
  go_wp2_with fail
  refine (toNet_own _ n _ (hvv.below hbwS) k1' k2' (unhide HK)).mono ?_
  rintro e w_x0 ⟨v_x0, rfl, hv_x0, hb_x0⟩
  clear p0 p1 pn
  have hbw_x0 := below_then hbwS hb_x0
  have X0_x0 := X0_S.below hb_x0
  have X1_x0 := X1_S.below hb_x0
  have fN0 := hv_x0.at
  have fO0 := hv_x0
  have sN0 : Below w_x0.heap.size w_x0 w_x0 := Below.refl _ _
  obtain ⟨xa0, xc0, rfl, hxo0, hxj0⟩ := hv_x0
  have hA_x0 : Below w_x0.heap.size w_x0 (w_x0.alloc (.cells #[.slice xa0 n.pieces.length n.pieces.length, .slice xc0 n.joints.length n.joints.length] 26)) := (by repeat (first | with_reducible exact Below.refl _ _ | refine Below.setCell ?_ (by first | omega | (simp <;> omega) | (simp [World.setCell] <;> omega)) _ | refine Below.alloc ?_ (by first | omega | (simp <;> omega) | (simp [World.setCell] <;> omega)) _ | refine Below.drew ?_ | refine below_draws ?_ _ | exact Below.refl _ _))
  have p0 := X1_x0.2.1 0 _ rfl
  have p1 := X1_x0.2.1 1 _ rfl
  have p2 := X1_x0.2.1 2 _ rfl
  have p3 := X1_x0.2.1 3 _ rfl
  have p4 := X1_x0.2.1 4 _ rfl
  have pn := X1_x0.1
  go_wp2_with fail
  refine (toTrain_own _ t _ (htt.below (below_then hbw_x0 hA_x0)) hbl).mono ?_
  rintro e w_x1 ⟨v_x1, rfl, hv_x1, hb_x1⟩
  clear p0 p1 p2 p3 p4 pn
  have hb'_x1 := below_then hA_x0 hb_x1
  have hbw_x1 := below_then hbw_x0 hb'_x1
  have X0_x1 := X0_x0.below hb'_x1
  have X1_x1 := X1_x0.below hb'_x1
  have fN0_x1 := fN0.below hb'_x1
  have sN0_x1 := below_then sN0 hb'_x1
  have Y0_x1 : Boxed w_x1 (w_x0.heap.size) [.slice xa0 n.pieces.length n.pieces.length, .slice xc0 n.joints.length n.joints.length] := (boxed_alloc _ _ _).below hb_x1
  have fT1 := hv_x1.at
  obtain ⟨ya1, rfl, hys1⟩ := hv_x1
  have sT1 : Below w_x1.heap.size w_x1 w_x1 := Below.refl _ _
  have fS1 := hys1.at.mono (Nat.zero_le _)
  have hA_x1 : Below w_x1.heap.size w_x1 (w_x1.alloc (.cells #[.int .i64 t.front.piece, .int .i64 t.front.at_, .int .i64 t.front.way, .int .i64 t.long, .slice ya1 t.back.length t.back.length] 32)) := (by repeat (first | with_reducible exact Below.refl _ _ | refine Below.setCell ?_ (by first | omega | (simp <;> omega) | (simp [World.setCell] <;> omega)) _ | refine Below.alloc ?_ (by first | omega | (simp <;> omega) | (simp [World.setCell] <;> omega)) _ | refine Below.drew ?_ | refine below_draws ?_ _ | exact Below.refl _ _))
  have y0_0 := Y0_x1.2.1 0 _ rfl
  have y0_1 := Y0_x1.2.1 1 _ rfl
  have yn0 := Y0_x1.1
  go_wp2_with fail
  refine (implBody_any _ n t ya1 t.back.length _ (L := w_gs.heap.size) (fN0_x1.below hA_x1) (fS1.below hA_x1) (Nat.le_refl _) hbl k1' k2' (fun i h => (unhide HLE i h).1) (unhide HNM)).mono ?_
  rintro e w_i ⟨himpl, hb_i⟩
  have hb'_i := below_then hA_x1 hb_i
  have hbw_i := below_then hbw_x1 hb'_i
  have X0_i := X0_x1.below hb'_i
  have X1_i := X1_x1.below hb'_i
  have Y0_i := Y0_x1.below hb'_i
  have fN0_i := fN0_x1.below hb'_i
  have sN0_i := below_then sN0_x1 hb'_i
  have fT1_i := fT1.below hb'_i
  have sT1_i := below_then sT1 hb'_i
  have fS1_i := fS1.below hb'_i
  have Y1_i : Boxed w_i (w_x1.heap.size) [.int .i64 t.front.piece, .int .i64 t.front.at_, .int .i64 t.front.way, .int .i64 t.long, .slice ya1 t.back.length t.back.length] := (boxed_alloc _ _ _).below hb_i
  clear y0_0 y0_1 yn0
  obtain ⟨qa, qcap, ps1, hps1, rfl, hrowG⟩ := himpl
  have hq1 : ps = ps1 := (unhide HPS).unique hps1
  subst hq1
  have hpl := (unhide HPS).len
  have HPL := hide hpl
  have HRG := hide hrowG
  clear hps1 hpl hrowG
  have rU0 := (unhide HRS).below (below_then (below_then hb_x0 hb'_x1) hb'_i)
  go_wp2_with fail
  refine (eqPartS_any _ _ ps _ _ _ (by have := unhide HPL; omega) (ptRow_pts (unhide HRG)) (ptRow_pts rU0)).mono ?_
  rintro e w_q ⟨rfl, hb_q⟩
  have rU := rU0
  have rG := unhide HRG
  clear rU0
  have X0_q := X0_i.below hb_q
  have X1_q := X1_i.below hb_q
  have Y0_q := Y0_i.below hb_q
  have Y1_q := Y1_i.below hb_q
  have fN0_q := fN0_i.below hb_q
  have sN0_q := below_then sN0_i hb_q
  have fT1_q := fT1_i.below hb_q
  have sT1_q := below_then sT1_i hb_q
  have fS1_q := fS1_i.below hb_q
  have rU_q := rU.below hb_q
  have rG_q := rG.below hb_q
  have hbw_q := below_then hbw_i hb_q
  have p0 := X0_q.2.1 0 _ rfl
  have y0 := Y0_q.2.1 0 _ rfl
  have p1 := X0_q.2.1 1 _ rfl
  have y1 := Y0_q.2.1 1 _ rfl
  have pn := X0_q.1
  have yn := Y0_q.1
  go_upto_region 14 with fail
  go_cut [44] (fun b wx => b = .bool false ∧ Below w_q.heap.size w_q wx)
  case first =>
    go_region_held3 (fun w' => w'.cell? ⟨w.heap.size, 0, none⟩ = some (.slice a n.pieces.length ca) ∧ w'.cell? ⟨w.heap.size, 1, none⟩ = some (.slice c n.joints.length cc) ∧ w'.cell? ⟨w_x0.heap.size, 0, none⟩ = some (.slice xa0 n.pieces.length n.pieces.length) ∧ w'.cell? ⟨w_x0.heap.size, 1, none⟩ = some (.slice xc0 n.joints.length n.joints.length)) (((try dsimp only); (repeat' apply And.intro)) <;> (go_keep; done))
      (first
        | (go_at_call 26; refine (toNet_any _ n _ (hvv.below (below_then hbw_q (by repeat (first | with_reducible exact Below.refl _ _ | refine Below.setCell ?_ (by first | omega | (simp <;> omega) | (simp [World.setCell] <;> omega)) _ | refine Below.alloc ?_ (by first | omega | (simp <;> omega) | (simp [World.setCell] <;> omega)) _ | refine Below.drew ?_ | refine below_draws ?_ _ | exact Below.refl _ _)))) k1' k2' (unhide HK)).mono ?_; rintro e w_e0a ⟨v_e0a, rfl, hv_e0a, hb_e0a⟩; obtain ⟨hc_e0a, hf_e0a⟩ := bcell hb_e0a; have sz_e0a := hb_e0a.size; (try simp at sz_e0a); have qq0 := hc_e0a (w.heap.size) (0) (by first | (simp; done) | (simp; omega) | omega); have qq1 := hc_e0a (w.heap.size) (1) (by first | (simp; done) | (simp; omega) | omega); have qq2 := hc_e0a (w_x0.heap.size) (0) (by first | (simp; done) | (simp; omega) | omega); have qq3 := hc_e0a (w_x0.heap.size) (1) (by first | (simp; done) | (simp; omega) | omega))
        | (go_at_call 29; refine (eqNet_any _ _ n _ k1' k2' (unhide HK) (fN0_q.below (below_then (by repeat (first | with_reducible exact Below.refl _ _ | refine Below.setCell ?_ (by first | omega | (simp <;> omega) | (simp [World.setCell] <;> omega)) _ | refine Below.alloc ?_ (by first | omega | (simp <;> omega) | (simp [World.setCell] <;> omega)) _ | refine Below.drew ?_ | refine below_draws ?_ _ | exact Below.refl _ _)) hb_e0a)) hv_e0a).mono ?_; rintro e w_e0b ⟨rfl, hb_e0b⟩; obtain ⟨hc_e0b, hf_e0b⟩ := bcell hb_e0b; have rr0 := hc_e0b (w.heap.size) (0) (by first | (have := hb_e0a.size; omega) | (have := hb_e0a.size; simp at this ⊢; omega) | (simp; omega)); have rr1 := hc_e0b (w.heap.size) (1) (by first | (have := hb_e0a.size; omega) | (have := hb_e0a.size; simp at this ⊢; omega) | (simp; omega)); have rr2 := hc_e0b (w_x0.heap.size) (0) (by first | (have := hb_e0a.size; omega) | (have := hb_e0a.size; simp at this ⊢; omega) | (simp; omega)); have rr3 := hc_e0b (w_x0.heap.size) (1) (by first | (have := hb_e0a.size; omega) | (have := hb_e0a.size; simp at this ⊢; omega) | (simp; omega))))
    all_goals go_wp2_with fail
    all_goals go_meet
    all_goals exact ⟨rfl, below_then (below_then (by repeat (first | with_reducible exact Below.refl _ _ | refine Below.setCell ?_ (by first | omega | (simp <;> omega) | (simp [World.setCell] <;> omega)) _ | refine Below.alloc ?_ (by first | omega | (simp <;> omega) | (simp [World.setCell] <;> omega)) _ | refine Below.drew ?_ | refine below_draws ?_ _ | exact Below.refl _ _)) hb_e0a) hb_e0b⟩
  case rest =>
    obtain ⟨rfl, hb_e0⟩ := hcut
    clear p0 p1 y0 y1 pn yn
    have hbw_e0 := below_then hbw_q hb_e0
    have X0_e0 := X0_q.below hb_e0
    have X1_e0 := X1_q.below hb_e0
    have Y0_e0 := Y0_q.below hb_e0
    have Y1_e0 := Y1_q.below hb_e0
    have fN0_e0 := fN0_q.below hb_e0
    have sN0_e0 := below_then sN0_q hb_e0
    have fT1_e0 := fT1_q.below hb_e0
    have sT1_e0 := below_then sT1_q hb_e0
    have fS1_e0 := fS1_q.below hb_e0
    have rU_e0 := rU_q.below hb_e0
    have rG_e0 := rG_q.below hb_e0
    have p0 := X1_e0.2.1 0 _ rfl
    have y0 := Y1_e0.2.1 0 _ rfl
    have p1 := X1_e0.2.1 1 _ rfl
    have y1 := Y1_e0.2.1 1 _ rfl
    have p2 := X1_e0.2.1 2 _ rfl
    have y2 := Y1_e0.2.1 2 _ rfl
    have p3 := X1_e0.2.1 3 _ rfl
    have y3 := Y1_e0.2.1 3 _ rfl
    have p4 := X1_e0.2.1 4 _ rfl
    have y4 := Y1_e0.2.1 4 _ rfl
    have pn := X1_e0.1
    have yn := Y1_e0.1
    go_upto_region 16 with fail
    go_cut [49] (fun b wx => b = .bool false ∧ Below wc.heap.size wc wx)
    case first =>
      go_region_held3 (fun w' => w'.cell? ⟨w.heap.size + 1, 0, none⟩ = some (.int .i64 t.front.piece) ∧ w'.cell? ⟨w.heap.size + 1, 1, none⟩ = some (.int .i64 t.front.at_) ∧ w'.cell? ⟨w.heap.size + 1, 2, none⟩ = some (.int .i64 t.front.way) ∧ w'.cell? ⟨w.heap.size + 1, 3, none⟩ = some (.int .i64 t.long) ∧ w'.cell? ⟨w.heap.size + 1, 4, none⟩ = some (.slice tq t.back.length tk) ∧ w'.cell? ⟨w_x1.heap.size, 0, none⟩ = some (.int .i64 t.front.piece) ∧ w'.cell? ⟨w_x1.heap.size, 1, none⟩ = some (.int .i64 t.front.at_) ∧ w'.cell? ⟨w_x1.heap.size, 2, none⟩ = some (.int .i64 t.front.way) ∧ w'.cell? ⟨w_x1.heap.size, 3, none⟩ = some (.int .i64 t.long) ∧ w'.cell? ⟨w_x1.heap.size, 4, none⟩ = some (.slice ya1 t.back.length t.back.length)) (((try dsimp only); (repeat' apply And.intro)) <;> (go_keep; done))
        (first
          | (go_at_call 27; refine (toTrain_own _ t _ (htt.below (below_then hbw_e0 (by repeat (first | with_reducible exact Below.refl _ _ | refine Below.setCell ?_ (by first | omega | (simp <;> omega) | (simp [World.setCell] <;> omega)) _ | refine Below.alloc ?_ (by first | omega | (simp <;> omega) | (simp [World.setCell] <;> omega)) _ | refine Below.drew ?_ | refine below_draws ?_ _ | exact Below.refl _ _)))) hbl).mono ?_; rintro e w_e1a ⟨v_e1a, rfl, hv_e1a, hb_e1a⟩; obtain ⟨hc_e1a, hf_e1a⟩ := bcell hb_e1a; have sz_e1a := hb_e1a.size; (try simp at sz_e1a); have qq0 := hc_e1a (w.heap.size+1) (0) (by first | (simp; done) | (simp; omega) | omega); have qq1 := hc_e1a (w.heap.size+1) (1) (by first | (simp; done) | (simp; omega) | omega); have qq2 := hc_e1a (w.heap.size+1) (2) (by first | (simp; done) | (simp; omega) | omega); have qq3 := hc_e1a (w.heap.size+1) (3) (by first | (simp; done) | (simp; omega) | omega); have qq4 := hc_e1a (w.heap.size+1) (4) (by first | (simp; done) | (simp; omega) | omega); have qq5 := hc_e1a (w_x1.heap.size) (0) (by first | (simp; done) | (simp; omega) | omega); have qq6 := hc_e1a (w_x1.heap.size) (1) (by first | (simp; done) | (simp; omega) | omega); have qq7 := hc_e1a (w_x1.heap.size) (2) (by first | (simp; done) | (simp; omega) | omega); have qq8 := hc_e1a (w_x1.heap.size) (3) (by first | (simp; done) | (simp; omega) | omega); have qq9 := hc_e1a (w_x1.heap.size) (4) (by first | (simp; done) | (simp; omega) | omega))
          | (go_at_call 30; refine (eqTrain_any _ _ t _ hbl (fT1_e0.below (below_then (by repeat (first | with_reducible exact Below.refl _ _ | refine Below.setCell ?_ (by first | omega | (simp <;> omega) | (simp [World.setCell] <;> omega)) _ | refine Below.alloc ?_ (by first | omega | (simp <;> omega) | (simp [World.setCell] <;> omega)) _ | refine Below.drew ?_ | refine below_draws ?_ _ | exact Below.refl _ _)) hb_e1a)) hv_e1a.at).mono ?_; rintro e w_e1b ⟨rfl, hb_e1b⟩; obtain ⟨hc_e1b, hf_e1b⟩ := bcell hb_e1b; have rr0 := hc_e1b (w.heap.size+1) (0) (by first | (have := hb_e1a.size; omega) | (have := hb_e1a.size; simp at this ⊢; omega) | (simp; omega)); have rr1 := hc_e1b (w.heap.size+1) (1) (by first | (have := hb_e1a.size; omega) | (have := hb_e1a.size; simp at this ⊢; omega) | (simp; omega)); have rr2 := hc_e1b (w.heap.size+1) (2) (by first | (have := hb_e1a.size; omega) | (have := hb_e1a.size; simp at this ⊢; omega) | (simp; omega)); have rr3 := hc_e1b (w.heap.size+1) (3) (by first | (have := hb_e1a.size; omega) | (have := hb_e1a.size; simp at this ⊢; omega) | (simp; omega)); have rr4 := hc_e1b (w.heap.size+1) (4) (by first | (have := hb_e1a.size; omega) | (have := hb_e1a.size; simp at this ⊢; omega) | (simp; omega)); have rr5 := hc_e1b (w_x1.heap.size) (0) (by first | (have := hb_e1a.size; omega) | (have := hb_e1a.size; simp at this ⊢; omega) | (simp; omega)); have rr6 := hc_e1b (w_x1.heap.size) (1) (by first | (have := hb_e1a.size; omega) | (have := hb_e1a.size; simp at this ⊢; omega) | (simp; omega)); have rr7 := hc_e1b (w_x1.heap.size) (2) (by first | (have := hb_e1a.size; omega) | (have := hb_e1a.size; simp at this ⊢; omega) | (simp; omega)); have rr8 := hc_e1b (w_x1.heap.size) (3) (by first | (have := hb_e1a.size; omega) | (have := hb_e1a.size; simp at this ⊢; omega) | (simp; omega)); have rr9 := hc_e1b (w_x1.heap.size) (4) (by first | (have := hb_e1a.size; omega) | (have := hb_e1a.size; simp at this ⊢; omega) | (simp; omega))))
      all_goals go_wp2_with fail
      all_goals go_meet
      all_goals exact ⟨rfl, below_then (below_then (by repeat (first | with_reducible exact Below.refl _ _ | refine Below.setCell ?_ (by first | omega | (simp <;> omega) | (simp [World.setCell] <;> omega)) _ | refine Below.alloc ?_ (by first | omega | (simp <;> omega) | (simp [World.setCell] <;> omega)) _ | refine Below.drew ?_ | refine below_draws ?_ _ | exact Below.refl _ _)) hb_e1a) hb_e1b⟩
    case rest =>
      obtain ⟨rfl, hb_e1⟩ := hcut
      clear p0 p1 p2 p3 p4 y0 y1 y2 y3 y4 pn yn
      have hbw_e1 := below_then hbw_e0 hb_e1
      have X0_e1 := X0_e0.below hb_e1
      have X1_e1 := X1_e0.below hb_e1
      have Y0_e1 := Y0_e0.below hb_e1
      have Y1_e1 := Y1_e0.below hb_e1
      have fN0_e1 := fN0_e0.below hb_e1
      have sN0_e1 := below_then sN0_e0 hb_e1
      have fT1_e1 := fT1_e0.below hb_e1
      have sT1_e1 := below_then sT1_e0 hb_e1
      have fS1_e1 := fS1_e0.below hb_e1
      have rU_e1 := rU_e0.below hb_e1
      have rG_e1 := rG_e0.below hb_e1
      have gS : Hid (∀ k, (Value.slice pa ps.length pcap).ownBlock = some k → k < w_gs.heap.size) := hide fun k hk => ((unhide HRS).lt k hk).2
      have gG : Hid (∀ k, (Value.slice qa ps.length qcap).ownBlock = some k → w_x1.heap.size ≤ k) := hide fun k hk => by have := ((unhide HRG).lt k hk).1; simpa using (Nat.le_trans (by simp) this)
      have le_x0 : w_gs.heap.size ≤ w_x0.heap.size := hb_x0.size
      have le_x1 : w_x0.heap.size ≤ w_x1.heap.size := hb'_x1.size
      have lb0 : w.heap.size < w_gs.heap.size := X0_S.1
      have lb1 : w.heap.size + 1 < w_gs.heap.size := X1_S.1
      have lw : w.heap.size ≤ w_gs.heap.size := hbwS.size
      have mo0 := fO0.below sN0_e1 (Nat.le_refl _)
      obtain ⟨mf1, mo1, mb1⟩ := (hys1.below sT1_e1 (Nat.le_refl _)).own
      have mb1' : Hid (∀ k, blk ya1 k → w_x0.heap.size ≤ k ∧ k < w_x1.heap.size) := hide fun k hk => by have := mb1 k hk; simpa using (⟨Nat.le_trans (by simp) this.1, this.2⟩ : _ ∧ _)
      clear mb1
      have lc := hbw_e1.size
      have y0 := Y0_e1.2.1 0 _ rfl
      have y1 := Y0_e1.2.1 1 _ rfl
      go_wp2_with fail
      refine (markNet_any _ n _ _ 1 _ mo0 k1' k2' (unhide HK) (by omega) (by omega)).mono ?_
      rintro e w_m0 ⟨rr0, rfl, hra0, hrb0, on0⟩
      clear y0 y1
      have hbw_m0 := hbw_e1.trans (on0.below hbw_e1.size (fun k hk => (fun h => by have := h; omega)))
      have X0_m0 := X0_e1.onlyS on0 (fun h => by have := h; omega)
      have X1_m0 := X1_e1.onlyS on0 (fun h => by have := h; omega)
      have Y1_m0 := Y1_e1.onlyS on0 (fun h => by have := h; omega)
      have mo1_m0 := mo1.only on0 (fun k hk => by have := unhide mb1' k hk; exact (fun h => by have := h; omega))
      have rU_m0 := rU_e1.only on0 (fun k hk => by have := unhide gS k hk; exact (fun h => by have := h; omega))
      have rG_m0 := rG_e1.only on0 (fun k hk => by have := unhide gG k hk; exact (fun h => by have := h; omega))
      have y0 := Y1_m0.2.1 0 _ rfl
      have y1 := Y1_m0.2.1 1 _ rfl
      have y2 := Y1_m0.2.1 2 _ rfl
      have y3 := Y1_m0.2.1 3 _ rfl
      have y4 := Y1_m0.2.1 4 _ rfl
      go_wp2_with fail
      refine (markTrain_any _ _ _ _ _ _ _ rr0 mf1 _ hbl (by omega) (by omega) mo1_m0).mono ?_
      rintro e w_m1 ⟨rfl, hom1, on1⟩
      clear y0 y1 y2 y3 y4
      have hbw_m1 := hbw_m0.trans (on1.below hbw_m0.size (fun k hk => (fun h => by have := unhide mb1' _ h; omega)))
      have X0_m1 := X0_m0.onlyS on1 (fun h => by have := unhide mb1' _ h; omega)
      have X1_m1 := X1_m0.onlyS on1 (fun h => by have := unhide mb1' _ h; omega)
      have rU_m1 := rU_m0.only on1 (fun k hk => by have := unhide gS k hk; exact (fun h => by have := unhide mb1' _ h; omega))
      have rG_m1 := rG_m0.only on1 (fun k hk => by have := unhide gG k hk; exact (fun h => by have := unhide mb1' _ h; omega))
      have hk0 : ¬ ((rr0 + ((t.back.length * 2 : Nat) : Int)) < 0) := by omega
      go_wp2_with fail
      refine (eqPartS_any _ _ ps _ _ _ (by have := unhide HPL; omega) (ptRow_pts rG_m1) (ptRow_pts rU_m1)).mono ?_
      rintro e w_r ⟨rfl, hb_r⟩
      clear hk0
      have hbw_r := below_then hbw_m1 hb_r
      have X0_r := X0_m1.below hb_r
      have X1_r := X1_m1.below hb_r
      have rU_r := rU_m1.below hb_r
      have rG_r := rG_m1.below hb_r
      go_wp2_with fail
      refine (markPartS_any _ _ _ 1 _ _ (by have := unhide HPL; omega) (by omega) (by omega) rG_r.own).mono ?_
      rintro e w_mg ⟨rfl, hoG, onG⟩
      have hbw_mg := hbw_r.trans (onG.below hbw_r.size (fun k hk => (fun h => by have := unhide gG _ (ownBlock_slice h); omega)))
      have X0_mg := X0_r.onlyS onG (fun h => by have := unhide gG _ (ownBlock_slice h); omega)
      have X1_mg := X1_r.onlyS onG (fun h => by have := unhide gG _ (ownBlock_slice h); omega)
      have rU_mg := rU_r.only onG (fun k hk => by have := unhide gS k hk; exact (fun h => by have := unhide gG _ (ownBlock_slice h); omega))
      go_wp2_with fail
      refine (heldPartS_any _ _ _ 1 _ (by have := unhide HPL; omega) (by omega) (by omega) hoG).mono ?_
      rintro e w_hd ⟨rfl, hw_hd⟩
      have hw_hd2 := hw_hd.symm
      clear hw_hd
      subst hw_hd2
      have p0_0 := X0_mg.2.1 0 _ rfl
      have p0_1 := X0_mg.2.1 1 _ rfl
      have pn0 := X0_mg.1
      have p1_0 := X1_mg.2.1 0 _ rfl
      have p1_1 := X1_mg.2.1 1 _ rfl
      have p1_2 := X1_mg.2.1 2 _ rfl
      have p1_3 := X1_mg.2.1 3 _ rfl
      have p1_4 := X1_mg.2.1 4 _ rfl
      have pn1 := X1_mg.1
      have hm0 : ¬ ((1 : Int) + ((ps.length * 3 : Nat) : Int) < 0) := by omega
      go_wp2_with fail
      go_region_held3 (fun w' => w'.cell? ⟨w.heap.size, 0, none⟩ = some (.slice a n.pieces.length ca) ∧ w'.cell? ⟨w.heap.size, 1, none⟩ = some (.slice c n.joints.length cc) ∧ w'.cell? ⟨w.heap.size + 1, 0, none⟩ = some (.int .i64 t.front.piece) ∧ w'.cell? ⟨w.heap.size + 1, 1, none⟩ = some (.int .i64 t.front.at_) ∧ w'.cell? ⟨w.heap.size + 1, 2, none⟩ = some (.int .i64 t.front.way) ∧ w'.cell? ⟨w.heap.size + 1, 3, none⟩ = some (.int .i64 t.long) ∧ w'.cell? ⟨w.heap.size + 1, 4, none⟩ = some (.slice tq t.back.length tk)) (((try dsimp only); (repeat' apply And.intro)) <;> (go_keep; done))
        (first
          | (go_at_call 26; refine (toNet_any _ n _ (hvv.below (below_then hbw_mg (by repeat (first | with_reducible exact Below.refl _ _ | refine Below.setCell ?_ (by first | omega | (simp <;> omega) | (simp [World.setCell] <;> omega)) _ | refine Below.alloc ?_ (by first | omega | (simp <;> omega) | (simp [World.setCell] <;> omega)) _ | refine Below.drew ?_ | refine below_draws ?_ _ | exact Below.refl _ _)))) k1' k2' (unhide HK)).mono ?_; rintro e w_h0 ⟨h0v, rfl, hh0v, hbh0⟩; obtain ⟨hch0, hfh0⟩ := bcell hbh0; have szh0 := hbh0.size; (try simp at szh0); have qh0_0 := hch0 (w.heap.size) (0) (by first | (simp; done) | (simp; omega) | omega); have qh0_1 := hch0 (w.heap.size) (1) (by first | (simp; done) | (simp; omega) | omega); have qh0_2 := hch0 (w.heap.size+1) (0) (by first | (simp; done) | (simp; omega) | omega); have qh0_3 := hch0 (w.heap.size+1) (1) (by first | (simp; done) | (simp; omega) | omega); have qh0_4 := hch0 (w.heap.size+1) (2) (by first | (simp; done) | (simp; omega) | omega); have qh0_5 := hch0 (w.heap.size+1) (3) (by first | (simp; done) | (simp; omega) | omega); have qh0_6 := hch0 (w.heap.size+1) (4) (by first | (simp; done) | (simp; omega) | omega))
          | (go_at_call_of 27 (t.long); refine (toTrain_own _ t _ (htt.below (below_then (below_then hbw_mg (by repeat (first | with_reducible exact Below.refl _ _ | refine Below.setCell ?_ (by first | omega | (simp <;> omega) | (simp [World.setCell] <;> omega)) _ | refine Below.alloc ?_ (by first | omega | (simp <;> omega) | (simp [World.setCell] <;> omega)) _ | refine Below.drew ?_ | refine below_draws ?_ _ | exact Below.refl _ _))) hbh0)) hbl).mono ?_; rintro e w_h1 ⟨_, rfl, ⟨h1b, rfl, hh1v⟩, hbh1⟩; obtain ⟨hch1, hfh1⟩ := bcell hbh1; have szh1 := hbh1.size; (try simp at szh1); have qh1_0 := hch1 (w.heap.size) (0) (by first | (have := hbh0.size; omega) | (have := hbh0.size; simp at this ⊢; omega) | (simp; omega)); have qh1_1 := hch1 (w.heap.size) (1) (by first | (have := hbh0.size; omega) | (have := hbh0.size; simp at this ⊢; omega) | (simp; omega)); have qh1_2 := hch1 (w.heap.size+1) (0) (by first | (have := hbh0.size; omega) | (have := hbh0.size; simp at this ⊢; omega) | (simp; omega)); have qh1_3 := hch1 (w.heap.size+1) (1) (by first | (have := hbh0.size; omega) | (have := hbh0.size; simp at this ⊢; omega) | (simp; omega)); have qh1_4 := hch1 (w.heap.size+1) (2) (by first | (have := hbh0.size; omega) | (have := hbh0.size; simp at this ⊢; omega) | (simp; omega)); have qh1_5 := hch1 (w.heap.size+1) (3) (by first | (have := hbh0.size; omega) | (have := hbh0.size; simp at this ⊢; omega) | (simp; omega)); have qh1_6 := hch1 (w.heap.size+1) (4) (by first | (have := hbh0.size; omega) | (have := hbh0.size; simp at this ⊢; omega) | (simp; omega)))
          | (go_at_call 9; refine (implBody_any _ n t h1b t.back.length _ (hh0v.below hbh1) (hh1v.at.mono (Nat.zero_le _)) (Nat.le_refl _) hbl k1' k2' (fun i h => (unhide HLE i h).1) (unhide HNM)).mono ?_; rintro e w_h ⟨⟨ra, rcap, ps2, hps2, rfl, hrowH⟩, hbh⟩; obtain ⟨hch, hfh⟩ := bcell hbh; have qh_0 := hch (w.heap.size) (0) (by first | (have := hbh0.size; have := hbh1.size; omega) | (have := hbh0.size; have := hbh1.size; simp at this ⊢; omega) | (simp; omega)); have qh_1 := hch (w.heap.size) (1) (by first | (have := hbh0.size; have := hbh1.size; omega) | (have := hbh0.size; have := hbh1.size; simp at this ⊢; omega) | (simp; omega)); have qh_2 := hch (w.heap.size+1) (0) (by first | (have := hbh0.size; have := hbh1.size; omega) | (have := hbh0.size; have := hbh1.size; simp at this ⊢; omega) | (simp; omega)); have qh_3 := hch (w.heap.size+1) (1) (by first | (have := hbh0.size; have := hbh1.size; omega) | (have := hbh0.size; have := hbh1.size; simp at this ⊢; omega) | (simp; omega)); have qh_4 := hch (w.heap.size+1) (2) (by first | (have := hbh0.size; have := hbh1.size; omega) | (have := hbh0.size; have := hbh1.size; simp at this ⊢; omega) | (simp; omega)); have qh_5 := hch (w.heap.size+1) (3) (by first | (have := hbh0.size; have := hbh1.size; omega) | (have := hbh0.size; have := hbh1.size; simp at this ⊢; omega) | (simp; omega)); have qh_6 := hch (w.heap.size+1) (4) (by first | (have := hbh0.size; have := hbh1.size; omega) | (have := hbh0.size; have := hbh1.size; simp at this ⊢; omega) | (simp; omega))))
      have hbH : Below w_mg.heap.size w_mg w_h := below_then (below_then (below_then (by repeat (first | with_reducible exact Below.refl _ _ | refine Below.setCell ?_ (by first | omega | (simp <;> omega) | (simp [World.setCell] <;> omega)) _ | refine Below.alloc ?_ (by first | omega | (simp <;> omega) | (simp [World.setCell] <;> omega)) _ | refine Below.drew ?_ | refine below_draws ?_ _ | exact Below.refl _ _)) hbh0) hbh1) hbh
      have hbw_h := below_then hbw_mg hbH
      have hq2 : ps = ps2 := (unhide HPS).unique hps2
      subst hq2
      clear hps2
      go_wp2_with fail
      refine (eqPartS_any _ _ ps _ _ _ (by have := unhide HPL; omega) (ptRow_pts hrowH) (ptRow_pts (rU_mg.below hbH))).mono ?_
      rintro e w_s ⟨rfl, hb_s⟩
      have hbw_s := below_then hbw_h hb_s
      go_wp2_with fail
      refine (heldPartS_any _ _ _ 1 _ (by have := unhide HPL; omega) (by omega) (by omega) ((hoG.below hbH).below hb_s)).mono ?_
      rintro e w_z ⟨rfl, hw_z⟩
      have hw_z2 := hw_z.symm
      clear hw_z
      subst hw_z2
      go_wp2
      go_ret
      exact ⟨rfl, hbw_s⟩

end Go.Proofs.YtbdggfpfpjijoaaGreat

