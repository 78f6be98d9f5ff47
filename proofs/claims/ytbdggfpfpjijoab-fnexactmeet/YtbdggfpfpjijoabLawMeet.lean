import Derived.Test.YtbdggfpfpjijoabG1
import Derived.Test.YtbdggfpfpjijoabEq
import Derived.Test.YtbdggfpfpjijoabG27
namespace Go.Proofs.Ytbdggfpfpjijoab
open Go.RowKit

set_option maxRecDepth 100000 in
set_option maxHeartbeats 8000000 in
theorem lawMeet_any (v : Value) (n : Nt) (tv : Value) (t : Tr) (tv2 : Value) (t2 : Tr) (w : World) {L L1 L2 : Nat} (hv : NetAt L w v n) (hl : n.pieces.length ≤ maxLen) (hl' : n.joints.length ≤ maxLen) (hle : ∀ i (h : i < n.joints.length), n.joints[i].name.size ≤ maxLen ∧ n.joints[i].ends.length ≤ maxLen) (hnm : ∀ i (h : i < n.pieces.length), n.pieces[i].name.size ≤ maxLen) (htv : TrAt L1 w tv t) (hbt : t.back.length ≤ maxLen) (htv2 : TrAt L2 w tv2 t2) (hbt2 : t2.back.length ≤ maxLen) :
    Calls Try.prog 5 #[v, tv, tv2] w fun e w' => e = .returned (.bool true) ∧ Below w.heap.size w w' := by
  have hvv := hv
  obtain ⟨a, c, ca, cc, rfl, hp, hj⟩ := hv
  have htt := htv
  obtain ⟨tq, tk, rfl, hts⟩ := htv
  have htt2 := htv2
  obtain ⟨tq2, tk2, rfl, hts2⟩ := htv2
  go_enter Try.func5, Try.ntmps5
  go_wp2_with fail
  refine (szNet_any a c n.pieces n.joints ca cc 1048576 _ (by omega) (by omega) hl (L := L) ?hA hnm hl' ?hB hle).mono ?_
  case hA => exact hp.below (by repeat (first | with_reducible exact Below.refl _ _ | refine Below.setCell ?_ (by first | omega | (simp <;> omega) | (simp [World.setCell] <;> omega)) _ | refine Below.alloc ?_ (by first | omega | (simp <;> omega) | (simp [World.setCell] <;> omega)) _ | refine Below.drew ?_ | refine below_draws ?_ _ | exact Below.refl _ _))
  case hB => exact hj.below (by repeat (first | with_reducible exact Below.refl _ _ | refine Below.setCell ?_ (by first | omega | (simp <;> omega) | (simp [World.setCell] <;> omega)) _ | refine Below.alloc ?_ (by first | omega | (simp <;> omega) | (simp [World.setCell] <;> omega)) _ | refine Below.drew ?_ | refine below_draws ?_ _ | exact Below.refl _ _))
  rintro e w1 ⟨r1, rfl, hr1, hbd1, hb1⟩
  have hbw1 : Below w.heap.size w w1 := below_then (by repeat (first | with_reducible exact Below.refl _ _ | refine Below.setCell ?_ (by first | omega | (simp <;> omega) | (simp [World.setCell] <;> omega)) _ | refine Below.alloc ?_ (by first | omega | (simp <;> omega) | (simp [World.setCell] <;> omega)) _ | refine Below.drew ?_ | refine below_draws ?_ _ | exact Below.refl _ _)) hb1
  have X0_1 : Boxed w1 (w.heap.size) [.slice a n.pieces.length ca, .slice c n.joints.length cc] := (((boxedN _ _ _ (by simp)).alloc _).alloc _).below hb1
  have X1_1 : Boxed w1 (w.heap.size + 1) [.int .i64 t.front.piece, .int .i64 t.front.at_, .int .i64 t.front.way, .int .i64 t.long, .slice tq t.back.length tk] := ((boxedN _ _ _ (by simp)).alloc _).below hb1
  have X2_1 : Boxed w1 (w.heap.size + 1 + 1) [.int .i64 t2.front.piece, .int .i64 t2.front.at_, .int .i64 t2.front.way, .int .i64 t2.long, .slice tq2 t2.back.length tk2] := (boxedN _ _ _ (by simp)).below hb1
  by_cases hneg1 : r1 < 0
  · go_wp2
    go_ret
    exact ⟨rfl, hbw1⟩
  obtain ⟨k1, k2, k3⟩ := hbd1 (by omega)
  have k1' : n.pieces.length ≤ 1048576 := by omega
  have k2' : n.joints.length ≤ 1048576 := by omega
  have k3' : ∀ i (h : i < n.joints.length), n.joints[i].ends.length ≤ 1048576 := fun i h => by have := k3 i h; omega
  clear k1 k2 k3 hbd1
  have p0 := X1_1.2.1 0 _ rfl
  have p1 := X1_1.2.1 1 _ rfl
  have p2 := X1_1.2.1 2 _ rfl
  have p3 := X1_1.2.1 3 _ rfl
  have p4 := X1_1.2.1 4 _ rfl
  go_wp2_with fail
  refine (szTrain_any _ t r1 _ (by omega) (by omega) (htt.below hbw1) hbt).mono ?_
  rintro e w2 ⟨r2, rfl, hr2, hbd2, hb2⟩
  have hbw2 := below_then hbw1 hb2
  have X0_2 := X0_1.below hb2
  have X1_2 := X1_1.below hb2
  have X2_2 := X2_1.below hb2
  clear p0 p1 p2 p3 p4
  by_cases hneg2 : r2 < 0
  · go_wp2
    go_ret
    exact ⟨rfl, hbw2⟩
  have hbl : t.back.length ≤ 1048576 := by have := hbd2 (by omega); omega
  clear hbd2
  have p0 := X2_2.2.1 0 _ rfl
  have p1 := X2_2.2.1 1 _ rfl
  have p2 := X2_2.2.1 2 _ rfl
  have p3 := X2_2.2.1 3 _ rfl
  have p4 := X2_2.2.1 4 _ rfl
  go_wp2_with fail
  refine (szTrain_any _ t2 r2 _ (by omega) (by omega) (htt2.below hbw2) hbt2).mono ?_
  rintro e w3 ⟨r3, rfl, hr3, hbd3, hb3⟩
  have hbw3 := below_then hbw2 hb3
  have X0_3 := X0_2.below hb3
  have X1_3 := X1_2.below hb3
  have X2_3 := X2_2.below hb3
  clear p0 p1 p2 p3 p4
  by_cases hneg3 : r3 < 0
  · go_wp2
    go_ret
    exact ⟨rfl, hbw3⟩
  have hbl2 : t2.back.length ≤ 1048576 := by have := hbd3 (by omega); omega
  clear hbd3
  have HK := hide k3'
  have HLE := hide hle
  have HNM := hide hnm
  clear k3' hle hnm
  have p0_0 := X0_3.2.1 0 _ rfl
  have p0_1 := X0_3.2.1 1 _ rfl
  have pn0 := X0_3.1
  have p1_0 := X1_3.2.1 0 _ rfl
  have p1_1 := X1_3.2.1 1 _ rfl
  have p1_2 := X1_3.2.1 2 _ rfl
  have p1_3 := X1_3.2.1 3 _ rfl
  have p1_4 := X1_3.2.1 4 _ rfl
  have pn1 := X1_3.1
  have p2_0 := X2_3.2.1 0 _ rfl
  have p2_1 := X2_3.2.1 1 _ rfl
  have p2_2 := X2_3.2.1 2 _ rfl
  have p2_3 := X2_3.2.1 3 _ rfl
  have p2_4 := X2_3.2.1 4 _ rfl
  have pn2 := X2_3.1
  go_wp2_with fail
  go_region_held3 (fun w' => w'.cell? ⟨w.heap.size, 0, none⟩ = some (.slice a n.pieces.length ca) ∧ w'.cell? ⟨w.heap.size, 1, none⟩ = some (.slice c n.joints.length cc) ∧ w'.cell? ⟨w.heap.size + 1, 0, none⟩ = some (.int .i64 t.front.piece) ∧ w'.cell? ⟨w.heap.size + 1, 1, none⟩ = some (.int .i64 t.front.at_) ∧ w'.cell? ⟨w.heap.size + 1, 2, none⟩ = some (.int .i64 t.front.way) ∧ w'.cell? ⟨w.heap.size + 1, 3, none⟩ = some (.int .i64 t.long) ∧ w'.cell? ⟨w.heap.size + 1, 4, none⟩ = some (.slice tq t.back.length tk) ∧ w'.cell? ⟨w.heap.size + 1 + 1, 0, none⟩ = some (.int .i64 t2.front.piece) ∧ w'.cell? ⟨w.heap.size + 1 + 1, 1, none⟩ = some (.int .i64 t2.front.at_) ∧ w'.cell? ⟨w.heap.size + 1 + 1, 2, none⟩ = some (.int .i64 t2.front.way) ∧ w'.cell? ⟨w.heap.size + 1 + 1, 3, none⟩ = some (.int .i64 t2.long) ∧ w'.cell? ⟨w.heap.size + 1 + 1, 4, none⟩ = some (.slice tq2 t2.back.length tk2)) (((try dsimp only); (repeat' apply And.intro)) <;> (go_keep; done))
    (first
      | (go_at_call 9; refine (toNet_any _ n _ (hvv.below (below_then hbw3 (by repeat (first | with_reducible exact Below.refl _ _ | refine Below.setCell ?_ (by first | omega | (simp <;> omega) | (simp [World.setCell] <;> omega)) _ | refine Below.alloc ?_ (by first | omega | (simp <;> omega) | (simp [World.setCell] <;> omega)) _ | refine Below.drew ?_ | refine below_draws ?_ _ | exact Below.refl _ _)))) k1' k2' (unhide HK)).mono ?_; rintro e w_g0 ⟨g0v, rfl, hg0v, hbg0⟩; obtain ⟨hcg0, hfg0⟩ := bcell hbg0; have szg0 := hbg0.size; (try simp at szg0); have qg0_0 := hcg0 (w.heap.size) (0) (by first | (simp; done) | (simp; omega) | omega); have qg0_1 := hcg0 (w.heap.size) (1) (by first | (simp; done) | (simp; omega) | omega); have qg0_2 := hcg0 (w.heap.size+1) (0) (by first | (simp; done) | (simp; omega) | omega); have qg0_3 := hcg0 (w.heap.size+1) (1) (by first | (simp; done) | (simp; omega) | omega); have qg0_4 := hcg0 (w.heap.size+1) (2) (by first | (simp; done) | (simp; omega) | omega); have qg0_5 := hcg0 (w.heap.size+1) (3) (by first | (simp; done) | (simp; omega) | omega); have qg0_6 := hcg0 (w.heap.size+1) (4) (by first | (simp; done) | (simp; omega) | omega); have qg0_7 := hcg0 (w.heap.size+1+1) (0) (by first | (simp; done) | (simp; omega) | omega); have qg0_8 := hcg0 (w.heap.size+1+1) (1) (by first | (simp; done) | (simp; omega) | omega); have qg0_9 := hcg0 (w.heap.size+1+1) (2) (by first | (simp; done) | (simp; omega) | omega); have qg0_10 := hcg0 (w.heap.size+1+1) (3) (by first | (simp; done) | (simp; omega) | omega); have qg0_11 := hcg0 (w.heap.size+1+1) (4) (by first | (simp; done) | (simp; omega) | omega))
      | (go_at_call_of 10 (t.long); refine (toTrain_own _ t _ (htt.below (below_then (below_then hbw3 (by repeat (first | with_reducible exact Below.refl _ _ | refine Below.setCell ?_ (by first | omega | (simp <;> omega) | (simp [World.setCell] <;> omega)) _ | refine Below.alloc ?_ (by first | omega | (simp <;> omega) | (simp [World.setCell] <;> omega)) _ | refine Below.drew ?_ | refine below_draws ?_ _ | exact Below.refl _ _))) hbg0)) hbl).mono ?_; rintro e w_g1 ⟨g1v, rfl, hg1v, hbg1⟩; obtain ⟨hcg1, hfg1⟩ := bcell hbg1; have szg1 := hbg1.size; (try simp at szg1); have qg1_0 := hcg1 (w.heap.size) (0) (by first | (have := hbg0.size; omega) | (have := hbg0.size; simp at this ⊢; omega) | (simp; omega)); have qg1_1 := hcg1 (w.heap.size) (1) (by first | (have := hbg0.size; omega) | (have := hbg0.size; simp at this ⊢; omega) | (simp; omega)); have qg1_2 := hcg1 (w.heap.size+1) (0) (by first | (have := hbg0.size; omega) | (have := hbg0.size; simp at this ⊢; omega) | (simp; omega)); have qg1_3 := hcg1 (w.heap.size+1) (1) (by first | (have := hbg0.size; omega) | (have := hbg0.size; simp at this ⊢; omega) | (simp; omega)); have qg1_4 := hcg1 (w.heap.size+1) (2) (by first | (have := hbg0.size; omega) | (have := hbg0.size; simp at this ⊢; omega) | (simp; omega)); have qg1_5 := hcg1 (w.heap.size+1) (3) (by first | (have := hbg0.size; omega) | (have := hbg0.size; simp at this ⊢; omega) | (simp; omega)); have qg1_6 := hcg1 (w.heap.size+1) (4) (by first | (have := hbg0.size; omega) | (have := hbg0.size; simp at this ⊢; omega) | (simp; omega)); have qg1_7 := hcg1 (w.heap.size+1+1) (0) (by first | (have := hbg0.size; omega) | (have := hbg0.size; simp at this ⊢; omega) | (simp; omega)); have qg1_8 := hcg1 (w.heap.size+1+1) (1) (by first | (have := hbg0.size; omega) | (have := hbg0.size; simp at this ⊢; omega) | (simp; omega)); have qg1_9 := hcg1 (w.heap.size+1+1) (2) (by first | (have := hbg0.size; omega) | (have := hbg0.size; simp at this ⊢; omega) | (simp; omega)); have qg1_10 := hcg1 (w.heap.size+1+1) (3) (by first | (have := hbg0.size; omega) | (have := hbg0.size; simp at this ⊢; omega) | (simp; omega)); have qg1_11 := hcg1 (w.heap.size+1+1) (4) (by first | (have := hbg0.size; omega) | (have := hbg0.size; simp at this ⊢; omega) | (simp; omega)))
      | (go_at_call_of 10 (t2.long); refine (toTrain_own _ t2 _ (htt2.below (below_then (below_then (below_then hbw3 (by repeat (first | with_reducible exact Below.refl _ _ | refine Below.setCell ?_ (by first | omega | (simp <;> omega) | (simp [World.setCell] <;> omega)) _ | refine Below.alloc ?_ (by first | omega | (simp <;> omega) | (simp [World.setCell] <;> omega)) _ | refine Below.drew ?_ | refine below_draws ?_ _ | exact Below.refl _ _))) hbg0) hbg1)) hbl2).mono ?_; rintro e w_g2 ⟨g2v, rfl, hg2v, hbg2⟩; obtain ⟨hcg2, hfg2⟩ := bcell hbg2; have szg2 := hbg2.size; (try simp at szg2); have qg2_0 := hcg2 (w.heap.size) (0) (by first | (have := hbg0.size; have := hbg1.size; omega) | (have := hbg0.size; have := hbg1.size; simp at this ⊢; omega) | (simp; omega)); have qg2_1 := hcg2 (w.heap.size) (1) (by first | (have := hbg0.size; have := hbg1.size; omega) | (have := hbg0.size; have := hbg1.size; simp at this ⊢; omega) | (simp; omega)); have qg2_2 := hcg2 (w.heap.size+1) (0) (by first | (have := hbg0.size; have := hbg1.size; omega) | (have := hbg0.size; have := hbg1.size; simp at this ⊢; omega) | (simp; omega)); have qg2_3 := hcg2 (w.heap.size+1) (1) (by first | (have := hbg0.size; have := hbg1.size; omega) | (have := hbg0.size; have := hbg1.size; simp at this ⊢; omega) | (simp; omega)); have qg2_4 := hcg2 (w.heap.size+1) (2) (by first | (have := hbg0.size; have := hbg1.size; omega) | (have := hbg0.size; have := hbg1.size; simp at this ⊢; omega) | (simp; omega)); have qg2_5 := hcg2 (w.heap.size+1) (3) (by first | (have := hbg0.size; have := hbg1.size; omega) | (have := hbg0.size; have := hbg1.size; simp at this ⊢; omega) | (simp; omega)); have qg2_6 := hcg2 (w.heap.size+1) (4) (by first | (have := hbg0.size; have := hbg1.size; omega) | (have := hbg0.size; have := hbg1.size; simp at this ⊢; omega) | (simp; omega)); have qg2_7 := hcg2 (w.heap.size+1+1) (0) (by first | (have := hbg0.size; have := hbg1.size; omega) | (have := hbg0.size; have := hbg1.size; simp at this ⊢; omega) | (simp; omega)); have qg2_8 := hcg2 (w.heap.size+1+1) (1) (by first | (have := hbg0.size; have := hbg1.size; omega) | (have := hbg0.size; have := hbg1.size; simp at this ⊢; omega) | (simp; omega)); have qg2_9 := hcg2 (w.heap.size+1+1) (2) (by first | (have := hbg0.size; have := hbg1.size; omega) | (have := hbg0.size; have := hbg1.size; simp at this ⊢; omega) | (simp; omega)); have qg2_10 := hcg2 (w.heap.size+1+1) (3) (by first | (have := hbg0.size; have := hbg1.size; omega) | (have := hbg0.size; have := hbg1.size; simp at this ⊢; omega) | (simp; omega)); have qg2_11 := hcg2 (w.heap.size+1+1) (4) (by first | (have := hbg0.size; have := hbg1.size; omega) | (have := hbg0.size; have := hbg1.size; simp at this ⊢; omega) | (simp; omega)))
      | (go_at_call 19; refine (specMeet_b _ _ _ n t t2 _ ((hg0v.below hbg1).below hbg2) (hg1v.at.below hbg2) hg2v.at k1' k2' (fun i h => ⟨unhide HK i h, (unhide HLE i h).1⟩) (unhide HNM) hbl hbl2).mono ?_; rintro e w_gs ⟨sb, rfl, hsb, hbgs⟩; have HSB := hide hsb; clear hsb; obtain ⟨hcgs, hfgs⟩ := bcell hbgs; have qgs_0 := hcgs (w.heap.size) (0) (by first | (have := hbg0.size; have := hbg1.size; have := hbg2.size; omega) | (have := hbg0.size; have := hbg1.size; have := hbg2.size; simp at this ⊢; omega) | (simp; omega)); have qgs_1 := hcgs (w.heap.size) (1) (by first | (have := hbg0.size; have := hbg1.size; have := hbg2.size; omega) | (have := hbg0.size; have := hbg1.size; have := hbg2.size; simp at this ⊢; omega) | (simp; omega)); have qgs_2 := hcgs (w.heap.size+1) (0) (by first | (have := hbg0.size; have := hbg1.size; have := hbg2.size; omega) | (have := hbg0.size; have := hbg1.size; have := hbg2.size; simp at this ⊢; omega) | (simp; omega)); have qgs_3 := hcgs (w.heap.size+1) (1) (by first | (have := hbg0.size; have := hbg1.size; have := hbg2.size; omega) | (have := hbg0.size; have := hbg1.size; have := hbg2.size; simp at this ⊢; omega) | (simp; omega)); have qgs_4 := hcgs (w.heap.size+1) (2) (by first | (have := hbg0.size; have := hbg1.size; have := hbg2.size; omega) | (have := hbg0.size; have := hbg1.size; have := hbg2.size; simp at this ⊢; omega) | (simp; omega)); have qgs_5 := hcgs (w.heap.size+1) (3) (by first | (have := hbg0.size; have := hbg1.size; have := hbg2.size; omega) | (have := hbg0.size; have := hbg1.size; have := hbg2.size; simp at this ⊢; omega) | (simp; omega)); have qgs_6 := hcgs (w.heap.size+1) (4) (by first | (have := hbg0.size; have := hbg1.size; have := hbg2.size; omega) | (have := hbg0.size; have := hbg1.size; have := hbg2.size; simp at this ⊢; omega) | (simp; omega)); have qgs_7 := hcgs (w.heap.size+1+1) (0) (by first | (have := hbg0.size; have := hbg1.size; have := hbg2.size; omega) | (have := hbg0.size; have := hbg1.size; have := hbg2.size; simp at this ⊢; omega) | (simp; omega)); have qgs_8 := hcgs (w.heap.size+1+1) (1) (by first | (have := hbg0.size; have := hbg1.size; have := hbg2.size; omega) | (have := hbg0.size; have := hbg1.size; have := hbg2.size; simp at this ⊢; omega) | (simp; omega)); have qgs_9 := hcgs (w.heap.size+1+1) (2) (by first | (have := hbg0.size; have := hbg1.size; have := hbg2.size; omega) | (have := hbg0.size; have := hbg1.size; have := hbg2.size; simp at this ⊢; omega) | (simp; omega)); have qgs_10 := hcgs (w.heap.size+1+1) (3) (by first | (have := hbg0.size; have := hbg1.size; have := hbg2.size; omega) | (have := hbg0.size; have := hbg1.size; have := hbg2.size; simp at this ⊢; omega) | (simp; omega)); have qgs_11 := hcgs (w.heap.size+1+1) (4) (by first | (have := hbg0.size; have := hbg1.size; have := hbg2.size; omega) | (have := hbg0.size; have := hbg1.size; have := hbg2.size; simp at this ⊢; omega) | (simp; omega))))
  have hbS : Below w3.heap.size w3 w_gs := below_then (below_then (below_then (below_then (by repeat (first | with_reducible exact Below.refl _ _ | refine Below.setCell ?_ (by first | omega | (simp <;> omega) | (simp [World.setCell] <;> omega)) _ | refine Below.alloc ?_ (by first | omega | (simp <;> omega) | (simp [World.setCell] <;> omega)) _ | refine Below.drew ?_ | refine below_draws ?_ _ | exact Below.refl _ _)) hbg0) hbg1) hbg2) hbgs
  have hbwS := below_then hbw3 hbS
  clear qg0_0 qg0_1 qg0_2 qg0_3 qg0_4 qg0_5 qg0_6 qg0_7 qg0_8 qg0_9 qg0_10 qg0_11 hcg0 hfg0 qg1_0 qg1_1 qg1_2 qg1_3 qg1_4 qg1_5 qg1_6 qg1_7 qg1_8 qg1_9 qg1_10 qg1_11 hcg1 hfg1 qg2_0 qg2_1 qg2_2 qg2_3 qg2_4 qg2_5 qg2_6 qg2_7 qg2_8 qg2_9 qg2_10 qg2_11 hcg2 hfg2 qgs_0 qgs_1 qgs_2 qgs_3 qgs_4 qgs_5 qgs_6 qgs_7 qgs_8 qgs_9 qgs_10 qgs_11 hcgs hfgs p0_0 p0_1 p1_0 p1_1 p1_2 p1_3 p1_4 p2_0 p2_1 p2_2 p2_3 p2_4 pn0 pn1 pn2
  have X0_S := X0_3.below hbS
  have X1_S := X1_3.below hbS
  have X2_S := X2_3.below hbS
  have p0 := X0_S.2.1 0 _ rfl
  have p1 := X0_S.2.1 1 _ rfl
  have pn := X0_S.1
  go_wp2_with fail
  refine (toNet_own _ n _ (hvv.below hbwS) k1' k2' (unhide HK)).mono ?_
  rintro e w_x0 ⟨v_x0, rfl, hv_x0, hb_x0⟩
  clear p0 p1 pn
  have hbw_x0 := below_then hbwS hb_x0
  have X0_x0 := X0_S.below hb_x0
  have X1_x0 := X1_S.below hb_x0
  have X2_x0 := X2_S.below hb_x0
  have fN0 := hv_x0.at
  have fO0 := hv_x0
  obtain ⟨xa0, xc0, rfl, hxo0, hxj0⟩ := hv_x0
  have hA_x0 : Below w_x0.heap.size w_x0 (w_x0.alloc (.cells #[.slice xa0 n.pieces.length n.pieces.length, .slice xc0 n.joints.length n.joints.length] 38)) := (by repeat (first | with_reducible exact Below.refl _ _ | refine Below.setCell ?_ (by first | omega | (simp <;> omega) | (simp [World.setCell] <;> omega)) _ | refine Below.alloc ?_ (by first | omega | (simp <;> omega) | (simp [World.setCell] <;> omega)) _ | refine Below.drew ?_ | refine below_draws ?_ _ | exact Below.refl _ _))
  have p0 := X1_x0.2.1 0 _ rfl
  have p1 := X1_x0.2.1 1 _ rfl
  have p2 := X1_x0.2.1 2 _ rfl
  have p3 := X1_x0.2.1 3 _ rfl
  have p4 := X1_x0.2.1 4 _ rfl
  have pn := X1_x0.1
  go_wp2_with fail
  refine (toTrain_own _ t _ (htt.below (below_then hbw_x0 hA_x0)) hbl).mono ?_
  rintro e w_x1 ⟨v_x1, rfl, hv_x1, hb_x1⟩
  clear p0 p1 p2 p3 p4 pn
  have hb'_x1 := below_then hA_x0 hb_x1
  have hbw_x1 := below_then hbw_x0 hb'_x1
  have X0_x1 := X0_x0.below hb'_x1
  have X1_x1 := X1_x0.below hb'_x1
  have X2_x1 := X2_x0.below hb'_x1
  have fN0_x1 := fN0.below hb'_x1
  have Y0_x1 : Boxed w_x1 (w_x0.heap.size) [.slice xa0 n.pieces.length n.pieces.length, .slice xc0 n.joints.length n.joints.length] := (boxed_alloc _ _ _).below hb_x1
  have fT1 := hv_x1.at
  obtain ⟨ya1, rfl, hys1⟩ := hv_x1
  have fS1 := hys1.at.mono (Nat.zero_le _)
  have hA_x1 : Below w_x1.heap.size w_x1 (w_x1.alloc (.cells #[.int .i64 t.front.piece, .int .i64 t.front.at_, .int .i64 t.front.way, .int .i64 t.long, .slice ya1 t.back.length t.back.length] 42)) := (by repeat (first | with_reducible exact Below.refl _ _ | refine Below.setCell ?_ (by first | omega | (simp <;> omega) | (simp [World.setCell] <;> omega)) _ | refine Below.alloc ?_ (by first | omega | (simp <;> omega) | (simp [World.setCell] <;> omega)) _ | refine Below.drew ?_ | refine below_draws ?_ _ | exact Below.refl _ _))
  have p0 := X2_x1.2.1 0 _ rfl
  have p1 := X2_x1.2.1 1 _ rfl
  have p2 := X2_x1.2.1 2 _ rfl
  have p3 := X2_x1.2.1 3 _ rfl
  have p4 := X2_x1.2.1 4 _ rfl
  have pn := X2_x1.1
  go_wp2_with fail
  refine (toTrain_own _ t2 _ (htt2.below (below_then hbw_x1 hA_x1)) hbl2).mono ?_
  rintro e w_x2 ⟨v_x2, rfl, hv_x2, hb_x2⟩
  clear p0 p1 p2 p3 p4 pn
  have hb'_x2 := below_then hA_x1 hb_x2
  have hbw_x2 := below_then hbw_x1 hb'_x2
  have X0_x2 := X0_x1.below hb'_x2
  have X1_x2 := X1_x1.below hb'_x2
  have X2_x2 := X2_x1.below hb'_x2
  have Y0_x2 := Y0_x1.below hb'_x2
  have fN0_x2 := fN0_x1.below hb'_x2
  have fT1_x2 := fT1.below hb'_x2
  have fS1_x2 := fS1.below hb'_x2
  have Y1_x2 : Boxed w_x2 (w_x1.heap.size) [.int .i64 t.front.piece, .int .i64 t.front.at_, .int .i64 t.front.way, .int .i64 t.long, .slice ya1 t.back.length t.back.length] := (boxed_alloc _ _ _).below hb_x2
  have fT2 := hv_x2.at
  obtain ⟨ya2, rfl, hys2⟩ := hv_x2
  have fS2 := hys2.at.mono (Nat.zero_le _)
  have hA_x2 : Below w_x2.heap.size w_x2 (w_x2.alloc (.cells #[.int .i64 t2.front.piece, .int .i64 t2.front.at_, .int .i64 t2.front.way, .int .i64 t2.long, .slice ya2 t2.back.length t2.back.length] 42)) := (by repeat (first | with_reducible exact Below.refl _ _ | refine Below.setCell ?_ (by first | omega | (simp <;> omega) | (simp [World.setCell] <;> omega)) _ | refine Below.alloc ?_ (by first | omega | (simp <;> omega) | (simp [World.setCell] <;> omega)) _ | refine Below.drew ?_ | refine below_draws ?_ _ | exact Below.refl _ _))
  have y0_0 := Y0_x2.2.1 0 _ rfl
  have y0_1 := Y0_x2.2.1 1 _ rfl
  have yn0 := Y0_x2.1
  have y1_0 := Y1_x2.2.1 0 _ rfl
  have y1_1 := Y1_x2.2.1 1 _ rfl
  have y1_2 := Y1_x2.2.1 2 _ rfl
  have y1_3 := Y1_x2.2.1 3 _ rfl
  have y1_4 := Y1_x2.2.1 4 _ rfl
  have yn1 := Y1_x2.1
  go_wp2_with fail
  refine (implMeet_any _ n t t2 ya1 ya2 t.back.length t2.back.length _ (L := w_gs.heap.size) (fN0_x2.below hA_x2) (fS1_x2.below hA_x2) (fS2.below hA_x2) (Nat.le_refl _) (Nat.le_refl _) hbl hbl2 k1' k2' (fun i h => (unhide HLE i h).1) (unhide HNM)).mono ?_
  rintro e w_i ⟨himpl, hb_i⟩
  have hb'_i := below_then hA_x2 hb_i
  have hbw_i := below_then hbw_x2 hb'_i
  have X0_i := X0_x2.below hb'_i
  have X1_i := X1_x2.below hb'_i
  have X2_i := X2_x2.below hb'_i
  have Y0_i := Y0_x2.below hb'_i
  have Y1_i := Y1_x2.below hb'_i
  have fN0_i := fN0_x2.below hb'_i
  have fT1_i := fT1_x2.below hb'_i
  have fS1_i := fS1_x2.below hb'_i
  have fT2_i := fT2.below hb'_i
  have fS2_i := fS2.below hb'_i
  have Y2_i : Boxed w_i (w_x2.heap.size) [.int .i64 t2.front.piece, .int .i64 t2.front.at_, .int .i64 t2.front.way, .int .i64 t2.long, .slice ya2 t2.back.length t2.back.length] := (boxed_alloc _ _ _).below hb_i
  clear y0_0 y0_1 y1_0 y1_1 y1_2 y1_3 y1_4 yn0 yn1
  obtain ⟨rfl⟩ : e = .returned (.bool sb) := by
    rcases himpl with ⟨rfl, h⟩ | ⟨rfl, h⟩
    · rw [(unhide HSB).2 h]
    · cases sb
      · rfl
      · exact absurd ((unhide HSB).1 rfl) h
  clear himpl HSB
  have p0 := X0_i.2.1 0 _ rfl
  have y0 := Y0_i.2.1 0 _ rfl
  have p1 := X0_i.2.1 1 _ rfl
  have y1 := Y0_i.2.1 1 _ rfl
  have pn := X0_i.1
  have yn := Y0_i.1
  go_upto_region 18 with fail
  go_cut [52] (fun b wx => b = .bool false ∧ Below w_i.heap.size w_i wx)
  case first =>
    go_region_held3 (fun w' => w'.cell? ⟨w.heap.size, 0, none⟩ = some (.slice a n.pieces.length ca) ∧ w'.cell? ⟨w.heap.size, 1, none⟩ = some (.slice c n.joints.length cc) ∧ w'.cell? ⟨w_x0.heap.size, 0, none⟩ = some (.slice xa0 n.pieces.length n.pieces.length) ∧ w'.cell? ⟨w_x0.heap.size, 1, none⟩ = some (.slice xc0 n.joints.length n.joints.length)) (((try dsimp only); (repeat' apply And.intro)) <;> (go_keep; done))
      (first
        | (go_at_call 9; refine (toNet_any _ n _ (hvv.below (below_then hbw_i (by repeat (first | with_reducible exact Below.refl _ _ | refine Below.setCell ?_ (by first | omega | (simp <;> omega) | (simp [World.setCell] <;> omega)) _ | refine Below.alloc ?_ (by first | omega | (simp <;> omega) | (simp [World.setCell] <;> omega)) _ | refine Below.drew ?_ | refine below_draws ?_ _ | exact Below.refl _ _)))) k1' k2' (unhide HK)).mono ?_; rintro e w_e0a ⟨v_e0a, rfl, hv_e0a, hb_e0a⟩; obtain ⟨hc_e0a, hf_e0a⟩ := bcell hb_e0a; have sz_e0a := hb_e0a.size; (try simp at sz_e0a); have qq0 := hc_e0a (w.heap.size) (0) (by first | (simp; done) | (simp; omega) | omega); have qq1 := hc_e0a (w.heap.size) (1) (by first | (simp; done) | (simp; omega) | omega); have qq2 := hc_e0a (w_x0.heap.size) (0) (by first | (simp; done) | (simp; omega) | omega); have qq3 := hc_e0a (w_x0.heap.size) (1) (by first | (simp; done) | (simp; omega) | omega))
        | (go_at_call 13; refine (eqNet_any _ _ n _ k1' k2' (unhide HK) (fN0_i.below (below_then (by repeat (first | with_reducible exact Below.refl _ _ | refine Below.setCell ?_ (by first | omega | (simp <;> omega) | (simp [World.setCell] <;> omega)) _ | refine Below.alloc ?_ (by first | omega | (simp <;> omega) | (simp [World.setCell] <;> omega)) _ | refine Below.drew ?_ | refine below_draws ?_ _ | exact Below.refl _ _)) hb_e0a)) hv_e0a).mono ?_; rintro e w_e0b ⟨rfl, hb_e0b⟩; obtain ⟨hc_e0b, hf_e0b⟩ := bcell hb_e0b; have rr0 := hc_e0b (w.heap.size) (0) (by first | (have := hb_e0a.size; omega) | (have := hb_e0a.size; simp at this ⊢; omega) | (simp; omega)); have rr1 := hc_e0b (w.heap.size) (1) (by first | (have := hb_e0a.size; omega) | (have := hb_e0a.size; simp at this ⊢; omega) | (simp; omega)); have rr2 := hc_e0b (w_x0.heap.size) (0) (by first | (have := hb_e0a.size; omega) | (have := hb_e0a.size; simp at this ⊢; omega) | (simp; omega)); have rr3 := hc_e0b (w_x0.heap.size) (1) (by first | (have := hb_e0a.size; omega) | (have := hb_e0a.size; simp at this ⊢; omega) | (simp; omega))))
    all_goals go_wp2_with fail
    all_goals go_meet
    all_goals exact ⟨rfl, below_then (below_then (by repeat (first | with_reducible exact Below.refl _ _ | refine Below.setCell ?_ (by first | omega | (simp <;> omega) | (simp [World.setCell] <;> omega)) _ | refine Below.alloc ?_ (by first | omega | (simp <;> omega) | (simp [World.setCell] <;> omega)) _ | refine Below.drew ?_ | refine below_draws ?_ _ | exact Below.refl _ _)) hb_e0a) hb_e0b⟩
  case rest =>
    obtain ⟨rfl, hb_e0⟩ := hcut
    clear p0 p1 y0 y1 pn yn
    have hbw_e0 := below_then hbw_i hb_e0
    have X0_e0 := X0_i.below hb_e0
    have X1_e0 := X1_i.below hb_e0
    have X2_e0 := X2_i.below hb_e0
    have Y0_e0 := Y0_i.below hb_e0
    have Y1_e0 := Y1_i.below hb_e0
    have Y2_e0 := Y2_i.below hb_e0
    have fN0_e0 := fN0_i.below hb_e0
    have fT1_e0 := fT1_i.below hb_e0
    have fS1_e0 := fS1_i.below hb_e0
    have fT2_e0 := fT2_i.below hb_e0
    have fS2_e0 := fS2_i.below hb_e0
    have p0 := X1_e0.2.1 0 _ rfl
    have y0 := Y1_e0.2.1 0 _ rfl
    have p1 := X1_e0.2.1 1 _ rfl
    have y1 := Y1_e0.2.1 1 _ rfl
    have p2 := X1_e0.2.1 2 _ rfl
    have y2 := Y1_e0.2.1 2 _ rfl
    have p3 := X1_e0.2.1 3 _ rfl
    have y3 := Y1_e0.2.1 3 _ rfl
    have p4 := X1_e0.2.1 4 _ rfl
    have y4 := Y1_e0.2.1 4 _ rfl
    have pn := X1_e0.1
    have yn := Y1_e0.1
    go_upto_region 20 with fail
    go_cut [57] (fun b wx => b = .bool false ∧ Below wc.heap.size wc wx)
    case first =>
      go_region_held3 (fun w' => w'.cell? ⟨w.heap.size + 1, 0, none⟩ = some (.int .i64 t.front.piece) ∧ w'.cell? ⟨w.heap.size + 1, 1, none⟩ = some (.int .i64 t.front.at_) ∧ w'.cell? ⟨w.heap.size + 1, 2, none⟩ = some (.int .i64 t.front.way) ∧ w'.cell? ⟨w.heap.size + 1, 3, none⟩ = some (.int .i64 t.long) ∧ w'.cell? ⟨w.heap.size + 1, 4, none⟩ = some (.slice tq t.back.length tk) ∧ w'.cell? ⟨w_x1.heap.size, 0, none⟩ = some (.int .i64 t.front.piece) ∧ w'.cell? ⟨w_x1.heap.size, 1, none⟩ = some (.int .i64 t.front.at_) ∧ w'.cell? ⟨w_x1.heap.size, 2, none⟩ = some (.int .i64 t.front.way) ∧ w'.cell? ⟨w_x1.heap.size, 3, none⟩ = some (.int .i64 t.long) ∧ w'.cell? ⟨w_x1.heap.size, 4, none⟩ = some (.slice ya1 t.back.length t.back.length)) (((try dsimp only); (repeat' apply And.intro)) <;> (go_keep; done))
        (first
          | (go_at_call 10; refine (toTrain_own _ t _ (htt.below (below_then hbw_e0 (by repeat (first | with_reducible exact Below.refl _ _ | refine Below.setCell ?_ (by first | omega | (simp <;> omega) | (simp [World.setCell] <;> omega)) _ | refine Below.alloc ?_ (by first | omega | (simp <;> omega) | (simp [World.setCell] <;> omega)) _ | refine Below.drew ?_ | refine below_draws ?_ _ | exact Below.refl _ _)))) hbl).mono ?_; rintro e w_e1a ⟨v_e1a, rfl, hv_e1a, hb_e1a⟩; obtain ⟨hc_e1a, hf_e1a⟩ := bcell hb_e1a; have sz_e1a := hb_e1a.size; (try simp at sz_e1a); have qq0 := hc_e1a (w.heap.size+1) (0) (by first | (simp; done) | (simp; omega) | omega); have qq1 := hc_e1a (w.heap.size+1) (1) (by first | (simp; done) | (simp; omega) | omega); have qq2 := hc_e1a (w.heap.size+1) (2) (by first | (simp; done) | (simp; omega) | omega); have qq3 := hc_e1a (w.heap.size+1) (3) (by first | (simp; done) | (simp; omega) | omega); have qq4 := hc_e1a (w.heap.size+1) (4) (by first | (simp; done) | (simp; omega) | omega); have qq5 := hc_e1a (w_x1.heap.size) (0) (by first | (simp; done) | (simp; omega) | omega); have qq6 := hc_e1a (w_x1.heap.size) (1) (by first | (simp; done) | (simp; omega) | omega); have qq7 := hc_e1a (w_x1.heap.size) (2) (by first | (simp; done) | (simp; omega) | omega); have qq8 := hc_e1a (w_x1.heap.size) (3) (by first | (simp; done) | (simp; omega) | omega); have qq9 := hc_e1a (w_x1.heap.size) (4) (by first | (simp; done) | (simp; omega) | omega))
          | (go_at_call 14; refine (eqTrain_any _ _ t _ hbl (fT1_e0.below (below_then (by repeat (first | with_reducible exact Below.refl _ _ | refine Below.setCell ?_ (by first | omega | (simp <;> omega) | (simp [World.setCell] <;> omega)) _ | refine Below.alloc ?_ (by first | omega | (simp <;> omega) | (simp [World.setCell] <;> omega)) _ | refine Below.drew ?_ | refine below_draws ?_ _ | exact Below.refl _ _)) hb_e1a)) hv_e1a.at).mono ?_; rintro e w_e1b ⟨rfl, hb_e1b⟩; obtain ⟨hc_e1b, hf_e1b⟩ := bcell hb_e1b; have rr0 := hc_e1b (w.heap.size+1) (0) (by first | (have := hb_e1a.size; omega) | (have := hb_e1a.size; simp at this ⊢; omega) | (simp; omega)); have rr1 := hc_e1b (w.heap.size+1) (1) (by first | (have := hb_e1a.size; omega) | (have := hb_e1a.size; simp at this ⊢; omega) | (simp; omega)); have rr2 := hc_e1b (w.heap.size+1) (2) (by first | (have := hb_e1a.size; omega) | (have := hb_e1a.size; simp at this ⊢; omega) | (simp; omega)); have rr3 := hc_e1b (w.heap.size+1) (3) (by first | (have := hb_e1a.size; omega) | (have := hb_e1a.size; simp at this ⊢; omega) | (simp; omega)); have rr4 := hc_e1b (w.heap.size+1) (4) (by first | (have := hb_e1a.size; omega) | (have := hb_e1a.size; simp at this ⊢; omega) | (simp; omega)); have rr5 := hc_e1b (w_x1.heap.size) (0) (by first | (have := hb_e1a.size; omega) | (have := hb_e1a.size; simp at this ⊢; omega) | (simp; omega)); have rr6 := hc_e1b (w_x1.heap.size) (1) (by first | (have := hb_e1a.size; omega) | (have := hb_e1a.size; simp at this ⊢; omega) | (simp; omega)); have rr7 := hc_e1b (w_x1.heap.size) (2) (by first | (have := hb_e1a.size; omega) | (have := hb_e1a.size; simp at this ⊢; omega) | (simp; omega)); have rr8 := hc_e1b (w_x1.heap.size) (3) (by first | (have := hb_e1a.size; omega) | (have := hb_e1a.size; simp at this ⊢; omega) | (simp; omega)); have rr9 := hc_e1b (w_x1.heap.size) (4) (by first | (have := hb_e1a.size; omega) | (have := hb_e1a.size; simp at this ⊢; omega) | (simp; omega))))
      all_goals go_wp2_with fail
      all_goals go_meet
      all_goals exact ⟨rfl, below_then (below_then (by repeat (first | with_reducible exact Below.refl _ _ | refine Below.setCell ?_ (by first | omega | (simp <;> omega) | (simp [World.setCell] <;> omega)) _ | refine Below.alloc ?_ (by first | omega | (simp <;> omega) | (simp [World.setCell] <;> omega)) _ | refine Below.drew ?_ | refine below_draws ?_ _ | exact Below.refl _ _)) hb_e1a) hb_e1b⟩
    case rest =>
      obtain ⟨rfl, hb_e1⟩ := hcut
      clear p0 p1 p2 p3 p4 y0 y1 y2 y3 y4 pn yn
      have hbw_e1 := below_then hbw_e0 hb_e1
      have X0_e1 := X0_e0.below hb_e1
      have X1_e1 := X1_e0.below hb_e1
      have X2_e1 := X2_e0.below hb_e1
      have Y0_e1 := Y0_e0.below hb_e1
      have Y1_e1 := Y1_e0.below hb_e1
      have Y2_e1 := Y2_e0.below hb_e1
      have fN0_e1 := fN0_e0.below hb_e1
      have fT1_e1 := fT1_e0.below hb_e1
      have fS1_e1 := fS1_e0.below hb_e1
      have fT2_e1 := fT2_e0.below hb_e1
      have fS2_e1 := fS2_e0.below hb_e1
      have p0 := X2_e1.2.1 0 _ rfl
      have y0 := Y2_e1.2.1 0 _ rfl
      have p1 := X2_e1.2.1 1 _ rfl
      have y1 := Y2_e1.2.1 1 _ rfl
      have p2 := X2_e1.2.1 2 _ rfl
      have y2 := Y2_e1.2.1 2 _ rfl
      have p3 := X2_e1.2.1 3 _ rfl
      have y3 := Y2_e1.2.1 3 _ rfl
      have p4 := X2_e1.2.1 4 _ rfl
      have y4 := Y2_e1.2.1 4 _ rfl
      have pn := X2_e1.1
      have yn := Y2_e1.1
      go_upto_region 22 with fail
      go_cut [62] (fun b wx => b = .bool false ∧ Below wc.heap.size wc wx)
      case first =>
        go_region_held3 (fun w' => w'.cell? ⟨w.heap.size + 1 + 1, 0, none⟩ = some (.int .i64 t2.front.piece) ∧ w'.cell? ⟨w.heap.size + 1 + 1, 1, none⟩ = some (.int .i64 t2.front.at_) ∧ w'.cell? ⟨w.heap.size + 1 + 1, 2, none⟩ = some (.int .i64 t2.front.way) ∧ w'.cell? ⟨w.heap.size + 1 + 1, 3, none⟩ = some (.int .i64 t2.long) ∧ w'.cell? ⟨w.heap.size + 1 + 1, 4, none⟩ = some (.slice tq2 t2.back.length tk2) ∧ w'.cell? ⟨w_x2.heap.size, 0, none⟩ = some (.int .i64 t2.front.piece) ∧ w'.cell? ⟨w_x2.heap.size, 1, none⟩ = some (.int .i64 t2.front.at_) ∧ w'.cell? ⟨w_x2.heap.size, 2, none⟩ = some (.int .i64 t2.front.way) ∧ w'.cell? ⟨w_x2.heap.size, 3, none⟩ = some (.int .i64 t2.long) ∧ w'.cell? ⟨w_x2.heap.size, 4, none⟩ = some (.slice ya2 t2.back.length t2.back.length)) (((try dsimp only); (repeat' apply And.intro)) <;> (go_keep; done))
          (first
            | (go_at_call 10; refine (toTrain_own _ t2 _ (htt2.below (below_then hbw_e1 (by repeat (first | with_reducible exact Below.refl _ _ | refine Below.setCell ?_ (by first | omega | (simp <;> omega) | (simp [World.setCell] <;> omega)) _ | refine Below.alloc ?_ (by first | omega | (simp <;> omega) | (simp [World.setCell] <;> omega)) _ | refine Below.drew ?_ | refine below_draws ?_ _ | exact Below.refl _ _)))) hbl2).mono ?_; rintro e w_e2a ⟨v_e2a, rfl, hv_e2a, hb_e2a⟩; obtain ⟨hc_e2a, hf_e2a⟩ := bcell hb_e2a; have sz_e2a := hb_e2a.size; (try simp at sz_e2a); have qq0 := hc_e2a (w.heap.size+1+1) (0) (by first | (simp; done) | (simp; omega) | omega); have qq1 := hc_e2a (w.heap.size+1+1) (1) (by first | (simp; done) | (simp; omega) | omega); have qq2 := hc_e2a (w.heap.size+1+1) (2) (by first | (simp; done) | (simp; omega) | omega); have qq3 := hc_e2a (w.heap.size+1+1) (3) (by first | (simp; done) | (simp; omega) | omega); have qq4 := hc_e2a (w.heap.size+1+1) (4) (by first | (simp; done) | (simp; omega) | omega); have qq5 := hc_e2a (w_x2.heap.size) (0) (by first | (simp; done) | (simp; omega) | omega); have qq6 := hc_e2a (w_x2.heap.size) (1) (by first | (simp; done) | (simp; omega) | omega); have qq7 := hc_e2a (w_x2.heap.size) (2) (by first | (simp; done) | (simp; omega) | omega); have qq8 := hc_e2a (w_x2.heap.size) (3) (by first | (simp; done) | (simp; omega) | omega); have qq9 := hc_e2a (w_x2.heap.size) (4) (by first | (simp; done) | (simp; omega) | omega))
            | (go_at_call 14; refine (eqTrain_any _ _ t2 _ hbl2 (fT2_e1.below (below_then (by repeat (first | with_reducible exact Below.refl _ _ | refine Below.setCell ?_ (by first | omega | (simp <;> omega) | (simp [World.setCell] <;> omega)) _ | refine Below.alloc ?_ (by first | omega | (simp <;> omega) | (simp [World.setCell] <;> omega)) _ | refine Below.drew ?_ | refine below_draws ?_ _ | exact Below.refl _ _)) hb_e2a)) hv_e2a.at).mono ?_; rintro e w_e2b ⟨rfl, hb_e2b⟩; obtain ⟨hc_e2b, hf_e2b⟩ := bcell hb_e2b; have rr0 := hc_e2b (w.heap.size+1+1) (0) (by first | (have := hb_e2a.size; omega) | (have := hb_e2a.size; simp at this ⊢; omega) | (simp; omega)); have rr1 := hc_e2b (w.heap.size+1+1) (1) (by first | (have := hb_e2a.size; omega) | (have := hb_e2a.size; simp at this ⊢; omega) | (simp; omega)); have rr2 := hc_e2b (w.heap.size+1+1) (2) (by first | (have := hb_e2a.size; omega) | (have := hb_e2a.size; simp at this ⊢; omega) | (simp; omega)); have rr3 := hc_e2b (w.heap.size+1+1) (3) (by first | (have := hb_e2a.size; omega) | (have := hb_e2a.size; simp at this ⊢; omega) | (simp; omega)); have rr4 := hc_e2b (w.heap.size+1+1) (4) (by first | (have := hb_e2a.size; omega) | (have := hb_e2a.size; simp at this ⊢; omega) | (simp; omega)); have rr5 := hc_e2b (w_x2.heap.size) (0) (by first | (have := hb_e2a.size; omega) | (have := hb_e2a.size; simp at this ⊢; omega) | (simp; omega)); have rr6 := hc_e2b (w_x2.heap.size) (1) (by first | (have := hb_e2a.size; omega) | (have := hb_e2a.size; simp at this ⊢; omega) | (simp; omega)); have rr7 := hc_e2b (w_x2.heap.size) (2) (by first | (have := hb_e2a.size; omega) | (have := hb_e2a.size; simp at this ⊢; omega) | (simp; omega)); have rr8 := hc_e2b (w_x2.heap.size) (3) (by first | (have := hb_e2a.size; omega) | (have := hb_e2a.size; simp at this ⊢; omega) | (simp; omega)); have rr9 := hc_e2b (w_x2.heap.size) (4) (by first | (have := hb_e2a.size; omega) | (have := hb_e2a.size; simp at this ⊢; omega) | (simp; omega))))
        all_goals go_wp2_with fail
        all_goals go_meet
        all_goals exact ⟨rfl, below_then (below_then (by repeat (first | with_reducible exact Below.refl _ _ | refine Below.setCell ?_ (by first | omega | (simp <;> omega) | (simp [World.setCell] <;> omega)) _ | refine Below.alloc ?_ (by first | omega | (simp <;> omega) | (simp [World.setCell] <;> omega)) _ | refine Below.drew ?_ | refine below_draws ?_ _ | exact Below.refl _ _)) hb_e2a) hb_e2b⟩
      case rest =>
        obtain ⟨rfl, hb_e2⟩ := hcut
        clear p0 p1 p2 p3 p4 y0 y1 y2 y3 y4 pn yn
        have hbw_e2 := below_then hbw_e1 hb_e2
        have X0_e2 := X0_e1.below hb_e2
        have X1_e2 := X1_e1.below hb_e2
        have X2_e2 := X2_e1.below hb_e2
        have Y0_e2 := Y0_e1.below hb_e2
        have Y1_e2 := Y1_e1.below hb_e2
        have Y2_e2 := Y2_e1.below hb_e2
        have fN0_e2 := fN0_e1.below hb_e2
        have fT1_e2 := fT1_e1.below hb_e2
        have fS1_e2 := fS1_e1.below hb_e2
        have fT2_e2 := fT2_e1.below hb_e2
        have fS2_e2 := fS2_e1.below hb_e2
        go_wp2
        go_ret
        exact ⟨rfl, hbw_e2⟩

end Go.Proofs.Ytbdggfpfpjijoab

