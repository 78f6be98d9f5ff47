import Derived.Test.YtbdggfpfpjijoabGreatDoorG1
import Derived.Test.YtbdggfpfpjijoabGreatDoorEq
import Derived.Test.YtbdggfpfpjijoabGreatDoorG6
import Derived.Test.YtbdggfpfpjijoabGreatDoorToInts
import Derived.Test.YtbdggfpfpjijoabGreatDoorRow2
import Derived.Test.YtbdggfpfpjijoabGreatDoorG26
import Derived.Test.YtbdggfpfpjijoabGreatDoorG33
namespace Go.Proofs.YtbdggfpfpjijoabGreatDoor
open Go.RowKit

set_option maxRecDepth 100000 in
set_option maxHeartbeats 8000000 in
theorem lawMove_any (v : Value) (n : Nt) (q : Option Addr) (zs : List Int) (cq : Nat) (tv : Value) (t : Tr) (z : Int) (w : World) {L L1 L2 : Nat} (hv : NetAt L w v n) (hl : n.pieces.length ≤ maxLen) (hl' : n.joints.length ≤ maxLen) (hle : ∀ i (h : i < n.joints.length), n.joints[i].name.size ≤ maxLen ∧ n.joints[i].ends.length ≤ maxLen) (hnm : ∀ i (h : i < n.pieces.length), n.pieces[i].name.size ≤ maxLen) (hz : IntsAt L2 w q zs) (htv : TrAt L1 w tv t) (hbt : t.back.length ≤ maxLen) (hgl : GlobAt w) :
    Calls Tryz.prog 3 #[v, .slice q zs.length cq, tv, .int .i64 z] w fun e w' => e = .returned (.bool true) ∧ Below w.heap.size w w' := by
  have hvv := hv
  obtain ⟨a, c, ca, cc, rfl, hp, hj⟩ := hv
  have htt := htv
  obtain ⟨tq, tk, rfl, hts⟩ := htv
  by_cases hbig : 1048576 < (zs.length : Int)
  · go_enter Tryz.func3, Tryz.ntmps3
    go_wp2
    go_ret
    exact ⟨rfl, (by repeat (first | with_reducible exact Below.refl _ _ | refine Below.setCell ?_ (by first | omega | (simp <;> omega) | (simp [World.setCell] <;> omega)) _ | refine Below.alloc ?_ (by first | omega | (simp <;> omega) | (simp [World.setCell] <;> omega)) _ | refine Below.drew ?_ | refine below_draws ?_ _ | exact Below.refl _ _))⟩
  have hzl : zs.length ≤ 1048576 := by omega
  go_enter Tryz.func3, Tryz.ntmps3
  go_wp2_with fail
  refine (szNet_any a c n.pieces n.joints ca cc 1048576 _ (by omega) (by omega) hl (L := L) ?hA hnm hl' ?hB hle).mono ?_
  case hA => exact hp.below (by repeat (first | with_reducible exact Below.refl _ _ | refine Below.setCell ?_ (by first | omega | (simp <;> omega) | (simp [World.setCell] <;> omega)) _ | refine Below.alloc ?_ (by first | omega | (simp <;> omega) | (simp [World.setCell] <;> omega)) _ | refine Below.drew ?_ | refine below_draws ?_ _ | exact Below.refl _ _))
  case hB => exact hj.below (by repeat (first | with_reducible exact Below.refl _ _ | refine Below.setCell ?_ (by first | omega | (simp <;> omega) | (simp [World.setCell] <;> omega)) _ | refine Below.alloc ?_ (by first | omega | (simp <;> omega) | (simp [World.setCell] <;> omega)) _ | refine Below.drew ?_ | refine below_draws ?_ _ | exact Below.refl _ _))
  rintro e w1 ⟨r1, rfl, hr1, hbd1, hb1⟩
  have hbw1 : Below w.heap.size w w1 := below_then (by repeat (first | with_reducible exact Below.refl _ _ | refine Below.setCell ?_ (by first | omega | (simp <;> omega) | (simp [World.setCell] <;> omega)) _ | refine Below.alloc ?_ (by first | omega | (simp <;> omega) | (simp [World.setCell] <;> omega)) _ | refine Below.drew ?_ | refine below_draws ?_ _ | exact Below.refl _ _)) hb1
  have X0_1 : Boxed w1 (w.heap.size) [.slice a n.pieces.length ca, .slice c n.joints.length cc] := ((boxedN _ _ _ (by simp)).alloc _).below hb1
  have X1_1 : Boxed w1 (w.heap.size + 1) [.int .i64 t.front.piece, .int .i64 t.front.at_, .int .i64 t.front.way, .int .i64 t.long, .slice tq t.back.length tk] := (boxedN _ _ _ (by simp)).below hb1
  by_cases hneg1 : r1 < 0
  · go_wp2
    go_ret
    exact ⟨rfl, hbw1⟩
  obtain ⟨k1, k2, k3⟩ := hbd1 (by omega)
  have k1' : n.pieces.length ≤ 1048576 := by omega
  have k2' : n.joints.length ≤ 1048576 := by omega
  have k3' : ∀ i (h : i < n.joints.length), n.joints[i].ends.length ≤ 1048576 := fun i h => by have := k3 i h; omega
  clear k1 k2 k3 hbd1
  have p0 := X1_1.2.1 0 _ rfl
  have p1 := X1_1.2.1 1 _ rfl
  have p2 := X1_1.2.1 2 _ rfl
  have p3 := X1_1.2.1 3 _ rfl
  have p4 := X1_1.2.1 4 _ rfl
  go_wp2_with fail
  refine (szTrain_any _ t r1 _ (by omega) (by omega) (htt.below hbw1) hbt).mono ?_
  rintro e w2 ⟨r2, rfl, hr2, hbd2, hb2⟩
  have hbw2 := below_then hbw1 hb2
  have X0_2 := X0_1.below hb2
  have X1_2 := X1_1.below hb2
  clear p0 p1 p2 p3 p4
  by_cases hneg2 : r2 < 0
  · go_wp2
    go_ret
    exact ⟨rfl, hbw2⟩
  have hbl : t.back.length ≤ 1048576 := by have := hbd2 (by omega); omega
  clear hbd2
  have HK := hide k3'
  have HLE := hide hle
  have HNM := hide hnm
  clear k3' hle hnm
  have p0_0 := X0_2.2.1 0 _ rfl
  have p0_1 := X0_2.2.1 1 _ rfl
  have pn0 := X0_2.1
  have p1_0 := X1_2.2.1 0 _ rfl
  have p1_1 := X1_2.2.1 1 _ rfl
  have p1_2 := X1_2.2.1 2 _ rfl
  have p1_3 := X1_2.2.1 3 _ rfl
  have p1_4 := X1_2.2.1 4 _ rfl
  have pn1 := X1_2.1
  have eg0 : ¬ w2.heap.size = w.heap.size := by omega
  have fg0 : ¬ w.heap.size = w2.heap.size := by omega
  have eg1 : ¬ w2.heap.size = w.heap.size + 1 := by omega
  have fg1 : ¬ w.heap.size + 1 = w2.heap.size := by omega
  go_upto_region 10 with fail
  go_cut [10] (fun p wx => ∃ (B : Nat) (u : MvA) (pa : Option Addr) (pcap : Nat) (oa : Option Addr) (ocap : Nat), p = .pointer (some ⟨B, 0, none⟩) ∧ w2.heap.size ≤ B ∧ Hid (MvIs n zs t z u) ∧ Boxed wx B [.int .i64 u.code, .int .i64 u.far, .int .i64 u.joint, .int .i64 u.tr.front.piece, .int .i64 u.tr.front.at_, .int .i64 u.tr.front.way, .int .i64 u.tr.long, .slice pa u.tr.back.length pcap, .slice oa u.over.length ocap] ∧ Hid (StRow wx w2.heap.size (.slice pa u.tr.back.length pcap) u.tr.back) ∧ Hid (PtRow wx w2.heap.size (.slice oa u.over.length ocap) u.over) ∧ (∀ k, (Value.slice pa u.tr.back.length pcap).ownBlock = some k → k ≠ B) ∧ (∀ k, (Value.slice oa u.over.length ocap).ownBlock = some k → k ≠ B) ∧ Below w2.heap.size w2 wx)
  case first =>
    go_region_held3 (fun w' => w'.cell? ⟨w.heap.size, 0, none⟩ = some (.slice a n.pieces.length ca) ∧ w'.cell? ⟨w.heap.size, 1, none⟩ = some (.slice c n.joints.length cc) ∧ w'.cell? ⟨w.heap.size + 1, 0, none⟩ = some (.int .i64 t.front.piece) ∧ w'.cell? ⟨w.heap.size + 1, 1, none⟩ = some (.int .i64 t.front.at_) ∧ w'.cell? ⟨w.heap.size + 1, 2, none⟩ = some (.int .i64 t.front.way) ∧ w'.cell? ⟨w.heap.size + 1, 3, none⟩ = some (.int .i64 t.long) ∧ w'.cell? ⟨w.heap.size + 1, 4, none⟩ = some (.slice tq t.back.length tk)) (((try dsimp only); (repeat' apply And.intro)) <;> (go_keep; done))
      (first
        | (go_at_call 9; refine (toNet_any _ n _ (hvv.below (below_then hbw2 ?_)) k1' k2' (unhide HK)).mono ?_; (first | exact (by repeat (first | with_reducible exact Below.refl _ _ | refine Below.setCell ?_ (by first | omega | (simp <;> omega) | (simp [World.setCell] <;> omega)) _ | refine Below.alloc ?_ (by first | omega | (simp <;> omega) | (simp [World.setCell] <;> omega)) _ | refine Below.drew ?_ | refine below_draws ?_ _ | exact Below.refl _ _))); rintro e w_g0 ⟨g0v, rfl, hg0v, hbg0⟩; obtain ⟨hcg0, hfg0⟩ := bcell hbg0; have szg0 := hbg0.size; (try simp at szg0); (try have ltg0 := Nat.lt_of_succ_le szg0); have ng0_0 : ¬ w_g0.heap.size = w.heap.size := (by omega); have mg0_0 : ¬ w.heap.size = w_g0.heap.size := (by omega); have ng0_1 : ¬ w_g0.heap.size = w.heap.size + 1 := (by omega); have mg0_1 : ¬ w.heap.size + 1 = w_g0.heap.size := (by omega); have qg0_0 := hcg0 (w.heap.size) (0) (by first | (simp; done) | (simp; omega) | omega); have qg0_1 := hcg0 (w.heap.size) (1) (by first | (simp; done) | (simp; omega) | omega); have qg0_2 := hcg0 (w.heap.size+1) (0) (by first | (simp; done) | (simp; omega) | omega); have qg0_3 := hcg0 (w.heap.size+1) (1) (by first | (simp; done) | (simp; omega) | omega); have qg0_4 := hcg0 (w.heap.size+1) (2) (by first | (simp; done) | (simp; omega) | omega); have qg0_5 := hcg0 (w.heap.size+1) (3) (by first | (simp; done) | (simp; omega) | omega); have qg0_6 := hcg0 (w.heap.size+1) (4) (by first | (simp; done) | (simp; omega) | omega))
        | (go_at_call 10; refine (toIntS_any _ zs _ _ hzl (hz.below (below_then hbw2 ?_))).mono ?_; (first | exact (below_then (by repeat (first | with_reducible exact Below.refl _ _ | refine Below.setCell ?_ (by first | omega | (simp <;> omega) | (simp [World.setCell] <;> omega)) _ | refine Below.alloc ?_ (by first | omega | (simp <;> omega) | (simp [World.setCell] <;> omega)) _ | refine Below.drew ?_ | refine below_draws ?_ _ | exact Below.refl _ _)) hbg0) | exact (below_then (below_then (by repeat (first | with_reducible exact Below.refl _ _ | refine Below.setCell ?_ (by first | omega | (simp <;> omega) | (simp [World.setCell] <;> omega)) _ | refine Below.alloc ?_ (by first | omega | (simp <;> omega) | (simp [World.setCell] <;> omega)) _ | refine Below.drew ?_ | refine below_draws ?_ _ | exact Below.refl _ _)) hbg0) (by repeat (first | with_reducible exact Below.refl _ _ | refine Below.setCell ?_ (by first | omega | (simp <;> omega) | (simp [World.setCell] <;> omega)) _ | refine Below.alloc ?_ (by first | omega | (simp <;> omega) | (simp [World.setCell] <;> omega)) _ | refine Below.drew ?_ | refine below_draws ?_ _ | exact Below.refl _ _)))); rintro e w_g1 ⟨g1v, rfl, hg1v, hbg1⟩; obtain ⟨hcg1, hfg1⟩ := bcell hbg1; have szg1 := hbg1.size; (try simp at szg1); (try have ltg1 := Nat.lt_of_succ_le szg1); have ng1_0 : ¬ w_g1.heap.size = w.heap.size := (by omega); have mg1_0 : ¬ w.heap.size = w_g1.heap.size := (by omega); have ng1_1 : ¬ w_g1.heap.size = w.heap.size + 1 := (by omega); have mg1_1 : ¬ w.heap.size + 1 = w_g1.heap.size := (by omega); have qg1_0 := hcg1 (w.heap.size) (0) (by first | (have := hbg0.size; omega) | (have := hbg0.size; simp at this ⊢; omega) | (simp; omega)); have qg1_1 := hcg1 (w.heap.size) (1) (by first | (have := hbg0.size; omega) | (have := hbg0.size; simp at this ⊢; omega) | (simp; omega)); have qg1_2 := hcg1 (w.heap.size+1) (0) (by first | (have := hbg0.size; omega) | (have := hbg0.size; simp at this ⊢; omega) | (simp; omega)); have qg1_3 := hcg1 (w.heap.size+1) (1) (by first | (have := hbg0.size; omega) | (have := hbg0.size; simp at this ⊢; omega) | (simp; omega)); have qg1_4 := hcg1 (w.heap.size+1) (2) (by first | (have := hbg0.size; omega) | (have := hbg0.size; simp at this ⊢; omega) | (simp; omega)); have qg1_5 := hcg1 (w.heap.size+1) (3) (by first | (have := hbg0.size; omega) | (have := hbg0.size; simp at this ⊢; omega) | (simp; omega)); have qg1_6 := hcg1 (w.heap.size+1) (4) (by first | (have := hbg0.size; omega) | (have := hbg0.size; simp at this ⊢; omega) | (simp; omega)); (try have ltg0 := Nat.lt_of_lt_of_le ltg0 szg1))
        | (go_at_call 11; refine (toTrain_own _ t _ (htt.below (below_then hbw2 ?_)) hbl).mono ?_; (first | exact (below_then (below_then (by repeat (first | with_reducible exact Below.refl _ _ | refine Below.setCell ?_ (by first | omega | (simp <;> omega) | (simp [World.setCell] <;> omega)) _ | refine Below.alloc ?_ (by first | omega | (simp <;> omega) | (simp [World.setCell] <;> omega)) _ | refine Below.drew ?_ | refine below_draws ?_ _ | exact Below.refl _ _)) hbg0) hbg1) | exact (below_then (below_then (below_then (by repeat (first | with_reducible exact Below.refl _ _ | refine Below.setCell ?_ (by first | omega | (simp <;> omega) | (simp [World.setCell] <;> omega)) _ | refine Below.alloc ?_ (by first | omega | (simp <;> omega) | (simp [World.setCell] <;> omega)) _ | refine Below.drew ?_ | refine below_draws ?_ _ | exact Below.refl _ _)) hbg0) (by repeat (first | with_reducible exact Below.refl _ _ | refine Below.setCell ?_ (by first | omega | (simp <;> omega) | (simp [World.setCell] <;> omega)) _ | refine Below.alloc ?_ (by first | omega | (simp <;> omega) | (simp [World.setCell] <;> omega)) _ | refine Below.drew ?_ | refine below_draws ?_ _ | exact Below.refl _ _))) hbg1) | exact (below_then (below_then (below_then (by repeat (first | with_reducible exact Below.refl _ _ | refine Below.setCell ?_ (by first | omega | (simp <;> omega) | (simp [World.setCell] <;> omega)) _ | refine Below.alloc ?_ (by first | omega | (simp <;> omega) | (simp [World.setCell] <;> omega)) _ | refine Below.drew ?_ | refine below_draws ?_ _ | exact Below.refl _ _)) hbg0) hbg1) (by repeat (first | with_reducible exact Below.refl _ _ | refine Below.setCell ?_ (by first | omega | (simp <;> omega) | (simp [World.setCell] <;> omega)) _ | refine Below.alloc ?_ (by first | omega | (simp <;> omega) | (simp [World.setCell] <;> omega)) _ | refine Below.drew ?_ | refine below_draws ?_ _ | exact Below.refl _ _)))); rintro e w_g2 ⟨g2v, rfl, hg2v, hbg2⟩; obtain ⟨hcg2, hfg2⟩ := bcell hbg2; have szg2 := hbg2.size; (try simp at szg2); (try have ltg2 := Nat.lt_of_succ_le szg2); have ng2_0 : ¬ w_g2.heap.size = w.heap.size := (by omega); have mg2_0 : ¬ w.heap.size = w_g2.heap.size := (by omega); have ng2_1 : ¬ w_g2.heap.size = w.heap.size + 1 := (by omega); have mg2_1 : ¬ w.heap.size + 1 = w_g2.heap.size := (by omega); have qg2_0 := hcg2 (w.heap.size) (0) (by first | (have := hbg0.size; have := hbg1.size; omega) | (have := hbg0.size; have := hbg1.size; simp at this ⊢; omega) | (simp; omega)); have qg2_1 := hcg2 (w.heap.size) (1) (by first | (have := hbg0.size; have := hbg1.size; omega) | (have := hbg0.size; have := hbg1.size; simp at this ⊢; omega) | (simp; omega)); have qg2_2 := hcg2 (w.heap.size+1) (0) (by first | (have := hbg0.size; have := hbg1.size; omega) | (have := hbg0.size; have := hbg1.size; simp at this ⊢; omega) | (simp; omega)); have qg2_3 := hcg2 (w.heap.size+1) (1) (by first | (have := hbg0.size; have := hbg1.size; omega) | (have := hbg0.size; have := hbg1.size; simp at this ⊢; omega) | (simp; omega)); have qg2_4 := hcg2 (w.heap.size+1) (2) (by first | (have := hbg0.size; have := hbg1.size; omega) | (have := hbg0.size; have := hbg1.size; simp at this ⊢; omega) | (simp; omega)); have qg2_5 := hcg2 (w.heap.size+1) (3) (by first | (have := hbg0.size; have := hbg1.size; omega) | (have := hbg0.size; have := hbg1.size; simp at this ⊢; omega) | (simp; omega)); have qg2_6 := hcg2 (w.heap.size+1) (4) (by first | (have := hbg0.size; have := hbg1.size; omega) | (have := hbg0.size; have := hbg1.size; simp at this ⊢; omega) | (simp; omega)); (try have ltg0 := Nat.lt_of_lt_of_le ltg0 szg2); (try have ltg1 := Nat.lt_of_lt_of_le ltg1 szg2))
        | (go_at_call 8; refine (specMove_law _ _ n _ zs _ t z _ (hg0v.below ?_) (hg1v.below ?_) ((hg2v.at).below ?_) hbl k1' k2' (fun i h => ⟨unhide HK i h, (unhide HLE i h).1⟩) (unhide HNM)).mono ?_; (first | exact (below_then hbg1 hbg2) | exact (below_then (below_then (by repeat (first | with_reducible exact Below.refl _ _ | refine Below.setCell ?_ (by first | omega | (simp <;> omega) | (simp [World.setCell] <;> omega)) _ | refine Below.alloc ?_ (by first | omega | (simp <;> omega) | (simp [World.setCell] <;> omega)) _ | refine Below.drew ?_ | refine below_draws ?_ _ | exact Below.refl _ _)) hbg1) hbg2) | exact (below_then (below_then hbg1 (by repeat (first | with_reducible exact Below.refl _ _ | refine Below.setCell ?_ (by first | omega | (simp <;> omega) | (simp [World.setCell] <;> omega)) _ | refine Below.alloc ?_ (by first | omega | (simp <;> omega) | (simp [World.setCell] <;> omega)) _ | refine Below.drew ?_ | refine below_draws ?_ _ | exact Below.refl _ _))) hbg2) | exact (below_then (below_then hbg1 hbg2) (by repeat (first | with_reducible exact Below.refl _ _ | refine Below.setCell ?_ (by first | omega | (simp <;> omega) | (simp [World.setCell] <;> omega)) _ | refine Below.alloc ?_ (by first | omega | (simp <;> omega) | (simp [World.setCell] <;> omega)) _ | refine Below.drew ?_ | refine below_draws ?_ _ | exact Below.refl _ _)))); (first | exact hbg2 | exact (below_then (by repeat (first | with_reducible exact Below.refl _ _ | refine Below.setCell ?_ (by first | omega | (simp <;> omega) | (simp [World.setCell] <;> omega)) _ | refine Below.alloc ?_ (by first | omega | (simp <;> omega) | (simp [World.setCell] <;> omega)) _ | refine Below.drew ?_ | refine below_draws ?_ _ | exact Below.refl _ _)) hbg2) | exact (below_then hbg2 (by repeat (first | with_reducible exact Below.refl _ _ | refine Below.setCell ?_ (by first | omega | (simp <;> omega) | (simp [World.setCell] <;> omega)) _ | refine Below.alloc ?_ (by first | omega | (simp <;> omega) | (simp [World.setCell] <;> omega)) _ | refine Below.drew ?_ | refine below_draws ?_ _ | exact Below.refl _ _)))); (first | exact (by repeat (first | with_reducible exact Below.refl _ _ | refine Below.setCell ?_ (by first | omega | (simp <;> omega) | (simp [World.setCell] <;> omega)) _ | refine Below.alloc ?_ (by first | omega | (simp <;> omega) | (simp [World.setCell] <;> omega)) _ | refine Below.drew ?_ | refine below_draws ?_ _ | exact Below.refl _ _))); rintro e w_gs ⟨⟨u, pa, pcap, oa, ocap, hans, rfl, hrow0, hrow1⟩, hbgs⟩; have HANS := hide hans; have HROW0 := hide hrow0; have HROW1 := hide hrow1; clear hans hrow0 hrow1; obtain ⟨hcgs, hfgs⟩ := bcell hbgs; have szgs := hbgs.size; (try simp at szgs); (try have ltgs := Nat.lt_of_succ_le szgs); have ngs_0 : ¬ w_gs.heap.size = w.heap.size := (by omega); have mgs_0 : ¬ w.heap.size = w_gs.heap.size := (by omega); have ngs_1 : ¬ w_gs.heap.size = w.heap.size + 1 := (by omega); have mgs_1 : ¬ w.heap.size + 1 = w_gs.heap.size := (by omega); have qgs_0 := hcgs (w.heap.size) (0) (by first | (have := hbg0.size; have := hbg1.size; have := hbg2.size; omega) | (have := hbg0.size; have := hbg1.size; have := hbg2.size; simp at this ⊢; omega) | (simp; omega)); have qgs_1 := hcgs (w.heap.size) (1) (by first | (have := hbg0.size; have := hbg1.size; have := hbg2.size; omega) | (have := hbg0.size; have := hbg1.size; have := hbg2.size; simp at this ⊢; omega) | (simp; omega)); have qgs_2 := hcgs (w.heap.size+1) (0) (by first | (have := hbg0.size; have := hbg1.size; have := hbg2.size; omega) | (have := hbg0.size; have := hbg1.size; have := hbg2.size; simp at this ⊢; omega) | (simp; omega)); have qgs_3 := hcgs (w.heap.size+1) (1) (by first | (have := hbg0.size; have := hbg1.size; have := hbg2.size; omega) | (have := hbg0.size; have := hbg1.size; have := hbg2.size; simp at this ⊢; omega) | (simp; omega)); have qgs_4 := hcgs (w.heap.size+1) (2) (by first | (have := hbg0.size; have := hbg1.size; have := hbg2.size; omega) | (have := hbg0.size; have := hbg1.size; have := hbg2.size; simp at this ⊢; omega) | (simp; omega)); have qgs_5 := hcgs (w.heap.size+1) (3) (by first | (have := hbg0.size; have := hbg1.size; have := hbg2.size; omega) | (have := hbg0.size; have := hbg1.size; have := hbg2.size; simp at this ⊢; omega) | (simp; omega)); have qgs_6 := hcgs (w.heap.size+1) (4) (by first | (have := hbg0.size; have := hbg1.size; have := hbg2.size; omega) | (have := hbg0.size; have := hbg1.size; have := hbg2.size; simp at this ⊢; omega) | (simp; omega)); (try have ltg0 := Nat.lt_of_lt_of_le ltg0 szgs); (try have ltg1 := Nat.lt_of_lt_of_le ltg1 szgs); (try have ltg2 := Nat.lt_of_lt_of_le ltg2 szgs)))
    all_goals go_wp2_with fail
    all_goals go_meet
    · have hw : Below w2.heap.size w2 w_gs := (below_then (below_then (below_then (below_then (by repeat (first | with_reducible exact Below.refl _ _ | refine Below.setCell ?_ (by first | omega | (simp <;> omega) | (simp [World.setCell] <;> omega)) _ | refine Below.alloc ?_ (by first | omega | (simp <;> omega) | (simp [World.setCell] <;> omega)) _ | refine Below.drew ?_ | refine below_draws ?_ _ | exact Below.refl _ _)) hbg0) hbg1) hbg2) hbgs)
      have hws := hw.size
      have hlt0 := (unhide HROW0).lt
      have hlt1 := (unhide HROW1).lt
      exact ⟨_, u, pa, pcap, oa, ocap, rfl, by omega, HANS, boxed_alloc _ _ _, hide (((unhide HROW0).below (by repeat (first | with_reducible exact Below.refl _ _ | refine Below.setCell ?_ (by first | omega | (simp <;> omega) | (simp [World.setCell] <;> omega)) _ | refine Below.alloc ?_ (by first | omega | (simp <;> omega) | (simp [World.setCell] <;> omega)) _ | refine Below.drew ?_ | refine below_draws ?_ _ | exact Below.refl _ _))).mono (by first | omega | (simp; omega))), hide (((unhide HROW1).below (by repeat (first | with_reducible exact Below.refl _ _ | refine Below.setCell ?_ (by first | omega | (simp <;> omega) | (simp [World.setCell] <;> omega)) _ | refine Below.alloc ?_ (by first | omega | (simp <;> omega) | (simp [World.setCell] <;> omega)) _ | refine Below.drew ?_ | refine below_draws ?_ _ | exact Below.refl _ _))).mono (by first | omega | (simp; omega))), fun k hk => by have := (hlt0 k hk).2; omega, fun k hk => by have := (hlt1 k hk).2; omega, below_then hw (by repeat (first | with_reducible exact Below.refl _ _ | refine Below.setCell ?_ (by first | omega | (simp <;> omega) | (simp [World.setCell] <;> omega)) _ | refine Below.alloc ?_ (by first | omega | (simp <;> omega) | (simp [World.setCell] <;> omega)) _ | refine Below.drew ?_ | refine below_draws ?_ _ | exact Below.refl _ _))⟩
    · have hZ : Boxed w_gs (w_g2.heap.size) [.int .i64 0, .int .i64 0, .int .i64 0, .int .i64 0, .int .i64 0, .int .i64 0, .int .i64 0, .slice none 0 0, .slice none 0 0] := ((boxed_alloc _ _ _).below hbgs)
      have hw : Below w2.heap.size w2 w_gs := (below_then (below_then (below_then (below_then (below_then (by repeat (first | with_reducible exact Below.refl _ _ | refine Below.setCell ?_ (by first | omega | (simp <;> omega) | (simp [World.setCell] <;> omega)) _ | refine Below.alloc ?_ (by first | omega | (simp <;> omega) | (simp [World.setCell] <;> omega)) _ | refine Below.drew ?_ | refine below_draws ?_ _ | exact Below.refl _ _)) hbg0) hbg1) hbg2) (by repeat (first | with_reducible exact Below.refl _ _ | refine Below.setCell ?_ (by first | omega | (simp <;> omega) | (simp [World.setCell] <;> omega)) _ | refine Below.alloc ?_ (by first | omega | (simp <;> omega) | (simp [World.setCell] <;> omega)) _ | refine Below.drew ?_ | refine below_draws ?_ _ | exact Below.refl _ _))) hbgs)
      have hlt0 := (unhide HROW0).lt
      have hlt1 := (unhide HROW1).lt
      have hzl2 := hZ.1
      have hbl : w2.heap.size ≤ w_g2.heap.size := by have := hbg0.size; have := hbg1.size; have := hbg2.size; omega
      have hbB0 : ∀ k, (Value.slice pa u.tr.back.length pcap).ownBlock = some k → w_g2.heap.size < k := fun k hk => by have := (hlt0 k hk).1;  simp at *; omega
      have hbB1 : ∀ k, (Value.slice oa u.over.length ocap).ownBlock = some k → w_g2.heap.size < k := fun k hk => by have := (hlt1 k hk).1;  simp at *; omega
      refine ⟨_, u, pa, pcap, oa, ocap, rfl, hbl, HANS, (((((((((hZ.set (i := 0) (by simp) (.int .i64 u.code)).set (i := 1) (by simp) (.int .i64 u.far)).set (i := 2) (by simp) (.int .i64 u.joint)).set (i := 3) (by simp) (.int .i64 u.tr.front.piece)).set (i := 4) (by simp) (.int .i64 u.tr.front.at_)).set (i := 5) (by simp) (.int .i64 u.tr.front.way)).set (i := 6) (by simp) (.int .i64 u.tr.long)).set (i := 7) (by simp) (.slice pa u.tr.back.length pcap)).set (i := 8) (by simp) (.slice oa u.over.length ocap)), ?row0, ?row1, fun k hk => by have := hbB0 k hk; omega, fun k hk => by have := hbB1 k hk; omega, (((((((((hw.setCell (p := ⟨w_g2.heap.size, 0, none⟩) hbl (.int .i64 u.code)).setCell (p := ⟨w_g2.heap.size, 1, none⟩) hbl (.int .i64 u.far)).setCell (p := ⟨w_g2.heap.size, 2, none⟩) hbl (.int .i64 u.joint)).setCell (p := ⟨w_g2.heap.size, 3, none⟩) hbl (.int .i64 u.tr.front.piece)).setCell (p := ⟨w_g2.heap.size, 4, none⟩) hbl (.int .i64 u.tr.front.at_)).setCell (p := ⟨w_g2.heap.size, 5, none⟩) hbl (.int .i64 u.tr.front.way)).setCell (p := ⟨w_g2.heap.size, 6, none⟩) hbl (.int .i64 u.tr.long)).setCell (p := ⟨w_g2.heap.size, 7, none⟩) hbl (.slice pa u.tr.back.length pcap)).setCell (p := ⟨w_g2.heap.size, 8, none⟩) hbl (.slice oa u.over.length ocap))⟩
      case row0 =>
        refine hide (((unhide HROW0).mono ?_).block fun k hk => ?_)
        · have := hbg0.size; have := hbg1.size; have := hbg2.size; first | omega | (simp at *; omega)
        · have hne : k ≠ w_g2.heap.size := by have := hbB0 k hk; omega
          rw [Below.heap_setCell _ _ _ k (by simpa using hne), Below.heap_setCell _ _ _ k (by simpa using hne), Below.heap_setCell _ _ _ k (by simpa using hne), Below.heap_setCell _ _ _ k (by simpa using hne), Below.heap_setCell _ _ _ k (by simpa using hne), Below.heap_setCell _ _ _ k (by simpa using hne), Below.heap_setCell _ _ _ k (by simpa using hne), Below.heap_setCell _ _ _ k (by simpa using hne), Below.heap_setCell _ _ _ k (by simpa using hne)]
      case row1 =>
        refine hide (((unhide HROW1).mono ?_).block fun k hk => ?_)
        · have := hbg0.size; have := hbg1.size; have := hbg2.size; first | omega | (simp at *; omega)
        · have hne : k ≠ w_g2.heap.size := by have := hbB1 k hk; omega
          rw [Below.heap_setCell _ _ _ k (by simpa using hne), Below.heap_setCell _ _ _ k (by simpa using hne), Below.heap_setCell _ _ _ k (by simpa using hne), Below.heap_setCell _ _ _ k (by simpa using hne), Below.heap_setCell _ _ _ k (by simpa using hne), Below.heap_setCell _ _ _ k (by simpa using hne), Below.heap_setCell _ _ _ k (by simpa using hne), Below.heap_setCell _ _ _ k (by simpa using hne), Below.heap_setCell _ _ _ k (by simpa using hne)]
    · have hZ : Boxed w_gs (w_g1.heap.size) [.int .i64 0, .int .i64 0, .int .i64 0, .int .i64 0, .int .i64 0, .int .i64 0, .int .i64 0, .slice none 0 0, .slice none 0 0] := (((boxed_alloc _ _ _).below hbg2).below hbgs)
      have hw : Below w2.heap.size w2 w_gs := (below_then (below_then (below_then (below_then (below_then (by repeat (first | with_reducible exact Below.refl _ _ | refine Below.setCell ?_ (by first | omega | (simp <;> omega) | (simp [World.setCell] <;> omega)) _ | refine Below.alloc ?_ (by first | omega | (simp <;> omega) | (simp [World.setCell] <;> omega)) _ | refine Below.drew ?_ | refine below_draws ?_ _ | exact Below.refl _ _)) hbg0) hbg1) (by repeat (first | with_reducible exact Below.refl _ _ | refine Below.setCell ?_ (by first | omega | (simp <;> omega) | (simp [World.setCell] <;> omega)) _ | refine Below.alloc ?_ (by first | omega | (simp <;> omega) | (simp [World.setCell] <;> omega)) _ | refine Below.drew ?_ | refine below_draws ?_ _ | exact Below.refl _ _))) hbg2) hbgs)
      have hlt0 := (unhide HROW0).lt
      have hlt1 := (unhide HROW1).lt
      have hzl2 := hZ.1
      have hbl : w2.heap.size ≤ w_g1.heap.size := by have := hbg0.size; have := hbg1.size; omega
      have hbB0 : ∀ k, (Value.slice pa u.tr.back.length pcap).ownBlock = some k → w_g1.heap.size < k := fun k hk => by have := (hlt0 k hk).1; have := hbg2.size; simp at *; omega
      have hbB1 : ∀ k, (Value.slice oa u.over.length ocap).ownBlock = some k → w_g1.heap.size < k := fun k hk => by have := (hlt1 k hk).1; have := hbg2.size; simp at *; omega
      refine ⟨_, u, pa, pcap, oa, ocap, rfl, hbl, HANS, (((((((((hZ.set (i := 0) (by simp) (.int .i64 u.code)).set (i := 1) (by simp) (.int .i64 u.far)).set (i := 2) (by simp) (.int .i64 u.joint)).set (i := 3) (by simp) (.int .i64 u.tr.front.piece)).set (i := 4) (by simp) (.int .i64 u.tr.front.at_)).set (i := 5) (by simp) (.int .i64 u.tr.front.way)).set (i := 6) (by simp) (.int .i64 u.tr.long)).set (i := 7) (by simp) (.slice pa u.tr.back.length pcap)).set (i := 8) (by simp) (.slice oa u.over.length ocap)), ?row0, ?row1, fun k hk => by have := hbB0 k hk; omega, fun k hk => by have := hbB1 k hk; omega, (((((((((hw.setCell (p := ⟨w_g1.heap.size, 0, none⟩) hbl (.int .i64 u.code)).setCell (p := ⟨w_g1.heap.size, 1, none⟩) hbl (.int .i64 u.far)).setCell (p := ⟨w_g1.heap.size, 2, none⟩) hbl (.int .i64 u.joint)).setCell (p := ⟨w_g1.heap.size, 3, none⟩) hbl (.int .i64 u.tr.front.piece)).setCell (p := ⟨w_g1.heap.size, 4, none⟩) hbl (.int .i64 u.tr.front.at_)).setCell (p := ⟨w_g1.heap.size, 5, none⟩) hbl (.int .i64 u.tr.front.way)).setCell (p := ⟨w_g1.heap.size, 6, none⟩) hbl (.int .i64 u.tr.long)).setCell (p := ⟨w_g1.heap.size, 7, none⟩) hbl (.slice pa u.tr.back.length pcap)).setCell (p := ⟨w_g1.heap.size, 8, none⟩) hbl (.slice oa u.over.length ocap))⟩
      case row0 =>
        refine hide (((unhide HROW0).mono ?_).block fun k hk => ?_)
        · have := hbg0.size; have := hbg1.size; have := hbg2.size; first | omega | (simp at *; omega)
        · have hne : k ≠ w_g1.heap.size := by have := hbB0 k hk; omega
          rw [Below.heap_setCell _ _ _ k (by simpa using hne), Below.heap_setCell _ _ _ k (by simpa using hne), Below.heap_setCell _ _ _ k (by simpa using hne), Below.heap_setCell _ _ _ k (by simpa using hne), Below.heap_setCell _ _ _ k (by simpa using hne), Below.heap_setCell _ _ _ k (by simpa using hne), Below.heap_setCell _ _ _ k (by simpa using hne), Below.heap_setCell _ _ _ k (by simpa using hne), Below.heap_setCell _ _ _ k (by simpa using hne)]
      case row1 =>
        refine hide (((unhide HROW1).mono ?_).block fun k hk => ?_)
        · have := hbg0.size; have := hbg1.size; have := hbg2.size; first | omega | (simp at *; omega)
        · have hne : k ≠ w_g1.heap.size := by have := hbB1 k hk; omega
          rw [Below.heap_setCell _ _ _ k (by simpa using hne), Below.heap_setCell _ _ _ k (by simpa using hne), Below.heap_setCell _ _ _ k (by simpa using hne), Below.heap_setCell _ _ _ k (by simpa using hne), Below.heap_setCell _ _ _ k (by simpa using hne), Below.heap_setCell _ _ _ k (by simpa using hne), Below.heap_setCell _ _ _ k (by simpa using hne), Below.heap_setCell _ _ _ k (by simpa using hne), Below.heap_setCell _ _ _ k (by simpa using hne)]
    · have hZ : Boxed w_gs (w_g0.heap.size) [.int .i64 0, .int .i64 0, .int .i64 0, .int .i64 0, .int .i64 0, .int .i64 0, .int .i64 0, .slice none 0 0, .slice none 0 0] := ((((boxed_alloc _ _ _).below hbg1).below hbg2).below hbgs)
      have hw : Below w2.heap.size w2 w_gs := (below_then (below_then (below_then (below_then (below_then (by repeat (first | with_reducible exact Below.refl _ _ | refine Below.setCell ?_ (by first | omega | (simp <;> omega) | (simp [World.setCell] <;> omega)) _ | refine Below.alloc ?_ (by first | omega | (simp <;> omega) | (simp [World.setCell] <;> omega)) _ | refine Below.drew ?_ | refine below_draws ?_ _ | exact Below.refl _ _)) hbg0) (by repeat (first | with_reducible exact Below.refl _ _ | refine Below.setCell ?_ (by first | omega | (simp <;> omega) | (simp [World.setCell] <;> omega)) _ | refine Below.alloc ?_ (by first | omega | (simp <;> omega) | (simp [World.setCell] <;> omega)) _ | refine Below.drew ?_ | refine below_draws ?_ _ | exact Below.refl _ _))) hbg1) hbg2) hbgs)
      have hlt0 := (unhide HROW0).lt
      have hlt1 := (unhide HROW1).lt
      have hzl2 := hZ.1
      have hbl : w2.heap.size ≤ w_g0.heap.size := by have := hbg0.size; omega
      have hbB0 : ∀ k, (Value.slice pa u.tr.back.length pcap).ownBlock = some k → w_g0.heap.size < k := fun k hk => by have := (hlt0 k hk).1; have := hbg1.size; have := hbg2.size; simp at *; omega
      have hbB1 : ∀ k, (Value.slice oa u.over.length ocap).ownBlock = some k → w_g0.heap.size < k := fun k hk => by have := (hlt1 k hk).1; have := hbg1.size; have := hbg2.size; simp at *; omega
      refine ⟨_, u, pa, pcap, oa, ocap, rfl, hbl, HANS, (((((((((hZ.set (i := 0) (by simp) (.int .i64 u.code)).set (i := 1) (by simp) (.int .i64 u.far)).set (i := 2) (by simp) (.int .i64 u.joint)).set (i := 3) (by simp) (.int .i64 u.tr.front.piece)).set (i := 4) (by simp) (.int .i64 u.tr.front.at_)).set (i := 5) (by simp) (.int .i64 u.tr.front.way)).set (i := 6) (by simp) (.int .i64 u.tr.long)).set (i := 7) (by simp) (.slice pa u.tr.back.length pcap)).set (i := 8) (by simp) (.slice oa u.over.length ocap)), ?row0, ?row1, fun k hk => by have := hbB0 k hk; omega, fun k hk => by have := hbB1 k hk; omega, (((((((((hw.setCell (p := ⟨w_g0.heap.size, 0, none⟩) hbl (.int .i64 u.code)).setCell (p := ⟨w_g0.heap.size, 1, none⟩) hbl (.int .i64 u.far)).setCell (p := ⟨w_g0.heap.size, 2, none⟩) hbl (.int .i64 u.joint)).setCell (p := ⟨w_g0.heap.size, 3, none⟩) hbl (.int .i64 u.tr.front.piece)).setCell (p := ⟨w_g0.heap.size, 4, none⟩) hbl (.int .i64 u.tr.front.at_)).setCell (p := ⟨w_g0.heap.size, 5, none⟩) hbl (.int .i64 u.tr.front.way)).setCell (p := ⟨w_g0.heap.size, 6, none⟩) hbl (.int .i64 u.tr.long)).setCell (p := ⟨w_g0.heap.size, 7, none⟩) hbl (.slice pa u.tr.back.length pcap)).setCell (p := ⟨w_g0.heap.size, 8, none⟩) hbl (.slice oa u.over.length ocap))⟩
      case row0 =>
        refine hide (((unhide HROW0).mono ?_).block fun k hk => ?_)
        · have := hbg0.size; have := hbg1.size; have := hbg2.size; first | omega | (simp at *; omega)
        · have hne : k ≠ w_g0.heap.size := by have := hbB0 k hk; omega
          rw [Below.heap_setCell _ _ _ k (by simpa using hne), Below.heap_setCell _ _ _ k (by simpa using hne), Below.heap_setCell _ _ _ k (by simpa using hne), Below.heap_setCell _ _ _ k (by simpa using hne), Below.heap_setCell _ _ _ k (by simpa using hne), Below.heap_setCell _ _ _ k (by simpa using hne), Below.heap_setCell _ _ _ k (by simpa using hne), Below.heap_setCell _ _ _ k (by simpa using hne), Below.heap_setCell _ _ _ k (by simpa using hne)]
      case row1 =>
        refine hide (((unhide HROW1).mono ?_).block fun k hk => ?_)
        · have := hbg0.size; have := hbg1.size; have := hbg2.size; first | omega | (simp at *; omega)
        · have hne : k ≠ w_g0.heap.size := by have := hbB1 k hk; omega
          rw [Below.heap_setCell _ _ _ k (by simpa using hne), Below.heap_setCell _ _ _ k (by simpa using hne), Below.heap_setCell _ _ _ k (by simpa using hne), Below.heap_setCell _ _ _ k (by simpa using hne), Below.heap_setCell _ _ _ k (by simpa using hne), Below.heap_setCell _ _ _ k (by simpa using hne), Below.heap_setCell _ _ _ k (by simpa using hne), Below.heap_setCell _ _ _ k (by simpa using hne), Below.heap_setCell _ _ _ k (by simpa using hne)]
    · have hZ : Boxed w_gs (w2.heap.size) [.int .i64 0, .int .i64 0, .int .i64 0, .int .i64 0, .int .i64 0, .int .i64 0, .int .i64 0, .slice none 0 0, .slice none 0 0] := (((((boxed_alloc _ _ _).drew.below hbg0).below hbg1).below hbg2).below hbgs)
      have hw : Below w2.heap.size w2 w_gs := (below_then (below_then (below_then (below_then (by repeat (first | with_reducible exact Below.refl _ _ | refine Below.setCell ?_ (by first | omega | (simp <;> omega) | (simp [World.setCell] <;> omega)) _ | refine Below.alloc ?_ (by first | omega | (simp <;> omega) | (simp [World.setCell] <;> omega)) _ | refine Below.drew ?_ | refine below_draws ?_ _ | exact Below.refl _ _)) hbg0) hbg1) hbg2) hbgs)
      have hlt0 := (unhide HROW0).lt
      have hlt1 := (unhide HROW1).lt
      have hzl2 := hZ.1
      have hbl : w2.heap.size ≤ w2.heap.size := by  omega
      have hbB0 : ∀ k, (Value.slice pa u.tr.back.length pcap).ownBlock = some k → w2.heap.size < k := fun k hk => by have := (hlt0 k hk).1; have := hbg0.size; have := hbg1.size; have := hbg2.size; simp at *; omega
      have hbB1 : ∀ k, (Value.slice oa u.over.length ocap).ownBlock = some k → w2.heap.size < k := fun k hk => by have := (hlt1 k hk).1; have := hbg0.size; have := hbg1.size; have := hbg2.size; simp at *; omega
      refine ⟨_, u, pa, pcap, oa, ocap, rfl, hbl, HANS, (((((((((hZ.set (i := 0) (by simp) (.int .i64 u.code)).set (i := 1) (by simp) (.int .i64 u.far)).set (i := 2) (by simp) (.int .i64 u.joint)).set (i := 3) (by simp) (.int .i64 u.tr.front.piece)).set (i := 4) (by simp) (.int .i64 u.tr.front.at_)).set (i := 5) (by simp) (.int .i64 u.tr.front.way)).set (i := 6) (by simp) (.int .i64 u.tr.long)).set (i := 7) (by simp) (.slice pa u.tr.back.length pcap)).set (i := 8) (by simp) (.slice oa u.over.length ocap)), ?row0, ?row1, fun k hk => by have := hbB0 k hk; omega, fun k hk => by have := hbB1 k hk; omega, (((((((((hw.setCell (p := ⟨w2.heap.size, 0, none⟩) hbl (.int .i64 u.code)).setCell (p := ⟨w2.heap.size, 1, none⟩) hbl (.int .i64 u.far)).setCell (p := ⟨w2.heap.size, 2, none⟩) hbl (.int .i64 u.joint)).setCell (p := ⟨w2.heap.size, 3, none⟩) hbl (.int .i64 u.tr.front.piece)).setCell (p := ⟨w2.heap.size, 4, none⟩) hbl (.int .i64 u.tr.front.at_)).setCell (p := ⟨w2.heap.size, 5, none⟩) hbl (.int .i64 u.tr.front.way)).setCell (p := ⟨w2.heap.size, 6, none⟩) hbl (.int .i64 u.tr.long)).setCell (p := ⟨w2.heap.size, 7, none⟩) hbl (.slice pa u.tr.back.length pcap)).setCell (p := ⟨w2.heap.size, 8, none⟩) hbl (.slice oa u.over.length ocap))⟩
      case row0 =>
        refine hide (((unhide HROW0).mono ?_).block fun k hk => ?_)
        · have := hbg0.size; have := hbg1.size; have := hbg2.size; first | omega | (simp at *; omega)
        · have hne : k ≠ w2.heap.size := by have := hbB0 k hk; omega
          rw [Below.heap_setCell _ _ _ k (by simpa using hne), Below.heap_setCell _ _ _ k (by simpa using hne), Below.heap_setCell _ _ _ k (by simpa using hne), Below.heap_setCell _ _ _ k (by simpa using hne), Below.heap_setCell _ _ _ k (by simpa using hne), Below.heap_setCell _ _ _ k (by simpa using hne), Below.heap_setCell _ _ _ k (by simpa using hne), Below.heap_setCell _ _ _ k (by simpa using hne), Below.heap_setCell _ _ _ k (by simpa using hne)]
      case row1 =>
        refine hide (((unhide HROW1).mono ?_).block fun k hk => ?_)
        · have := hbg0.size; have := hbg1.size; have := hbg2.size; first | omega | (simp at *; omega)
        · have hne : k ≠ w2.heap.size := by have := hbB1 k hk; omega
          rw [Below.heap_setCell _ _ _ k (by simpa using hne), Below.heap_setCell _ _ _ k (by simpa using hne), Below.heap_setCell _ _ _ k (by simpa using hne), Below.heap_setCell _ _ _ k (by simpa using hne), Below.heap_setCell _ _ _ k (by simpa using hne), Below.heap_setCell _ _ _ k (by simpa using hne), Below.heap_setCell _ _ _ k (by simpa using hne), Below.heap_setCell _ _ _ k (by simpa using hne), Below.heap_setCell _ _ _ k (by simpa using hne)]
  case rest =>
    obtain ⟨B0, u, pa, pcap, oa, ocap, rfl, hB0, HANS, BU, HRU0, HRU1, hap0, hap1, hb_c⟩ := hcut
    obtain ⟨wA, rfl⟩ : ∃ wA, wA = wc := ⟨_, rfl⟩
    have hbwA := below_then hbw2 hb_c
    have szA := hb_c.size
    have lB0 := BU.1
    have HAPU0 := hide hap0
    have HAPU1 := hide hap1
    have HLEN : Hid (u.tr.back.length ≤ 200 ∧ u.over.length ≤ 10000) := (unhide HANS).len
    clear p0_0 p0_1 p1_0 p1_1 p1_2 p1_3 p1_4 pn0 pn1
    clear hap0 hap1
    have hglA := hgl.below hbwA
    have X0_A := X0_2.below hb_c
    have X1_A := X1_2.below hb_c
    have p0 := X0_A.2.1 0 _ rfl
    have p1 := X0_A.2.1 1 _ rfl
    have pn := X0_A.1
    go_wp2_with fail
    refine (toNet_own _ n _ (hvv.below hbwA) k1' k2' (unhide HK)).mono ?_
    rintro e w_x0 ⟨v_x0, rfl, hv_x0, hb_x0⟩
    clear p0 p1 pn
    have hbw_x0 := below_then hbwA hb_x0
    have sz_x0 := hb_x0.size
    have fG_x0 := hglA.below hb_x0
    have X0_x0 := X0_A.below hb_x0
    have X1_x0 := X1_A.below hb_x0
    have BU_x0 := BU.below hb_x0
    have rU0_x0 := (unhide HRU0).below hb_x0
    have rU1_x0 := (unhide HRU1).below hb_x0
    have fN := hv_x0.at
    have fO := hv_x0
    obtain ⟨xa, xc, rfl, hxo, hxj⟩ := hv_x0
    have sN : Below w_x0.heap.size w_x0 w_x0 := Below.refl _ _
    have hA_x0 : Below w_x0.heap.size w_x0 (w_x0.alloc (.cells #[.slice xa n.pieces.length n.pieces.length, .slice xc n.joints.length n.joints.length] 45)) := (by repeat (first | with_reducible exact Below.refl _ _ | refine Below.setCell ?_ (by first | omega | (simp <;> omega) | (simp [World.setCell] <;> omega)) _ | refine Below.alloc ?_ (by first | omega | (simp <;> omega) | (simp [World.setCell] <;> omega)) _ | refine Below.drew ?_ | refine below_draws ?_ _ | exact Below.refl _ _))
    go_wp2_with fail
    refine (toIntS_own _ zs _ _ hzl (hz.below (below_then hbw_x0 hA_x0))).mono ?_
    rintro e w_x1 ⟨b1, mf1, rfl, hI1, mo1, hbk1, hb_x1⟩
    have hb'_x1 := below_then hA_x0 hb_x1
    have hbw_x1 := below_then hbw_x0 hb'_x1
    have sz_x1 := hb'_x1.size
    have fG_x1 := fG_x0.below hb'_x1
    have X0_x1 := X0_x0.below hb'_x1
    have X1_x1 := X1_x0.below hb'_x1
    have BU_x1 := BU_x0.below hb'_x1
    have rU0_x1 := rU0_x0.below hb'_x1
    have rU1_x1 := rU1_x0.below hb'_x1
    have fN_x1 := fN.below hb'_x1
    have sN_x1 := below_then sN hb'_x1
    have Y0_x1 : Boxed w_x1 (w_x0.heap.size) [.slice xa n.pieces.length n.pieces.length, .slice xc n.joints.length n.joints.length] := (boxed_alloc _ _ _).below hb_x1
    have hbk1' : w_x0.heap.size < b1 ∧ b1 < w_x1.heap.size := by have := hbk1; (try simp at this); omega
    clear hbk1
    have p0 := X1_x1.2.1 0 _ rfl
    have p1 := X1_x1.2.1 1 _ rfl
    have p2 := X1_x1.2.1 2 _ rfl
    have p3 := X1_x1.2.1 3 _ rfl
    have p4 := X1_x1.2.1 4 _ rfl
    have pn := X1_x1.1
    go_wp2_with fail
    refine (toTrain_own _ t _ (htt.below hbw_x1) hbl).mono ?_
    rintro e w_x2 ⟨v_x2, rfl, hv_x2, hb_x2⟩
    clear p0 p1 p2 p3 p4 pn
    have hbw_x2 := below_then hbw_x1 hb_x2
    have sz_x2 := hb_x2.size
    have fG_x2 := fG_x1.below hb_x2
    have X0_x2 := X0_x1.below hb_x2
    have X1_x2 := X1_x1.below hb_x2
    have BU_x2 := BU_x1.below hb_x2
    have rU0_x2 := rU0_x1.below hb_x2
    have rU1_x2 := rU1_x1.below hb_x2
    have fN_x2 := fN_x1.below hb_x2
    have sN_x2 := below_then sN_x1 hb_x2
    have Y0_x2 := Y0_x1.below hb_x2
    have fI_x2 := hI1.below hb_x2
    have mI_x2 := mo1.below hb_x2
    have fT := hv_x2.at
    obtain ⟨ya, rfl, hys⟩ := hv_x2
    have sT : Below w_x2.heap.size w_x2 w_x2 := Below.refl _ _
    have fS := hys.at.mono (Nat.zero_le _)
    have hA_x2 : Below w_x2.heap.size w_x2 (w_x2.alloc (.cells #[.int .i64 t.front.piece, .int .i64 t.front.at_, .int .i64 t.front.way, .int .i64 t.long, .slice ya t.back.length t.back.length] 37)) := (by repeat (first | with_reducible exact Below.refl _ _ | refine Below.setCell ?_ (by first | omega | (simp <;> omega) | (simp [World.setCell] <;> omega)) _ | refine Below.alloc ?_ (by first | omega | (simp <;> omega) | (simp [World.setCell] <;> omega)) _ | refine Below.drew ?_ | refine below_draws ?_ _ | exact Below.refl _ _))
    have y0_0 := Y0_x2.2.1 0 _ rfl
    have y0_1 := Y0_x2.2.1 1 _ rfl
    have yn0 := Y0_x2.1
    go_wp2_with fail
    refine (implMove_law _ n t ya t.back.length _ zs _ z _ (L := wA.heap.size) (fN_x2.below hA_x2) (fI_x2.below hA_x2) (fS.below hA_x2) (fG_x2.below hA_x2) (Nat.le_refl _) hbl k1' k2' (fun i h => (unhide HLE i h).1) (unhide HNM)).mono ?_
    rintro e w_i ⟨⟨u1, qa, qcap, va, vcap, hans1, rfl, hrowG0, hrowG1⟩, hb_i⟩
    have hb'_i := below_then hA_x2 hb_i
    clear y0_0 y0_1 yn0
    have szI0 := hb_i.size
    (try simp at szI0)
    have hA_i : Below w_i.heap.size w_i (w_i.alloc (.cells #[.int .i64 u1.code, .int .i64 u1.far, .int .i64 u1.joint, .int .i64 u1.tr.front.piece, .int .i64 u1.tr.front.at_, .int .i64 u1.tr.front.way, .int .i64 u1.tr.long, .slice qa u1.tr.back.length qcap, .slice va u1.over.length vcap] 40)) := (by repeat (first | with_reducible exact Below.refl _ _ | refine Below.setCell ?_ (by first | omega | (simp <;> omega) | (simp [World.setCell] <;> omega)) _ | refine Below.alloc ?_ (by first | omega | (simp <;> omega) | (simp [World.setCell] <;> omega)) _ | refine Below.drew ?_ | refine below_draws ?_ _ | exact Below.refl _ _))
    have hb_I := below_then hb'_i hA_i
    have et := (unhide HANS).unique hans1
    subst et
    have hbw_I := below_then hbw_x2 hb_I
    have fG_I := fG_x2.below hb_I
    have X0_I := X0_x2.below hb_I
    have X1_I := X1_x2.below hb_I
    have BU_I := BU_x2.below hb_I
    have rU0_I := rU0_x2.below hb_I
    have rU1_I := rU1_x2.below hb_I
    have fN_I := fN_x2.below hb_I
    have sN_I := below_then sN_x2 hb_I
    have Y0_I := Y0_x2.below hb_I
    have fI_I := fI_x2.below hb_I
    have mI_I := mI_x2.below hb_I
    have fT_I := fT.below hb_I
    have sT_I := below_then sT hb_I
    have fS_I := fS.below hb_I
    have Y1_I : Boxed (w_i.alloc (.cells #[.int .i64 u.code, .int .i64 u.far, .int .i64 u.joint, .int .i64 u.tr.front.piece, .int .i64 u.tr.front.at_, .int .i64 u.tr.front.way, .int .i64 u.tr.long, .slice qa u.tr.back.length qcap, .slice va u.over.length vcap] 40)) (w_x2.heap.size) [.int .i64 t.front.piece, .int .i64 t.front.at_, .int .i64 t.front.way, .int .i64 t.long, .slice ya t.back.length t.back.length] := ((boxed_alloc _ _ _).below hb_i).below hA_i
    have BG : Boxed (w_i.alloc (.cells #[.int .i64 u.code, .int .i64 u.far, .int .i64 u.joint, .int .i64 u.tr.front.piece, .int .i64 u.tr.front.at_, .int .i64 u.tr.front.way, .int .i64 u.tr.long, .slice qa u.tr.back.length qcap, .slice va u.over.length vcap] 40)) w_i.heap.size [.int .i64 u.code, .int .i64 u.far, .int .i64 u.joint, .int .i64 u.tr.front.piece, .int .i64 u.tr.front.at_, .int .i64 u.tr.front.way, .int .i64 u.tr.long, .slice qa u.tr.back.length qcap, .slice va u.over.length vcap] := boxed_alloc _ _ _
    have HRG0 := hide hrowG0
    have rG0 := (unhide HRG0).below hA_i
    have HRG1 := hide hrowG1
    have rG1 := (unhide HRG1).below hA_i
    clear hrowG0 hrowG1
    have g0 := BG.2.1 0 _ rfl
    have g1 := BG.2.1 1 _ rfl
    have g2 := BG.2.1 2 _ rfl
    have g3 := BG.2.1 3 _ rfl
    have g4 := BG.2.1 4 _ rfl
    have g5 := BG.2.1 5 _ rfl
    have g6 := BG.2.1 6 _ rfl
    have g7 := BG.2.1 7 _ rfl
    have g8 := BG.2.1 8 _ rfl
    have u0 := BU_I.2.1 0 _ rfl
    have u1 := BU_I.2.1 1 _ rfl
    have u2 := BU_I.2.1 2 _ rfl
    have u3 := BU_I.2.1 3 _ rfl
    have u4 := BU_I.2.1 4 _ rfl
    have u5 := BU_I.2.1 5 _ rfl
    have u6 := BU_I.2.1 6 _ rfl
    have u7 := BU_I.2.1 7 _ rfl
    have u8 := BU_I.2.1 8 _ rfl
    go_wp2_with fail
    refine (eqMoved_any u.code u.far u.joint u.tr.front u.tr.long u.tr.back u.over qa pa qcap pcap va oa vcap ocap _ (by have := unhide HLEN; omega) (by have := unhide HLEN; omega) (stRow_sts rG0) (stRow_sts rU0_I) (ptRow_pts rG1) (ptRow_pts rU1_I)).mono ?_
    rintro e w_q ⟨rfl, hb_q⟩
    clear g0 u0 g1 u1 g2 u2 g3 u3 g4 u4 g5 u5 g6 u6 g7 u7 g8 u8
    have hbw_q := below_then hbw_I hb_q
    have fG_q := fG_I.below hb_q
    have X0_q := X0_I.below hb_q
    have X1_q := X1_I.below hb_q
    have BU_q := BU_I.below hb_q
    have rU0_q := rU0_I.below hb_q
    have rU1_q := rU1_I.below hb_q
    have fN_q := fN_I.below hb_q
    have sN_q := below_then sN_I hb_q
    have Y0_q := Y0_I.below hb_q
    have fI_q := fI_I.below hb_q
    have mI_q := mI_I.below hb_q
    have fT_q := fT_I.below hb_q
    have sT_q := below_then sT_I hb_q
    have fS_q := fS_I.below hb_q
    have Y1_q := Y1_I.below hb_q
    have BG_q := BG.below hb_q
    have rG0_q := rG0.below hb_q
    have rG1_q := rG1.below hb_q
    have p0 := X0_q.2.1 0 _ rfl
    have p1 := X0_q.2.1 1 _ rfl
    have y0 := Y0_q.2.1 0 _ rfl
    have y1 := Y0_q.2.1 1 _ rfl
    have pn := X0_q.1
    have yn := Y0_q.1
    go_upto_region 17 with fail
    go_cut [59] (fun b wx => b = .bool false ∧ Below w_q.heap.size w_q wx)
    case first =>
      go_region_held3 (fun w' => w'.cell? ⟨w.heap.size, 0, none⟩ = some (.slice a n.pieces.length ca) ∧ w'.cell? ⟨w.heap.size, 1, none⟩ = some (.slice c n.joints.length cc) ∧ w'.cell? ⟨w_x0.heap.size, 0, none⟩ = some (.slice xa n.pieces.length n.pieces.length) ∧ w'.cell? ⟨w_x0.heap.size, 1, none⟩ = some (.slice xc n.joints.length n.joints.length)) (((try dsimp only); (repeat' apply And.intro)) <;> (go_keep; done))
        (first
          | (go_at_call 9; refine (toNet_any _ n _ (hvv.below (below_then hbw_q (by repeat (first | with_reducible exact Below.refl _ _ | refine Below.setCell ?_ (by first | omega | (simp <;> omega) | (simp [World.setCell] <;> omega)) _ | refine Below.alloc ?_ (by first | omega | (simp <;> omega) | (simp [World.setCell] <;> omega)) _ | refine Below.drew ?_ | refine below_draws ?_ _ | exact Below.refl _ _)))) k1' k2' (unhide HK)).mono ?_; rintro e w_e0a ⟨v_e0a, rfl, hv_e0a, hb_e0a⟩; obtain ⟨hc_e0a, hf_e0a⟩ := bcell hb_e0a; have sz_e0a := hb_e0a.size; (try simp at sz_e0a); have qq0 := hc_e0a (w.heap.size) (0) (by first | (simp; done) | (simp; omega) | omega); have qq1 := hc_e0a (w.heap.size) (1) (by first | (simp; done) | (simp; omega) | omega); have qq2 := hc_e0a (w_x0.heap.size) (0) (by first | (simp; done) | (simp; omega) | omega); have qq3 := hc_e0a (w_x0.heap.size) (1) (by first | (simp; done) | (simp; omega) | omega))
          | (go_at_call 14; refine (eqNet_any _ _ n _ k1' k2' (unhide HK) (fN_q.below (below_then (by repeat (first | with_reducible exact Below.refl _ _ | refine Below.setCell ?_ (by first | omega | (simp <;> omega) | (simp [World.setCell] <;> omega)) _ | refine Below.alloc ?_ (by first | omega | (simp <;> omega) | (simp [World.setCell] <;> omega)) _ | refine Below.drew ?_ | refine below_draws ?_ _ | exact Below.refl _ _)) hb_e0a)) hv_e0a).mono ?_; rintro e w_e0b ⟨rfl, hb_e0b⟩; obtain ⟨hc_e0b, hf_e0b⟩ := bcell hb_e0b; have rr0 := hc_e0b (w.heap.size) (0) (by first | (have := hb_e0a.size; omega) | (have := hb_e0a.size; simp at this ⊢; omega) | (simp; omega)); have rr1 := hc_e0b (w.heap.size) (1) (by first | (have := hb_e0a.size; omega) | (have := hb_e0a.size; simp at this ⊢; omega) | (simp; omega)); have rr2 := hc_e0b (w_x0.heap.size) (0) (by first | (have := hb_e0a.size; omega) | (have := hb_e0a.size; simp at this ⊢; omega) | (simp; omega)); have rr3 := hc_e0b (w_x0.heap.size) (1) (by first | (have := hb_e0a.size; omega) | (have := hb_e0a.size; simp at this ⊢; omega) | (simp; omega))))
      all_goals go_wp2_with fail
      all_goals go_meet
      all_goals exact ⟨rfl, below_then (below_then (by repeat (first | with_reducible exact Below.refl _ _ | refine Below.setCell ?_ (by first | omega | (simp <;> omega) | (simp [World.setCell] <;> omega)) _ | refine Below.alloc ?_ (by first | omega | (simp <;> omega) | (simp [World.setCell] <;> omega)) _ | refine Below.drew ?_ | refine below_draws ?_ _ | exact Below.refl _ _)) hb_e0a) hb_e0b⟩
    case rest =>
      obtain ⟨rfl, hb_e0⟩ := hcut
      obtain ⟨w_e0, rfl⟩ : ∃ w_e0, w_e0 = wc := ⟨_, rfl⟩
      clear p0 y0 p1 y1 pn yn
      have hbw_e0 := below_then hbw_q hb_e0
      have fG_e0 := fG_q.below hb_e0
      have X0_e0 := X0_q.below hb_e0
      have X1_e0 := X1_q.below hb_e0
      have BU_e0 := BU_q.below hb_e0
      have rU0_e0 := rU0_q.below hb_e0
      have rU1_e0 := rU1_q.below hb_e0
      have fN_e0 := fN_q.below hb_e0
      have sN_e0 := below_then sN_q hb_e0
      have Y0_e0 := Y0_q.below hb_e0
      have fI_e0 := fI_q.below hb_e0
      have mI_e0 := mI_q.below hb_e0
      have fT_e0 := fT_q.below hb_e0
      have sT_e0 := below_then sT_q hb_e0
      have fS_e0 := fS_q.below hb_e0
      have Y1_e0 := Y1_q.below hb_e0
      have BG_e0 := BG_q.below hb_e0
      have rG0_e0 := rG0_q.below hb_e0
      have rG1_e0 := rG1_q.below hb_e0
      go_wp2_with fail
      refine (toIntS_any _ zs _ _ hzl (hz.below hbw_e0)).mono ?_
      rintro e w_e1a ⟨v_e1, rfl, hv_e1, hb_e1a⟩
      go_wp2_with fail
      refine (eqIntS_any _ _ zs _ _ _ hzl (fI_e0.below hb_e1a) hv_e1).mono ?_
      rintro e w_e1 ⟨rfl, hb_e1b⟩
      have hb_e1 := below_then hb_e1a hb_e1b
      have hbw_e1 := below_then hbw_e0 hb_e1
      have fG_e1 := fG_e0.below hb_e1
      have X0_e1 := X0_e0.below hb_e1
      have X1_e1 := X1_e0.below hb_e1
      have BU_e1 := BU_e0.below hb_e1
      have rU0_e1 := rU0_e0.below hb_e1
      have rU1_e1 := rU1_e0.below hb_e1
      have fN_e1 := fN_e0.below hb_e1
      have sN_e1 := below_then sN_e0 hb_e1
      have Y0_e1 := Y0_e0.below hb_e1
      have fI_e1 := fI_e0.below hb_e1
      have mI_e1 := mI_e0.below hb_e1
      have fT_e1 := fT_e0.below hb_e1
      have sT_e1 := below_then sT_e0 hb_e1
      have fS_e1 := fS_e0.below hb_e1
      have Y1_e1 := Y1_e0.below hb_e1
      have BG_e1 := BG_e0.below hb_e1
      have rG0_e1 := rG0_e0.below hb_e1
      have rG1_e1 := rG1_e0.below hb_e1
      have p0 := X1_e1.2.1 0 _ rfl
      have p1 := X1_e1.2.1 1 _ rfl
      have p2 := X1_e1.2.1 2 _ rfl
      have p3 := X1_e1.2.1 3 _ rfl
      have p4 := X1_e1.2.1 4 _ rfl
      have y0 := Y1_e1.2.1 0 _ rfl
      have y1 := Y1_e1.2.1 1 _ rfl
      have y2 := Y1_e1.2.1 2 _ rfl
      have y3 := Y1_e1.2.1 3 _ rfl
      have y4 := Y1_e1.2.1 4 _ rfl
      have pn := X1_e1.1
      have yn := Y1_e1.1
      go_upto_region 21 with fail
      go_cut [69] (fun b wx => b = .bool false ∧ Below w_e1.heap.size w_e1 wx)
      case first =>
        go_region_held3 (fun w' => w'.cell? ⟨w.heap.size + 1, 0, none⟩ = some (.int .i64 t.front.piece) ∧ w'.cell? ⟨w.heap.size + 1, 1, none⟩ = some (.int .i64 t.front.at_) ∧ w'.cell? ⟨w.heap.size + 1, 2, none⟩ = some (.int .i64 t.front.way) ∧ w'.cell? ⟨w.heap.size + 1, 3, none⟩ = some (.int .i64 t.long) ∧ w'.cell? ⟨w.heap.size + 1, 4, none⟩ = some (.slice tq t.back.length tk) ∧ w'.cell? ⟨w_x2.heap.size, 0, none⟩ = some (.int .i64 t.front.piece) ∧ w'.cell? ⟨w_x2.heap.size, 1, none⟩ = some (.int .i64 t.front.at_) ∧ w'.cell? ⟨w_x2.heap.size, 2, none⟩ = some (.int .i64 t.front.way) ∧ w'.cell? ⟨w_x2.heap.size, 3, none⟩ = some (.int .i64 t.long) ∧ w'.cell? ⟨w_x2.heap.size, 4, none⟩ = some (.slice ya t.back.length t.back.length)) (((try dsimp only); (repeat' apply And.intro)) <;> (go_keep; done))
          (first
            | (go_at_call 11; refine (toTrain_own _ t _ (htt.below (below_then hbw_e1 (by repeat (first | with_reducible exact Below.refl _ _ | refine Below.setCell ?_ (by first | omega | (simp <;> omega) | (simp [World.setCell] <;> omega)) _ | refine Below.alloc ?_ (by first | omega | (simp <;> omega) | (simp [World.setCell] <;> omega)) _ | refine Below.drew ?_ | refine below_draws ?_ _ | exact Below.refl _ _)))) hbl).mono ?_; rintro e w_e2a ⟨v_e2a, rfl, hv_e2a, hb_e2a⟩; obtain ⟨hc_e2a, hf_e2a⟩ := bcell hb_e2a; have sz_e2a := hb_e2a.size; (try simp at sz_e2a); have qq0 := hc_e2a (w.heap.size+1) (0) (by first | (simp; done) | (simp; omega) | omega); have qq1 := hc_e2a (w.heap.size+1) (1) (by first | (simp; done) | (simp; omega) | omega); have qq2 := hc_e2a (w.heap.size+1) (2) (by first | (simp; done) | (simp; omega) | omega); have qq3 := hc_e2a (w.heap.size+1) (3) (by first | (simp; done) | (simp; omega) | omega); have qq4 := hc_e2a (w.heap.size+1) (4) (by first | (simp; done) | (simp; omega) | omega); have qq5 := hc_e2a (w_x2.heap.size) (0) (by first | (simp; done) | (simp; omega) | omega); have qq6 := hc_e2a (w_x2.heap.size) (1) (by first | (simp; done) | (simp; omega) | omega); have qq7 := hc_e2a (w_x2.heap.size) (2) (by first | (simp; done) | (simp; omega) | omega); have qq8 := hc_e2a (w_x2.heap.size) (3) (by first | (simp; done) | (simp; omega) | omega); have qq9 := hc_e2a (w_x2.heap.size) (4) (by first | (simp; done) | (simp; omega) | omega))
            | (go_at_call 16; refine (eqTrain_any _ _ t _ hbl (fT_e1.below (below_then (by repeat (first | with_reducible exact Below.refl _ _ | refine Below.setCell ?_ (by first | omega | (simp <;> omega) | (simp [World.setCell] <;> omega)) _ | refine Below.alloc ?_ (by first | omega | (simp <;> omega) | (simp [World.setCell] <;> omega)) _ | refine Below.drew ?_ | refine below_draws ?_ _ | exact Below.refl _ _)) hb_e2a)) hv_e2a.at).mono ?_; rintro e w_e2b ⟨rfl, hb_e2b⟩; obtain ⟨hc_e2b, hf_e2b⟩ := bcell hb_e2b; have rr0 := hc_e2b (w.heap.size+1) (0) (by first | (have := hb_e2a.size; omega) | (have := hb_e2a.size; simp at this ⊢; omega) | (simp; omega)); have rr1 := hc_e2b (w.heap.size+1) (1) (by first | (have := hb_e2a.size; omega) | (have := hb_e2a.size; simp at this ⊢; omega) | (simp; omega)); have rr2 := hc_e2b (w.heap.size+1) (2) (by first | (have := hb_e2a.size; omega) | (have := hb_e2a.size; simp at this ⊢; omega) | (simp; omega)); have rr3 := hc_e2b (w.heap.size+1) (3) (by first | (have := hb_e2a.size; omega) | (have := hb_e2a.size; simp at this ⊢; omega) | (simp; omega)); have rr4 := hc_e2b (w.heap.size+1) (4) (by first | (have := hb_e2a.size; omega) | (have := hb_e2a.size; simp at this ⊢; omega) | (simp; omega)); have rr5 := hc_e2b (w_x2.heap.size) (0) (by first | (have := hb_e2a.size; omega) | (have := hb_e2a.size; simp at this ⊢; omega) | (simp; omega)); have rr6 := hc_e2b (w_x2.heap.size) (1) (by first | (have := hb_e2a.size; omega) | (have := hb_e2a.size; simp at this ⊢; omega) | (simp; omega)); have rr7 := hc_e2b (w_x2.heap.size) (2) (by first | (have := hb_e2a.size; omega) | (have := hb_e2a.size; simp at this ⊢; omega) | (simp; omega)); have rr8 := hc_e2b (w_x2.heap.size) (3) (by first | (have := hb_e2a.size; omega) | (have := hb_e2a.size; simp at this ⊢; omega) | (simp; omega)); have rr9 := hc_e2b (w_x2.heap.size) (4) (by first | (have := hb_e2a.size; omega) | (have := hb_e2a.size; simp at this ⊢; omega) | (simp; omega))))
        all_goals go_wp2_with fail
        all_goals go_meet
        all_goals exact ⟨rfl, below_then (below_then (by repeat (first | with_reducible exact Below.refl _ _ | refine Below.setCell ?_ (by first | omega | (simp <;> omega) | (simp [World.setCell] <;> omega)) _ | refine Below.alloc ?_ (by first | omega | (simp <;> omega) | (simp [World.setCell] <;> omega)) _ | refine Below.drew ?_ | refine below_draws ?_ _ | exact Below.refl _ _)) hb_e2a) hb_e2b⟩
      case rest =>
        obtain ⟨rfl, hb_e2⟩ := hcut
        obtain ⟨w_e2, rfl⟩ : ∃ w_e2, w_e2 = wc := ⟨_, rfl⟩
        clear p0 y0 p1 y1 p2 y2 p3 y3 p4 y4 pn yn
        have hbw_e2 := below_then hbw_e1 hb_e2
        have fG_e2 := fG_e1.below hb_e2
        have X0_e2 := X0_e1.below hb_e2
        have X1_e2 := X1_e1.below hb_e2
        have BU_e2 := BU_e1.below hb_e2
        have rU0_e2 := rU0_e1.below hb_e2
        have rU1_e2 := rU1_e1.below hb_e2
        have fN_e2 := fN_e1.below hb_e2
        have sN_e2 := below_then sN_e1 hb_e2
        have Y0_e2 := Y0_e1.below hb_e2
        have fI_e2 := fI_e1.below hb_e2
        have mI_e2 := mI_e1.below hb_e2
        have fT_e2 := fT_e1.below hb_e2
        have sT_e2 := below_then sT_e1 hb_e2
        have fS_e2 := fS_e1.below hb_e2
        have Y1_e2 := Y1_e1.below hb_e2
        have BG_e2 := BG_e1.below hb_e2
        have rG0_e2 := rG0_e1.below hb_e2
        have rG1_e2 := rG1_e1.below hb_e2
        have gS0 : Hid (∀ k, (Value.slice pa u.tr.back.length pcap).ownBlock = some k → k < wA.heap.size) := hide fun k hk => ((unhide HRU0).lt k hk).2
        have gG0 : Hid (∀ k, (Value.slice qa u.tr.back.length qcap).ownBlock = some k → w_x2.heap.size ≤ k ∧ k < w_i.heap.size) := hide fun k hk => by have := (unhide HRG0).lt k hk; (try simp at this); omega
        have gS1 : Hid (∀ k, (Value.slice oa u.over.length ocap).ownBlock = some k → k < wA.heap.size) := hide fun k hk => ((unhide HRU1).lt k hk).2
        have gG1 : Hid (∀ k, (Value.slice va u.over.length vcap).ownBlock = some k → w_x2.heap.size ≤ k ∧ k < w_i.heap.size) := hide fun k hk => by have := (unhide HRG1).lt k hk; (try simp at this); omega
        have lb0 : w.heap.size < wA.heap.size := X0_A.1
        have lb1 : w.heap.size + 1 < wA.heap.size := X1_A.1
        have lw : w.heap.size ≤ wA.heap.size := hbwA.size
        have lB0A : B0 < wA.heap.size := lB0
        have lIi : w_x2.heap.size ≤ w_i.heap.size := by omega
        have moN := fO.below sN_e2 (Nat.le_refl _)
        have HBK : Hid (∀ k, blk (some ⟨b1, 0, none⟩) k → k = b1) := hide fun k hk => by obtain ⟨b, off, hab, rfl⟩ := hk; simp at hab; exact hab.1.symm
        obtain ⟨mfT, moT, mbT⟩ := (hys.below sT_e2 (Nat.le_refl _)).own
        have mbT' : Hid (∀ k, blk ya k → w_x1.heap.size ≤ k ∧ k < w_x2.heap.size) := hide fun k hk => by have := mbT k hk; (try simp at this); omega
        clear mbT
        have lc := hbw_e2.size
        have y0 := Y0_e2.2.1 0 _ rfl
        have y1 := Y0_e2.2.1 1 _ rfl
        go_wp2_with fail
        refine (markNet_any _ n _ _ 1 _ moN k1' k2' (unhide HK) (by omega) (by omega)).mono ?_
        rintro e w_m0 ⟨rrN, rfl, hraN, hrbN, onN⟩
        clear y0 y1
        have hbw_m0 := hbw_e2.trans (onN.below hbw_e2.size (fun k hk => (fun h => by have := h; omega)))
        have X0_m0 := X0_e2.onlyS onN (fun h => by have := h; omega)
        have X1_m0 := X1_e2.onlyS onN (fun h => by have := h; omega)
        have BU_m0 := BU_e2.onlyS onN (fun h => by have := h; omega)
        have rU0_m0 := rU0_e2.only onN (fun k hk => by have := unhide gS0 k hk; exact (fun h => by have := h; omega))
        have rU1_m0 := rU1_e2.only onN (fun k hk => by have := unhide gS1 k hk; exact (fun h => by have := h; omega))
        have Y1_m0 := Y1_e2.onlyS onN (fun h => by have := h; omega)
        have BG_m0 := BG_e2.onlyS onN (fun h => by have := h; omega)
        have rG0_m0 := rG0_e2.only onN (fun k hk => by have := unhide gG0 k hk; exact (fun h => by have := h; omega))
        have rG1_m0 := rG1_e2.only onN (fun k hk => by have := unhide gG1 k hk; exact (fun h => by have := h; omega))
        have oI_m0 := mI_e2.only onN (fun k hk => by have := unhide HBK k hk; exact (fun h => by have := h; omega))
        have oT_m0 := moT.only onN (fun k hk => by have := unhide mbT' k hk; exact (fun h => by have := h; omega))
        go_wp2_with fail
        refine (markIntS_any _ _ _ rrN mf1 _ hzl (by omega) (by omega) oI_m0).mono ?_
        rintro e w_m1 ⟨rfl, homI, onI⟩
        have hbw_m1 := hbw_m0.trans (onI.below hbw_m0.size (fun k hk => (fun h => by have := unhide HBK _ h; omega)))
        have X0_m1 := X0_m0.onlyS onI (fun h => by have := unhide HBK _ h; omega)
        have X1_m1 := X1_m0.onlyS onI (fun h => by have := unhide HBK _ h; omega)
        have BU_m1 := BU_m0.onlyS onI (fun h => by have := unhide HBK _ h; omega)
        have rU0_m1 := rU0_m0.only onI (fun k hk => by have := unhide gS0 k hk; exact (fun h => by have := unhide HBK _ h; omega))
        have rU1_m1 := rU1_m0.only onI (fun k hk => by have := unhide gS1 k hk; exact (fun h => by have := unhide HBK _ h; omega))
        have Y1_m1 := Y1_m0.onlyS onI (fun h => by have := unhide HBK _ h; omega)
        have BG_m1 := BG_m0.onlyS onI (fun h => by have := unhide HBK _ h; omega)
        have rG0_m1 := rG0_m0.only onI (fun k hk => by have := unhide gG0 k hk; exact (fun h => by have := unhide HBK _ h; omega))
        have rG1_m1 := rG1_m0.only onI (fun k hk => by have := unhide gG1 k hk; exact (fun h => by have := unhide HBK _ h; omega))
        have oT_m1 := oT_m0.only onI (fun k hk => by have := unhide mbT' k hk; exact (fun h => by have := unhide HBK _ h; omega))
        have y0 := Y1_m1.2.1 0 _ rfl
        have y1 := Y1_m1.2.1 1 _ rfl
        have y2 := Y1_m1.2.1 2 _ rfl
        have y3 := Y1_m1.2.1 3 _ rfl
        have y4 := Y1_m1.2.1 4 _ rfl
        go_wp2_with fail
        refine (markTrain_any _ _ _ _ _ _ _ (rrN + (zs.length : Int)) mfT _ hbl (by omega) (by omega) oT_m1).mono ?_
        rintro e w_m2 ⟨rfl, homT, onT⟩
        clear y0 y1 y2 y3 y4
        have hbw_m2 := hbw_m1.trans (onT.below hbw_m1.size (fun k hk => (fun h => by have := unhide mbT' _ h; omega)))
        have X0_m2 := X0_m1.onlyS onT (fun h => by have := unhide mbT' _ h; omega)
        have X1_m2 := X1_m1.onlyS onT (fun h => by have := unhide mbT' _ h; omega)
        have BU_m2 := BU_m1.onlyS onT (fun h => by have := unhide mbT' _ h; omega)
        have rU0_m2 := rU0_m1.only onT (fun k hk => by have := unhide gS0 k hk; exact (fun h => by have := unhide mbT' _ h; omega))
        have rU1_m2 := rU1_m1.only onT (fun k hk => by have := unhide gS1 k hk; exact (fun h => by have := unhide mbT' _ h; omega))
        have BG_m2 := BG_m1.onlyS onT (fun h => by have := unhide mbT' _ h; omega)
        have rG0_m2 := rG0_m1.only onT (fun k hk => by have := unhide gG0 k hk; exact (fun h => by have := unhide mbT' _ h; omega))
        have rG1_m2 := rG1_m1.only onT (fun k hk => by have := unhide gG1 k hk; exact (fun h => by have := unhide mbT' _ h; omega))
        have hk0 : ¬ (((rrN + (zs.length : Int)) + ((t.back.length * 2 : Nat) : Int)) < 0) := by omega
        have g0 := BG_m2.2.1 0 _ rfl
        have g1 := BG_m2.2.1 1 _ rfl
        have g2 := BG_m2.2.1 2 _ rfl
        have g3 := BG_m2.2.1 3 _ rfl
        have g4 := BG_m2.2.1 4 _ rfl
        have g5 := BG_m2.2.1 5 _ rfl
        have g6 := BG_m2.2.1 6 _ rfl
        have g7 := BG_m2.2.1 7 _ rfl
        have g8 := BG_m2.2.1 8 _ rfl
        have u0 := BU_m2.2.1 0 _ rfl
        have u1 := BU_m2.2.1 1 _ rfl
        have u2 := BU_m2.2.1 2 _ rfl
        have u3 := BU_m2.2.1 3 _ rfl
        have u4 := BU_m2.2.1 4 _ rfl
        have u5 := BU_m2.2.1 5 _ rfl
        have u6 := BU_m2.2.1 6 _ rfl
        have u7 := BU_m2.2.1 7 _ rfl
        have u8 := BU_m2.2.1 8 _ rfl
        go_wp2_with fail
        refine (eqMoved_any u.code u.far u.joint u.tr.front u.tr.long u.tr.back u.over qa pa qcap pcap va oa vcap ocap _ (by have := unhide HLEN; omega) (by have := unhide HLEN; omega) (stRow_sts rG0_m2) (stRow_sts rU0_m2) (ptRow_pts rG1_m2) (ptRow_pts rU1_m2)).mono ?_
        rintro e w_r ⟨rfl, hb_r⟩
        clear g0 u0 g1 u1 g2 u2 g3 u3 g4 u4 g5 u5 g6 u6 g7 u7 g8 u8
        clear hk0
        have hbw_r := below_then hbw_m2 hb_r
        have X0_r := X0_m2.below hb_r
        have X1_r := X1_m2.below hb_r
        have BU_r := BU_m2.below hb_r
        have rU0_r := rU0_m2.below hb_r
        have rU1_r := rU1_m2.below hb_r
        have BG_r := BG_m2.below hb_r
        have rG0_r := rG0_m2.below hb_r
        have rG1_r := rG1_m2.below hb_r
        have g0 := BG_r.2.1 0 _ rfl
        have g1 := BG_r.2.1 1 _ rfl
        have g2 := BG_r.2.1 2 _ rfl
        have g3 := BG_r.2.1 3 _ rfl
        have g4 := BG_r.2.1 4 _ rfl
        have g5 := BG_r.2.1 5 _ rfl
        have g6 := BG_r.2.1 6 _ rfl
        have g7 := BG_r.2.1 7 _ rfl
        have g8 := BG_r.2.1 8 _ rfl
        go_wp2_with fail
        refine (markMoved_any u.code u.far u.joint u.tr.front u.tr.long _ _ _ _ _ _ 1 _ _ _ (by have := unhide HLEN; omega) (by have := unhide HLEN; omega) (by omega) (by omega) rG0_r.own rG1_r.own (fun k hk hk2 => Row.apart rG0_r rG1_r (by decide) k (ownBlock_slice hk2) (ownBlock_slice hk)) (fun k hk => (rG0_r.lt k (ownBlock_slice hk)).2)).mono ?_
        rintro e w_mg ⟨rfl, hoG, hoP, onG⟩
        clear g0 g1 g2 g3 g4 g5 g6 g7 g8
        have hbw_mg := hbw_r.trans (onG.below hbw_r.size (fun k hk => (fun h => by rcases h with h | h; (have := unhide gG0 _ (ownBlock_slice h); omega); (have := unhide gG1 _ (ownBlock_slice h); omega))))
        have X0_mg := X0_r.onlyS onG (fun h => by rcases h with h | h; (have := unhide gG0 _ (ownBlock_slice h); omega); (have := unhide gG1 _ (ownBlock_slice h); omega))
        have X1_mg := X1_r.onlyS onG (fun h => by rcases h with h | h; (have := unhide gG0 _ (ownBlock_slice h); omega); (have := unhide gG1 _ (ownBlock_slice h); omega))
        have BU_mg := BU_r.onlyS onG (fun h => by rcases h with h | h; (have := unhide gG0 _ (ownBlock_slice h); omega); (have := unhide gG1 _ (ownBlock_slice h); omega))
        have rU0_mg := rU0_r.only onG (fun k hk => by have := unhide gS0 k hk; exact (fun h => by rcases h with h | h; (have := unhide gG0 _ (ownBlock_slice h); omega); (have := unhide gG1 _ (ownBlock_slice h); omega)))
        have rU1_mg := rU1_r.only onG (fun k hk => by have := unhide gS1 k hk; exact (fun h => by rcases h with h | h; (have := unhide gG0 _ (ownBlock_slice h); omega); (have := unhide gG1 _ (ownBlock_slice h); omega)))
        have BG_mg := BG_r.onlyS onG (fun h => by rcases h with h | h; (have := unhide gG0 _ (ownBlock_slice h); omega); (have := unhide gG1 _ (ownBlock_slice h); omega))
        have g0 := BG_mg.2.1 0 _ rfl
        have g1 := BG_mg.2.1 1 _ rfl
        have g2 := BG_mg.2.1 2 _ rfl
        have g3 := BG_mg.2.1 3 _ rfl
        have g4 := BG_mg.2.1 4 _ rfl
        have g5 := BG_mg.2.1 5 _ rfl
        have g6 := BG_mg.2.1 6 _ rfl
        have g7 := BG_mg.2.1 7 _ rfl
        have g8 := BG_mg.2.1 8 _ rfl
        go_wp2_with fail
        refine (heldMoved_any u.code u.far u.joint u.tr.front u.tr.long _ _ _ _ _ _ 1 _ (by have := unhide HLEN; omega) (by have := unhide HLEN; omega) (by omega) (by omega) hoG hoP).mono ?_
        rintro e w_hd ⟨rfl, hb_hd⟩
        clear g0 g1 g2 g3 g4 g5 g6 g7 g8
        have hbw_hd := below_then hbw_mg hb_hd
        have X0_hd := X0_mg.below hb_hd
        have X1_hd := X1_mg.below hb_hd
        have BU_hd := BU_mg.below hb_hd
        have rU0_hd := rU0_mg.below hb_hd
        have rU1_hd := rU1_mg.below hb_hd
        have BG_hd := BG_mg.below hb_hd
        have hoG_hd := hoG.below hb_hd
        have hoP_hd := hoP.below hb_hd
        have hm0 : ¬ ((1 : Int) + ((u.tr.back.length * 2 : Nat) : Int) + ((u.over.length * 3 : Nat) : Int) < 0) := by omega
        have sz_hd := hbw_hd.size
        have p0_0 := X0_hd.2.1 0 _ rfl
        have p0_1 := X0_hd.2.1 1 _ rfl
        have pn0 := X0_hd.1
        have p1_0 := X1_hd.2.1 0 _ rfl
        have p1_1 := X1_hd.2.1 1 _ rfl
        have p1_2 := X1_hd.2.1 2 _ rfl
        have p1_3 := X1_hd.2.1 3 _ rfl
        have p1_4 := X1_hd.2.1 4 _ rfl
        have pn1 := X1_hd.1
        have ej0 : ¬ w_hd.heap.size = w.heap.size := by omega
        have fj0 : ¬ w.heap.size = w_hd.heap.size := by omega
        have ej1 : ¬ w_hd.heap.size = w.heap.size + 1 := by omega
        have fj1 : ¬ w.heap.size + 1 = w_hd.heap.size := by omega
        go_upto_region 37 with fail
        go_cut [18] (fun p wx => ∃ (B : Nat) (u2 : MvA) (ra : Option Addr) (rcap : Nat) (xa2 : Option Addr) (xcap : Nat), p = .pointer (some ⟨B, 0, none⟩) ∧ w_hd.heap.size ≤ B ∧ Hid (MvIs n zs t z u2) ∧ Boxed wx B [.int .i64 u2.code, .int .i64 u2.far, .int .i64 u2.joint, .int .i64 u2.tr.front.piece, .int .i64 u2.tr.front.at_, .int .i64 u2.tr.front.way, .int .i64 u2.tr.long, .slice ra u2.tr.back.length rcap, .slice xa2 u2.over.length xcap] ∧ Hid (StRow wx w_hd.heap.size (.slice ra u2.tr.back.length rcap) u2.tr.back) ∧ Hid (PtRow wx w_hd.heap.size (.slice xa2 u2.over.length xcap) u2.over) ∧ (∀ k, (Value.slice ra u2.tr.back.length rcap).ownBlock = some k → k ≠ B) ∧ (∀ k, (Value.slice xa2 u2.over.length xcap).ownBlock = some k → k ≠ B) ∧ Below w_hd.heap.size w_hd wx)
        case first =>
          go_region_held3 (fun w' => w'.cell? ⟨w.heap.size, 0, none⟩ = some (.slice a n.pieces.length ca) ∧ w'.cell? ⟨w.heap.size, 1, none⟩ = some (.slice c n.joints.length cc) ∧ w'.cell? ⟨w.heap.size + 1, 0, none⟩ = some (.int .i64 t.front.piece) ∧ w'.cell? ⟨w.heap.size + 1, 1, none⟩ = some (.int .i64 t.front.at_) ∧ w'.cell? ⟨w.heap.size + 1, 2, none⟩ = some (.int .i64 t.front.way) ∧ w'.cell? ⟨w.heap.size + 1, 3, none⟩ = some (.int .i64 t.long) ∧ w'.cell? ⟨w.heap.size + 1, 4, none⟩ = some (.slice tq t.back.length tk)) (((try dsimp only); (repeat' apply And.intro)) <;> (go_keep; done))
            (first
              | (go_at_call 9; refine (toNet_any _ n _ (hvv.below (below_then hbw_hd ?_)) k1' k2' (unhide HK)).mono ?_; (first | exact (by repeat (first | with_reducible exact Below.refl _ _ | refine Below.setCell ?_ (by first | omega | (simp <;> omega) | (simp [World.setCell] <;> omega)) _ | refine Below.alloc ?_ (by first | omega | (simp <;> omega) | (simp [World.setCell] <;> omega)) _ | refine Below.drew ?_ | refine below_draws ?_ _ | exact Below.refl _ _))); rintro e w_j0 ⟨j0v, rfl, hj0v, hbj0⟩; obtain ⟨hcj0, hfj0⟩ := bcell hbj0; have szj0 := hbj0.size; (try simp at szj0); (try have ltj0 := Nat.lt_of_succ_le szj0); have nj0_0 : ¬ w_j0.heap.size = w.heap.size := (by omega); have mj0_0 : ¬ w.heap.size = w_j0.heap.size := (by omega); have nj0_1 : ¬ w_j0.heap.size = w.heap.size + 1 := (by omega); have mj0_1 : ¬ w.heap.size + 1 = w_j0.heap.size := (by omega); have qj0_0 := hcj0 (w.heap.size) (0) (by first | (simp; done) | (simp; omega) | omega); have qj0_1 := hcj0 (w.heap.size) (1) (by first | (simp; done) | (simp; omega) | omega); have qj0_2 := hcj0 (w.heap.size+1) (0) (by first | (simp; done) | (simp; omega) | omega); have qj0_3 := hcj0 (w.heap.size+1) (1) (by first | (simp; done) | (simp; omega) | omega); have qj0_4 := hcj0 (w.heap.size+1) (2) (by first | (simp; done) | (simp; omega) | omega); have qj0_5 := hcj0 (w.heap.size+1) (3) (by first | (simp; done) | (simp; omega) | omega); have qj0_6 := hcj0 (w.heap.size+1) (4) (by first | (simp; done) | (simp; omega) | omega))
              | (go_at_call 10; refine (toIntS_any _ zs _ _ hzl (hz.below (below_then hbw_hd ?_))).mono ?_; (first | exact (below_then (by repeat (first | with_reducible exact Below.refl _ _ | refine Below.setCell ?_ (by first | omega | (simp <;> omega) | (simp [World.setCell] <;> omega)) _ | refine Below.alloc ?_ (by first | omega | (simp <;> omega) | (simp [World.setCell] <;> omega)) _ | refine Below.drew ?_ | refine below_draws ?_ _ | exact Below.refl _ _)) hbj0) | exact (below_then (below_then (by repeat (first | with_reducible exact Below.refl _ _ | refine Below.setCell ?_ (by first | omega | (simp <;> omega) | (simp [World.setCell] <;> omega)) _ | refine Below.alloc ?_ (by first | omega | (simp <;> omega) | (simp [World.setCell] <;> omega)) _ | refine Below.drew ?_ | refine below_draws ?_ _ | exact Below.refl _ _)) hbj0) (by repeat (first | with_reducible exact Below.refl _ _ | refine Below.setCell ?_ (by first | omega | (simp <;> omega) | (simp [World.setCell] <;> omega)) _ | refine Below.alloc ?_ (by first | omega | (simp <;> omega) | (simp [World.setCell] <;> omega)) _ | refine Below.drew ?_ | refine below_draws ?_ _ | exact Below.refl _ _)))); rintro e w_j1 ⟨j1v, rfl, hj1v, hbj1⟩; obtain ⟨hcj1, hfj1⟩ := bcell hbj1; have szj1 := hbj1.size; (try simp at szj1); (try have ltj1 := Nat.lt_of_succ_le szj1); have nj1_0 : ¬ w_j1.heap.size = w.heap.size := (by omega); have mj1_0 : ¬ w.heap.size = w_j1.heap.size := (by omega); have nj1_1 : ¬ w_j1.heap.size = w.heap.size + 1 := (by omega); have mj1_1 : ¬ w.heap.size + 1 = w_j1.heap.size := (by omega); have qj1_0 := hcj1 (w.heap.size) (0) (by first | (have := hbj0.size; omega) | (have := hbj0.size; simp at this ⊢; omega) | (simp; omega)); have qj1_1 := hcj1 (w.heap.size) (1) (by first | (have := hbj0.size; omega) | (have := hbj0.size; simp at this ⊢; omega) | (simp; omega)); have qj1_2 := hcj1 (w.heap.size+1) (0) (by first | (have := hbj0.size; omega) | (have := hbj0.size; simp at this ⊢; omega) | (simp; omega)); have qj1_3 := hcj1 (w.heap.size+1) (1) (by first | (have := hbj0.size; omega) | (have := hbj0.size; simp at this ⊢; omega) | (simp; omega)); have qj1_4 := hcj1 (w.heap.size+1) (2) (by first | (have := hbj0.size; omega) | (have := hbj0.size; simp at this ⊢; omega) | (simp; omega)); have qj1_5 := hcj1 (w.heap.size+1) (3) (by first | (have := hbj0.size; omega) | (have := hbj0.size; simp at this ⊢; omega) | (simp; omega)); have qj1_6 := hcj1 (w.heap.size+1) (4) (by first | (have := hbj0.size; omega) | (have := hbj0.size; simp at this ⊢; omega) | (simp; omega)); (try have ltj0 := Nat.lt_of_lt_of_le ltj0 szj1))
              | (go_at_call 11; refine (toTrain_own _ t _ (htt.below (below_then hbw_hd ?_)) hbl).mono ?_; (first | exact (below_then (below_then (by repeat (first | with_reducible exact Below.refl _ _ | refine Below.setCell ?_ (by first | omega | (simp <;> omega) | (simp [World.setCell] <;> omega)) _ | refine Below.alloc ?_ (by first | omega | (simp <;> omega) | (simp [World.setCell] <;> omega)) _ | refine Below.drew ?_ | refine below_draws ?_ _ | exact Below.refl _ _)) hbj0) hbj1) | exact (below_then (below_then (below_then (by repeat (first | with_reducible exact Below.refl _ _ | refine Below.setCell ?_ (by first | omega | (simp <;> omega) | (simp [World.setCell] <;> omega)) _ | refine Below.alloc ?_ (by first | omega | (simp <;> omega) | (simp [World.setCell] <;> omega)) _ | refine Below.drew ?_ | refine below_draws ?_ _ | exact Below.refl _ _)) hbj0) (by repeat (first | with_reducible exact Below.refl _ _ | refine Below.setCell ?_ (by first | omega | (simp <;> omega) | (simp [World.setCell] <;> omega)) _ | refine Below.alloc ?_ (by first | omega | (simp <;> omega) | (simp [World.setCell] <;> omega)) _ | refine Below.drew ?_ | refine below_draws ?_ _ | exact Below.refl _ _))) hbj1) | exact (below_then (below_then (below_then (by repeat (first | with_reducible exact Below.refl _ _ | refine Below.setCell ?_ (by first | omega | (simp <;> omega) | (simp [World.setCell] <;> omega)) _ | refine Below.alloc ?_ (by first | omega | (simp <;> omega) | (simp [World.setCell] <;> omega)) _ | refine Below.drew ?_ | refine below_draws ?_ _ | exact Below.refl _ _)) hbj0) hbj1) (by repeat (first | with_reducible exact Below.refl _ _ | refine Below.setCell ?_ (by first | omega | (simp <;> omega) | (simp [World.setCell] <;> omega)) _ | refine Below.alloc ?_ (by first | omega | (simp <;> omega) | (simp [World.setCell] <;> omega)) _ | refine Below.drew ?_ | refine below_draws ?_ _ | exact Below.refl _ _)))); rintro e w_j2 ⟨_, rfl, ⟨j2b, rfl, hj2v⟩, hbj2⟩; obtain ⟨hcj2, hfj2⟩ := bcell hbj2; have szj2 := hbj2.size; (try simp at szj2); (try have ltj2 := Nat.lt_of_succ_le szj2); have nj2_0 : ¬ w_j2.heap.size = w.heap.size := (by omega); have mj2_0 : ¬ w.heap.size = w_j2.heap.size := (by omega); have nj2_1 : ¬ w_j2.heap.size = w.heap.size + 1 := (by omega); have mj2_1 : ¬ w.heap.size + 1 = w_j2.heap.size := (by omega); have qj2_0 := hcj2 (w.heap.size) (0) (by first | (have := hbj0.size; have := hbj1.size; omega) | (have := hbj0.size; have := hbj1.size; simp at this ⊢; omega) | (simp; omega)); have qj2_1 := hcj2 (w.heap.size) (1) (by first | (have := hbj0.size; have := hbj1.size; omega) | (have := hbj0.size; have := hbj1.size; simp at this ⊢; omega) | (simp; omega)); have qj2_2 := hcj2 (w.heap.size+1) (0) (by first | (have := hbj0.size; have := hbj1.size; omega) | (have := hbj0.size; have := hbj1.size; simp at this ⊢; omega) | (simp; omega)); have qj2_3 := hcj2 (w.heap.size+1) (1) (by first | (have := hbj0.size; have := hbj1.size; omega) | (have := hbj0.size; have := hbj1.size; simp at this ⊢; omega) | (simp; omega)); have qj2_4 := hcj2 (w.heap.size+1) (2) (by first | (have := hbj0.size; have := hbj1.size; omega) | (have := hbj0.size; have := hbj1.size; simp at this ⊢; omega) | (simp; omega)); have qj2_5 := hcj2 (w.heap.size+1) (3) (by first | (have := hbj0.size; have := hbj1.size; omega) | (have := hbj0.size; have := hbj1.size; simp at this ⊢; omega) | (simp; omega)); have qj2_6 := hcj2 (w.heap.size+1) (4) (by first | (have := hbj0.size; have := hbj1.size; omega) | (have := hbj0.size; have := hbj1.size; simp at this ⊢; omega) | (simp; omega)); (try have ltj0 := Nat.lt_of_lt_of_le ltj0 szj2); (try have ltj1 := Nat.lt_of_lt_of_le ltj1 szj2))
              | (go_at_call 12; refine (implMove_law _ n t j2b t.back.length _ zs _ z _ (hj0v.below ?_) (hj1v.below ?_) ((hj2v.at.mono (Nat.zero_le _)).below ?_) (hgl.below (below_then hbw_hd ?_)) (Nat.le_refl _) hbl k1' k2' (fun i h => (unhide HLE i h).1) (unhide HNM)).mono ?_; (first | exact (below_then hbj1 hbj2) | exact (below_then (below_then (by repeat (first | with_reducible exact Below.refl _ _ | refine Below.setCell ?_ (by first | omega | (simp <;> omega) | (simp [World.setCell] <;> omega)) _ | refine Below.alloc ?_ (by first | omega | (simp <;> omega) | (simp [World.setCell] <;> omega)) _ | refine Below.drew ?_ | refine below_draws ?_ _ | exact Below.refl _ _)) hbj1) hbj2) | exact (below_then (below_then hbj1 (by repeat (first | with_reducible exact Below.refl _ _ | refine Below.setCell ?_ (by first | omega | (simp <;> omega) | (simp [World.setCell] <;> omega)) _ | refine Below.alloc ?_ (by first | omega | (simp <;> omega) | (simp [World.setCell] <;> omega)) _ | refine Below.drew ?_ | refine below_draws ?_ _ | exact Below.refl _ _))) hbj2) | exact (below_then (below_then hbj1 hbj2) (by repeat (first | with_reducible exact Below.refl _ _ | refine Below.setCell ?_ (by first | omega | (simp <;> omega) | (simp [World.setCell] <;> omega)) _ | refine Below.alloc ?_ (by first | omega | (simp <;> omega) | (simp [World.setCell] <;> omega)) _ | refine Below.drew ?_ | refine below_draws ?_ _ | exact Below.refl _ _)))); (first | exact hbj2 | exact (below_then (by repeat (first | with_reducible exact Below.refl _ _ | refine Below.setCell ?_ (by first | omega | (simp <;> omega) | (simp [World.setCell] <;> omega)) _ | refine Below.alloc ?_ (by first | omega | (simp <;> omega) | (simp [World.setCell] <;> omega)) _ | refine Below.drew ?_ | refine below_draws ?_ _ | exact Below.refl _ _)) hbj2) | exact (below_then hbj2 (by repeat (first | with_reducible exact Below.refl _ _ | refine Below.setCell ?_ (by first | omega | (simp <;> omega) | (simp [World.setCell] <;> omega)) _ | refine Below.alloc ?_ (by first | omega | (simp <;> omega) | (simp [World.setCell] <;> omega)) _ | refine Below.drew ?_ | refine below_draws ?_ _ | exact Below.refl _ _)))); (first | exact (by repeat (first | with_reducible exact Below.refl _ _ | refine Below.setCell ?_ (by first | omega | (simp <;> omega) | (simp [World.setCell] <;> omega)) _ | refine Below.alloc ?_ (by first | omega | (simp <;> omega) | (simp [World.setCell] <;> omega)) _ | refine Below.drew ?_ | refine below_draws ?_ _ | exact Below.refl _ _))); (first | exact (below_then (below_then (below_then (by repeat (first | with_reducible exact Below.refl _ _ | refine Below.setCell ?_ (by first | omega | (simp <;> omega) | (simp [World.setCell] <;> omega)) _ | refine Below.alloc ?_ (by first | omega | (simp <;> omega) | (simp [World.setCell] <;> omega)) _ | refine Below.drew ?_ | refine below_draws ?_ _ | exact Below.refl _ _)) hbj0) hbj1) hbj2) | exact (below_then (below_then (below_then (below_then (by repeat (first | with_reducible exact Below.refl _ _ | refine Below.setCell ?_ (by first | omega | (simp <;> omega) | (simp [World.setCell] <;> omega)) _ | refine Below.alloc ?_ (by first | omega | (simp <;> omega) | (simp [World.setCell] <;> omega)) _ | refine Below.drew ?_ | refine below_draws ?_ _ | exact Below.refl _ _)) hbj0) (by repeat (first | with_reducible exact Below.refl _ _ | refine Below.setCell ?_ (by first | omega | (simp <;> omega) | (simp [World.setCell] <;> omega)) _ | refine Below.alloc ?_ (by first | omega | (simp <;> omega) | (simp [World.setCell] <;> omega)) _ | refine Below.drew ?_ | refine below_draws ?_ _ | exact Below.refl _ _))) hbj1) hbj2) | exact (below_then (below_then (below_then (below_then (by repeat (first | with_reducible exact Below.refl _ _ | refine Below.setCell ?_ (by first | omega | (simp <;> omega) | (simp [World.setCell] <;> omega)) _ | refine Below.alloc ?_ (by first | omega | (simp <;> omega) | (simp [World.setCell] <;> omega)) _ | refine Below.drew ?_ | refine below_draws ?_ _ | exact Below.refl _ _)) hbj0) hbj1) (by repeat (first | with_reducible exact Below.refl _ _ | refine Below.setCell ?_ (by first | omega | (simp <;> omega) | (simp [World.setCell] <;> omega)) _ | refine Below.alloc ?_ (by first | omega | (simp <;> omega) | (simp [World.setCell] <;> omega)) _ | refine Below.drew ?_ | refine below_draws ?_ _ | exact Below.refl _ _))) hbj2) | exact (below_then (below_then (below_then (below_then (by repeat (first | with_reducible exact Below.refl _ _ | refine Below.setCell ?_ (by first | omega | (simp <;> omega) | (simp [World.setCell] <;> omega)) _ | refine Below.alloc ?_ (by first | omega | (simp <;> omega) | (simp [World.setCell] <;> omega)) _ | refine Below.drew ?_ | refine below_draws ?_ _ | exact Below.refl _ _)) hbj0) hbj1) hbj2) (by repeat (first | with_reducible exact Below.refl _ _ | refine Below.setCell ?_ (by first | omega | (simp <;> omega) | (simp [World.setCell] <;> omega)) _ | refine Below.alloc ?_ (by first | omega | (simp <;> omega) | (simp [World.setCell] <;> omega)) _ | refine Below.drew ?_ | refine below_draws ?_ _ | exact Below.refl _ _)))); rintro e w_js ⟨⟨u2, ra, rcap, xa2, xcap, hans, rfl, hrow0, hrow1⟩, hbjs⟩; have HANS := hide hans; have HROW0 := hide hrow0; have HROW1 := hide hrow1; clear hans hrow0 hrow1; obtain ⟨hcjs, hfjs⟩ := bcell hbjs; have szjs := hbjs.size; (try simp at szjs); (try have ltjs := Nat.lt_of_succ_le szjs); have njs_0 : ¬ w_js.heap.size = w.heap.size := (by omega); have mjs_0 : ¬ w.heap.size = w_js.heap.size := (by omega); have njs_1 : ¬ w_js.heap.size = w.heap.size + 1 := (by omega); have mjs_1 : ¬ w.heap.size + 1 = w_js.heap.size := (by omega); have qjs_0 := hcjs (w.heap.size) (0) (by first | (have := hbj0.size; have := hbj1.size; have := hbj2.size; omega) | (have := hbj0.size; have := hbj1.size; have := hbj2.size; simp at this ⊢; omega) | (simp; omega)); have qjs_1 := hcjs (w.heap.size) (1) (by first | (have := hbj0.size; have := hbj1.size; have := hbj2.size; omega) | (have := hbj0.size; have := hbj1.size; have := hbj2.size; simp at this ⊢; omega) | (simp; omega)); have qjs_2 := hcjs (w.heap.size+1) (0) (by first | (have := hbj0.size; have := hbj1.size; have := hbj2.size; omega) | (have := hbj0.size; have := hbj1.size; have := hbj2.size; simp at this ⊢; omega) | (simp; omega)); have qjs_3 := hcjs (w.heap.size+1) (1) (by first | (have := hbj0.size; have := hbj1.size; have := hbj2.size; omega) | (have := hbj0.size; have := hbj1.size; have := hbj2.size; simp at this ⊢; omega) | (simp; omega)); have qjs_4 := hcjs (w.heap.size+1) (2) (by first | (have := hbj0.size; have := hbj1.size; have := hbj2.size; omega) | (have := hbj0.size; have := hbj1.size; have := hbj2.size; simp at this ⊢; omega) | (simp; omega)); have qjs_5 := hcjs (w.heap.size+1) (3) (by first | (have := hbj0.size; have := hbj1.size; have := hbj2.size; omega) | (have := hbj0.size; have := hbj1.size; have := hbj2.size; simp at this ⊢; omega) | (simp; omega)); have qjs_6 := hcjs (w.heap.size+1) (4) (by first | (have := hbj0.size; have := hbj1.size; have := hbj2.size; omega) | (have := hbj0.size; have := hbj1.size; have := hbj2.size; simp at this ⊢; omega) | (simp; omega)); (try have ltj0 := Nat.lt_of_lt_of_le ltj0 szjs); (try have ltj1 := Nat.lt_of_lt_of_le ltj1 szjs); (try have ltj2 := Nat.lt_of_lt_of_le ltj2 szjs)))
          all_goals go_wp2_with fail
          all_goals go_meet
          · have hw : Below w_hd.heap.size w_hd w_js := (below_then (below_then (below_then (below_then (by repeat (first | with_reducible exact Below.refl _ _ | refine Below.setCell ?_ (by first | omega | (simp <;> omega) | (simp [World.setCell] <;> omega)) _ | refine Below.alloc ?_ (by first | omega | (simp <;> omega) | (simp [World.setCell] <;> omega)) _ | refine Below.drew ?_ | refine below_draws ?_ _ | exact Below.refl _ _)) hbj0) hbj1) hbj2) hbjs)
            have hws := hw.size
            have hlt0 := (unhide HROW0).lt
            have hlt1 := (unhide HROW1).lt
            exact ⟨_, u2, ra, rcap, xa2, xcap, rfl, by omega, HANS, boxed_alloc _ _ _, hide (((unhide HROW0).below (by repeat (first | with_reducible exact Below.refl _ _ | refine Below.setCell ?_ (by first | omega | (simp <;> omega) | (simp [World.setCell] <;> omega)) _ | refine Below.alloc ?_ (by first | omega | (simp <;> omega) | (simp [World.setCell] <;> omega)) _ | refine Below.drew ?_ | refine below_draws ?_ _ | exact Below.refl _ _))).mono (by first | omega | (simp; omega))), hide (((unhide HROW1).below (by repeat (first | with_reducible exact Below.refl _ _ | refine Below.setCell ?_ (by first | omega | (simp <;> omega) | (simp [World.setCell] <;> omega)) _ | refine Below.alloc ?_ (by first | omega | (simp <;> omega) | (simp [World.setCell] <;> omega)) _ | refine Below.drew ?_ | refine below_draws ?_ _ | exact Below.refl _ _))).mono (by first | omega | (simp; omega))), fun k hk => by have := (hlt0 k hk).2; omega, fun k hk => by have := (hlt1 k hk).2; omega, below_then hw (by repeat (first | with_reducible exact Below.refl _ _ | refine Below.setCell ?_ (by first | omega | (simp <;> omega) | (simp [World.setCell] <;> omega)) _ | refine Below.alloc ?_ (by first | omega | (simp <;> omega) | (simp [World.setCell] <;> omega)) _ | refine Below.drew ?_ | refine below_draws ?_ _ | exact Below.refl _ _))⟩
          · have hZ : Boxed w_js (w_j2.heap.size) [.int .i64 0, .int .i64 0, .int .i64 0, .int .i64 0, .int .i64 0, .int .i64 0, .int .i64 0, .slice none 0 0, .slice none 0 0] := ((boxed_alloc _ _ _).below hbjs)
            have hw : Below w_hd.heap.size w_hd w_js := (below_then (below_then (below_then (below_then (below_then (by repeat (first | with_reducible exact Below.refl _ _ | refine Below.setCell ?_ (by first | omega | (simp <;> omega) | (simp [World.setCell] <;> omega)) _ | refine Below.alloc ?_ (by first | omega | (simp <;> omega) | (simp [World.setCell] <;> omega)) _ | refine Below.drew ?_ | refine below_draws ?_ _ | exact Below.refl _ _)) hbj0) hbj1) hbj2) (by repeat (first | with_reducible exact Below.refl _ _ | refine Below.setCell ?_ (by first | omega | (simp <;> omega) | (simp [World.setCell] <;> omega)) _ | refine Below.alloc ?_ (by first | omega | (simp <;> omega) | (simp [World.setCell] <;> omega)) _ | refine Below.drew ?_ | refine below_draws ?_ _ | exact Below.refl _ _))) hbjs)
            have hlt0 := (unhide HROW0).lt
            have hlt1 := (unhide HROW1).lt
            have hzl2 := hZ.1
            have hbl : w_hd.heap.size ≤ w_j2.heap.size := by have := hbj0.size; have := hbj1.size; have := hbj2.size; omega
            have hbB0 : ∀ k, (Value.slice ra u2.tr.back.length rcap).ownBlock = some k → w_j2.heap.size < k := fun k hk => by have := (hlt0 k hk).1;  simp at *; omega
            have hbB1 : ∀ k, (Value.slice xa2 u2.over.length xcap).ownBlock = some k → w_j2.heap.size < k := fun k hk => by have := (hlt1 k hk).1;  simp at *; omega
            refine ⟨_, u2, ra, rcap, xa2, xcap, rfl, hbl, HANS, (((((((((hZ.set (i := 0) (by simp) (.int .i64 u2.code)).set (i := 1) (by simp) (.int .i64 u2.far)).set (i := 2) (by simp) (.int .i64 u2.joint)).set (i := 3) (by simp) (.int .i64 u2.tr.front.piece)).set (i := 4) (by simp) (.int .i64 u2.tr.front.at_)).set (i := 5) (by simp) (.int .i64 u2.tr.front.way)).set (i := 6) (by simp) (.int .i64 u2.tr.long)).set (i := 7) (by simp) (.slice ra u2.tr.back.length rcap)).set (i := 8) (by simp) (.slice xa2 u2.over.length xcap)), ?row0, ?row1, fun k hk => by have := hbB0 k hk; omega, fun k hk => by have := hbB1 k hk; omega, (((((((((hw.setCell (p := ⟨w_j2.heap.size, 0, none⟩) hbl (.int .i64 u2.code)).setCell (p := ⟨w_j2.heap.size, 1, none⟩) hbl (.int .i64 u2.far)).setCell (p := ⟨w_j2.heap.size, 2, none⟩) hbl (.int .i64 u2.joint)).setCell (p := ⟨w_j2.heap.size, 3, none⟩) hbl (.int .i64 u2.tr.front.piece)).setCell (p := ⟨w_j2.heap.size, 4, none⟩) hbl (.int .i64 u2.tr.front.at_)).setCell (p := ⟨w_j2.heap.size, 5, none⟩) hbl (.int .i64 u2.tr.front.way)).setCell (p := ⟨w_j2.heap.size, 6, none⟩) hbl (.int .i64 u2.tr.long)).setCell (p := ⟨w_j2.heap.size, 7, none⟩) hbl (.slice ra u2.tr.back.length rcap)).setCell (p := ⟨w_j2.heap.size, 8, none⟩) hbl (.slice xa2 u2.over.length xcap))⟩
            case row0 =>
              refine hide (((unhide HROW0).mono ?_).block fun k hk => ?_)
              · have := hbj0.size; have := hbj1.size; have := hbj2.size; first | omega | (simp at *; omega)
              · have hne : k ≠ w_j2.heap.size := by have := hbB0 k hk; omega
                rw [Below.heap_setCell _ _ _ k (by simpa using hne), Below.heap_setCell _ _ _ k (by simpa using hne), Below.heap_setCell _ _ _ k (by simpa using hne), Below.heap_setCell _ _ _ k (by simpa using hne), Below.heap_setCell _ _ _ k (by simpa using hne), Below.heap_setCell _ _ _ k (by simpa using hne), Below.heap_setCell _ _ _ k (by simpa using hne), Below.heap_setCell _ _ _ k (by simpa using hne), Below.heap_setCell _ _ _ k (by simpa using hne)]
            case row1 =>
              refine hide (((unhide HROW1).mono ?_).block fun k hk => ?_)
              · have := hbj0.size; have := hbj1.size; have := hbj2.size; first | omega | (simp at *; omega)
              · have hne : k ≠ w_j2.heap.size := by have := hbB1 k hk; omega
                rw [Below.heap_setCell _ _ _ k (by simpa using hne), Below.heap_setCell _ _ _ k (by simpa using hne), Below.heap_setCell _ _ _ k (by simpa using hne), Below.heap_setCell _ _ _ k (by simpa using hne), Below.heap_setCell _ _ _ k (by simpa using hne), Below.heap_setCell _ _ _ k (by simpa using hne), Below.heap_setCell _ _ _ k (by simpa using hne), Below.heap_setCell _ _ _ k (by simpa using hne), Below.heap_setCell _ _ _ k (by simpa using hne)]
          · have hZ : Boxed w_js (w_j1.heap.size) [.int .i64 0, .int .i64 0, .int .i64 0, .int .i64 0, .int .i64 0, .int .i64 0, .int .i64 0, .slice none 0 0, .slice none 0 0] := (((boxed_alloc _ _ _).below hbj2).below hbjs)
            have hw : Below w_hd.heap.size w_hd w_js := (below_then (below_then (below_then (below_then (below_then (by repeat (first | with_reducible exact Below.refl _ _ | refine Below.setCell ?_ (by first | omega | (simp <;> omega) | (simp [World.setCell] <;> omega)) _ | refine Below.alloc ?_ (by first | omega | (simp <;> omega) | (simp [World.setCell] <;> omega)) _ | refine Below.drew ?_ | refine below_draws ?_ _ | exact Below.refl _ _)) hbj0) hbj1) (by repeat (first | with_reducible exact Below.refl _ _ | refine Below.setCell ?_ (by first | omega | (simp <;> omega) | (simp [World.setCell] <;> omega)) _ | refine Below.alloc ?_ (by first | omega | (simp <;> omega) | (simp [World.setCell] <;> omega)) _ | refine Below.drew ?_ | refine below_draws ?_ _ | exact Below.refl _ _))) hbj2) hbjs)
            have hlt0 := (unhide HROW0).lt
            have hlt1 := (unhide HROW1).lt
            have hzl2 := hZ.1
            have hbl : w_hd.heap.size ≤ w_j1.heap.size := by have := hbj0.size; have := hbj1.size; omega
            have hbB0 : ∀ k, (Value.slice ra u2.tr.back.length rcap).ownBlock = some k → w_j1.heap.size < k := fun k hk => by have := (hlt0 k hk).1; have := hbj2.size; simp at *; omega
            have hbB1 : ∀ k, (Value.slice xa2 u2.over.length xcap).ownBlock = some k → w_j1.heap.size < k := fun k hk => by have := (hlt1 k hk).1; have := hbj2.size; simp at *; omega
            refine ⟨_, u2, ra, rcap, xa2, xcap, rfl, hbl, HANS, (((((((((hZ.set (i := 0) (by simp) (.int .i64 u2.code)).set (i := 1) (by simp) (.int .i64 u2.far)).set (i := 2) (by simp) (.int .i64 u2.joint)).set (i := 3) (by simp) (.int .i64 u2.tr.front.piece)).set (i := 4) (by simp) (.int .i64 u2.tr.front.at_)).set (i := 5) (by simp) (.int .i64 u2.tr.front.way)).set (i := 6) (by simp) (.int .i64 u2.tr.long)).set (i := 7) (by simp) (.slice ra u2.tr.back.length rcap)).set (i := 8) (by simp) (.slice xa2 u2.over.length xcap)), ?row0, ?row1, fun k hk => by have := hbB0 k hk; omega, fun k hk => by have := hbB1 k hk; omega, (((((((((hw.setCell (p := ⟨w_j1.heap.size, 0, none⟩) hbl (.int .i64 u2.code)).setCell (p := ⟨w_j1.heap.size, 1, none⟩) hbl (.int .i64 u2.far)).setCell (p := ⟨w_j1.heap.size, 2, none⟩) hbl (.int .i64 u2.joint)).setCell (p := ⟨w_j1.heap.size, 3, none⟩) hbl (.int .i64 u2.tr.front.piece)).setCell (p := ⟨w_j1.heap.size, 4, none⟩) hbl (.int .i64 u2.tr.front.at_)).setCell (p := ⟨w_j1.heap.size, 5, none⟩) hbl (.int .i64 u2.tr.front.way)).setCell (p := ⟨w_j1.heap.size, 6, none⟩) hbl (.int .i64 u2.tr.long)).setCell (p := ⟨w_j1.heap.size, 7, none⟩) hbl (.slice ra u2.tr.back.length rcap)).setCell (p := ⟨w_j1.heap.size, 8, none⟩) hbl (.slice xa2 u2.over.length xcap))⟩
            case row0 =>
              refine hide (((unhide HROW0).mono ?_).block fun k hk => ?_)
              · have := hbj0.size; have := hbj1.size; have := hbj2.size; first | omega | (simp at *; omega)
              · have hne : k ≠ w_j1.heap.size := by have := hbB0 k hk; omega
                rw [Below.heap_setCell _ _ _ k (by simpa using hne), Below.heap_setCell _ _ _ k (by simpa using hne), Below.heap_setCell _ _ _ k (by simpa using hne), Below.heap_setCell _ _ _ k (by simpa using hne), Below.heap_setCell _ _ _ k (by simpa using hne), Below.heap_setCell _ _ _ k (by simpa using hne), Below.heap_setCell _ _ _ k (by simpa using hne), Below.heap_setCell _ _ _ k (by simpa using hne), Below.heap_setCell _ _ _ k (by simpa using hne)]
            case row1 =>
              refine hide (((unhide HROW1).mono ?_).block fun k hk => ?_)
              · have := hbj0.size; have := hbj1.size; have := hbj2.size; first | omega | (simp at *; omega)
              · have hne : k ≠ w_j1.heap.size := by have := hbB1 k hk; omega
                rw [Below.heap_setCell _ _ _ k (by simpa using hne), Below.heap_setCell _ _ _ k (by simpa using hne), Below.heap_setCell _ _ _ k (by simpa using hne), Below.heap_setCell _ _ _ k (by simpa using hne), Below.heap_setCell _ _ _ k (by simpa using hne), Below.heap_setCell _ _ _ k (by simpa using hne), Below.heap_setCell _ _ _ k (by simpa using hne), Below.heap_setCell _ _ _ k (by simpa using hne), Below.heap_setCell _ _ _ k (by simpa using hne)]
          · have hZ : Boxed w_js (w_j0.heap.size) [.int .i64 0, .int .i64 0, .int .i64 0, .int .i64 0, .int .i64 0, .int .i64 0, .int .i64 0, .slice none 0 0, .slice none 0 0] := ((((boxed_alloc _ _ _).below hbj1).below hbj2).below hbjs)
            have hw : Below w_hd.heap.size w_hd w_js := (below_then (below_then (below_then (below_then (below_then (by repeat (first | with_reducible exact Below.refl _ _ | refine Below.setCell ?_ (by first | omega | (simp <;> omega) | (simp [World.setCell] <;> omega)) _ | refine Below.alloc ?_ (by first | omega | (simp <;> omega) | (simp [World.setCell] <;> omega)) _ | refine Below.drew ?_ | refine below_draws ?_ _ | exact Below.refl _ _)) hbj0) (by repeat (first | with_reducible exact Below.refl _ _ | refine Below.setCell ?_ (by first | omega | (simp <;> omega) | (simp [World.setCell] <;> omega)) _ | refine Below.alloc ?_ (by first | omega | (simp <;> omega) | (simp [World.setCell] <;> omega)) _ | refine Below.drew ?_ | refine below_draws ?_ _ | exact Below.refl _ _))) hbj1) hbj2) hbjs)
            have hlt0 := (unhide HROW0).lt
            have hlt1 := (unhide HROW1).lt
            have hzl2 := hZ.1
            have hbl : w_hd.heap.size ≤ w_j0.heap.size := by have := hbj0.size; omega
            have hbB0 : ∀ k, (Value.slice ra u2.tr.back.length rcap).ownBlock = some k → w_j0.heap.size < k := fun k hk => by have := (hlt0 k hk).1; have := hbj1.size; have := hbj2.size; simp at *; omega
            have hbB1 : ∀ k, (Value.slice xa2 u2.over.length xcap).ownBlock = some k → w_j0.heap.size < k := fun k hk => by have := (hlt1 k hk).1; have := hbj1.size; have := hbj2.size; simp at *; omega
            refine ⟨_, u2, ra, rcap, xa2, xcap, rfl, hbl, HANS, (((((((((hZ.set (i := 0) (by simp) (.int .i64 u2.code)).set (i := 1) (by simp) (.int .i64 u2.far)).set (i := 2) (by simp) (.int .i64 u2.joint)).set (i := 3) (by simp) (.int .i64 u2.tr.front.piece)).set (i := 4) (by simp) (.int .i64 u2.tr.front.at_)).set (i := 5) (by simp) (.int .i64 u2.tr.front.way)).set (i := 6) (by simp) (.int .i64 u2.tr.long)).set (i := 7) (by simp) (.slice ra u2.tr.back.length rcap)).set (i := 8) (by simp) (.slice xa2 u2.over.length xcap)), ?row0, ?row1, fun k hk => by have := hbB0 k hk; omega, fun k hk => by have := hbB1 k hk; omega, (((((((((hw.setCell (p := ⟨w_j0.heap.size, 0, none⟩) hbl (.int .i64 u2.code)).setCell (p := ⟨w_j0.heap.size, 1, none⟩) hbl (.int .i64 u2.far)).setCell (p := ⟨w_j0.heap.size, 2, none⟩) hbl (.int .i64 u2.joint)).setCell (p := ⟨w_j0.heap.size, 3, none⟩) hbl (.int .i64 u2.tr.front.piece)).setCell (p := ⟨w_j0.heap.size, 4, none⟩) hbl (.int .i64 u2.tr.front.at_)).setCell (p := ⟨w_j0.heap.size, 5, none⟩) hbl (.int .i64 u2.tr.front.way)).setCell (p := ⟨w_j0.heap.size, 6, none⟩) hbl (.int .i64 u2.tr.long)).setCell (p := ⟨w_j0.heap.size, 7, none⟩) hbl (.slice ra u2.tr.back.length rcap)).setCell (p := ⟨w_j0.heap.size, 8, none⟩) hbl (.slice xa2 u2.over.length xcap))⟩
            case row0 =>
              refine hide (((unhide HROW0).mono ?_).block fun k hk => ?_)
              · have := hbj0.size; have := hbj1.size; have := hbj2.size; first | omega | (simp at *; omega)
              · have hne : k ≠ w_j0.heap.size := by have := hbB0 k hk; omega
                rw [Below.heap_setCell _ _ _ k (by simpa using hne), Below.heap_setCell _ _ _ k (by simpa using hne), Below.heap_setCell _ _ _ k (by simpa using hne), Below.heap_setCell _ _ _ k (by simpa using hne), Below.heap_setCell _ _ _ k (by simpa using hne), Below.heap_setCell _ _ _ k (by simpa using hne), Below.heap_setCell _ _ _ k (by simpa using hne), Below.heap_setCell _ _ _ k (by simpa using hne), Below.heap_setCell _ _ _ k (by simpa using hne)]
            case row1 =>
              refine hide (((unhide HROW1).mono ?_).block fun k hk => ?_)
              · have := hbj0.size; have := hbj1.size; have := hbj2.size; first | omega | (simp at *; omega)
              · have hne : k ≠ w_j0.heap.size := by have := hbB1 k hk; omega
                rw [Below.heap_setCell _ _ _ k (by simpa using hne), Below.heap_setCell _ _ _ k (by simpa using hne), Below.heap_setCell _ _ _ k (by simpa using hne), Below.heap_setCell _ _ _ k (by simpa using hne), Below.heap_setCell _ _ _ k (by simpa using hne), Below.heap_setCell _ _ _ k (by simpa using hne), Below.heap_setCell _ _ _ k (by simpa using hne), Below.heap_setCell _ _ _ k (by simpa using hne), Below.heap_setCell _ _ _ k (by simpa using hne)]
          · have hZ : Boxed w_js (w_hd.heap.size) [.int .i64 0, .int .i64 0, .int .i64 0, .int .i64 0, .int .i64 0, .int .i64 0, .int .i64 0, .slice none 0 0, .slice none 0 0] := (((((boxed_alloc _ _ _).drew.below hbj0).below hbj1).below hbj2).below hbjs)
            have hw : Below w_hd.heap.size w_hd w_js := (below_then (below_then (below_then (below_then (by repeat (first | with_reducible exact Below.refl _ _ | refine Below.setCell ?_ (by first | omega | (simp <;> omega) | (simp [World.setCell] <;> omega)) _ | refine Below.alloc ?_ (by first | omega | (simp <;> omega) | (simp [World.setCell] <;> omega)) _ | refine Below.drew ?_ | refine below_draws ?_ _ | exact Below.refl _ _)) hbj0) hbj1) hbj2) hbjs)
            have hlt0 := (unhide HROW0).lt
            have hlt1 := (unhide HROW1).lt
            have hzl2 := hZ.1
            have hbl : w_hd.heap.size ≤ w_hd.heap.size := by  omega
            have hbB0 : ∀ k, (Value.slice ra u2.tr.back.length rcap).ownBlock = some k → w_hd.heap.size < k := fun k hk => by have := (hlt0 k hk).1; have := hbj0.size; have := hbj1.size; have := hbj2.size; simp at *; omega
            have hbB1 : ∀ k, (Value.slice xa2 u2.over.length xcap).ownBlock = some k → w_hd.heap.size < k := fun k hk => by have := (hlt1 k hk).1; have := hbj0.size; have := hbj1.size; have := hbj2.size; simp at *; omega
            refine ⟨_, u2, ra, rcap, xa2, xcap, rfl, hbl, HANS, (((((((((hZ.set (i := 0) (by simp) (.int .i64 u2.code)).set (i := 1) (by simp) (.int .i64 u2.far)).set (i := 2) (by simp) (.int .i64 u2.joint)).set (i := 3) (by simp) (.int .i64 u2.tr.front.piece)).set (i := 4) (by simp) (.int .i64 u2.tr.front.at_)).set (i := 5) (by simp) (.int .i64 u2.tr.front.way)).set (i := 6) (by simp) (.int .i64 u2.tr.long)).set (i := 7) (by simp) (.slice ra u2.tr.back.length rcap)).set (i := 8) (by simp) (.slice xa2 u2.over.length xcap)), ?row0, ?row1, fun k hk => by have := hbB0 k hk; omega, fun k hk => by have := hbB1 k hk; omega, (((((((((hw.setCell (p := ⟨w_hd.heap.size, 0, none⟩) hbl (.int .i64 u2.code)).setCell (p := ⟨w_hd.heap.size, 1, none⟩) hbl (.int .i64 u2.far)).setCell (p := ⟨w_hd.heap.size, 2, none⟩) hbl (.int .i64 u2.joint)).setCell (p := ⟨w_hd.heap.size, 3, none⟩) hbl (.int .i64 u2.tr.front.piece)).setCell (p := ⟨w_hd.heap.size, 4, none⟩) hbl (.int .i64 u2.tr.front.at_)).setCell (p := ⟨w_hd.heap.size, 5, none⟩) hbl (.int .i64 u2.tr.front.way)).setCell (p := ⟨w_hd.heap.size, 6, none⟩) hbl (.int .i64 u2.tr.long)).setCell (p := ⟨w_hd.heap.size, 7, none⟩) hbl (.slice ra u2.tr.back.length rcap)).setCell (p := ⟨w_hd.heap.size, 8, none⟩) hbl (.slice xa2 u2.over.length xcap))⟩
            case row0 =>
              refine hide (((unhide HROW0).mono ?_).block fun k hk => ?_)
              · have := hbj0.size; have := hbj1.size; have := hbj2.size; first | omega | (simp at *; omega)
              · have hne : k ≠ w_hd.heap.size := by have := hbB0 k hk; omega
                rw [Below.heap_setCell _ _ _ k (by simpa using hne), Below.heap_setCell _ _ _ k (by simpa using hne), Below.heap_setCell _ _ _ k (by simpa using hne), Below.heap_setCell _ _ _ k (by simpa using hne), Below.heap_setCell _ _ _ k (by simpa using hne), Below.heap_setCell _ _ _ k (by simpa using hne), Below.heap_setCell _ _ _ k (by simpa using hne), Below.heap_setCell _ _ _ k (by simpa using hne), Below.heap_setCell _ _ _ k (by simpa using hne)]
            case row1 =>
              refine hide (((unhide HROW1).mono ?_).block fun k hk => ?_)
              · have := hbj0.size; have := hbj1.size; have := hbj2.size; first | omega | (simp at *; omega)
              · have hne : k ≠ w_hd.heap.size := by have := hbB1 k hk; omega
                rw [Below.heap_setCell _ _ _ k (by simpa using hne), Below.heap_setCell _ _ _ k (by simpa using hne), Below.heap_setCell _ _ _ k (by simpa using hne), Below.heap_setCell _ _ _ k (by simpa using hne), Below.heap_setCell _ _ _ k (by simpa using hne), Below.heap_setCell _ _ _ k (by simpa using hne), Below.heap_setCell _ _ _ k (by simpa using hne), Below.heap_setCell _ _ _ k (by simpa using hne), Below.heap_setCell _ _ _ k (by simpa using hne)]
        case rest =>
          obtain ⟨B2, u2, ra, rcap, xa2, xcap, rfl, hB2, HANS2, BH, HRH0, HRH1, hapH0, hapH1, hb_k⟩ := hcut
          obtain ⟨wK, rfl⟩ : ∃ wK, wK = wc := ⟨_, rfl⟩
          have et := (unhide HANS).unique (unhide HANS2)
          subst et
          clear p0_0 p0_1 p1_0 p1_1 p1_2 p1_3 p1_4 pn0 pn1
          clear hapH0 hapH1 hm0
          have hbw_K := below_then hbw_hd hb_k
          have X0_K := X0_hd.below hb_k
          have X1_K := X1_hd.below hb_k
          have BU_K := BU_hd.below hb_k
          have rU0_K := rU0_hd.below hb_k
          have rU1_K := rU1_hd.below hb_k
          have BG_K := BG_hd.below hb_k
          have g0 := BH.2.1 0 _ rfl
          have g1 := BH.2.1 1 _ rfl
          have g2 := BH.2.1 2 _ rfl
          have g3 := BH.2.1 3 _ rfl
          have g4 := BH.2.1 4 _ rfl
          have g5 := BH.2.1 5 _ rfl
          have g6 := BH.2.1 6 _ rfl
          have g7 := BH.2.1 7 _ rfl
          have g8 := BH.2.1 8 _ rfl
          have u0 := BU_K.2.1 0 _ rfl
          have u1 := BU_K.2.1 1 _ rfl
          have u2 := BU_K.2.1 2 _ rfl
          have u3 := BU_K.2.1 3 _ rfl
          have u4 := BU_K.2.1 4 _ rfl
          have u5 := BU_K.2.1 5 _ rfl
          have u6 := BU_K.2.1 6 _ rfl
          have u7 := BU_K.2.1 7 _ rfl
          have u8 := BU_K.2.1 8 _ rfl
          go_wp2_with fail
          refine (eqMoved_any u.code u.far u.joint u.tr.front u.tr.long u.tr.back u.over ra pa rcap pcap xa2 oa xcap ocap _ (by have := unhide HLEN; omega) (by have := unhide HLEN; omega) (stRow_sts (unhide HRH0)) (stRow_sts rU0_K) (ptRow_pts (unhide HRH1)) (ptRow_pts rU1_K)).mono ?_
          rintro e w_s ⟨rfl, hb_s⟩
          clear g0 u0 g1 u1 g2 u2 g3 u3 g4 u4 g5 u5 g6 u6 g7 u7 g8 u8
          have hbw_s := below_then hbw_K hb_s
          have X0_s := X0_K.below hb_s
          have X1_s := X1_K.below hb_s
          have BU_s := BU_K.below hb_s
          have rU0_s := rU0_K.below hb_s
          have rU1_s := rU1_K.below hb_s
          have BG_s := BG_K.below hb_s
          have g0 := BG_s.2.1 0 _ rfl
          have g1 := BG_s.2.1 1 _ rfl
          have g2 := BG_s.2.1 2 _ rfl
          have g3 := BG_s.2.1 3 _ rfl
          have g4 := BG_s.2.1 4 _ rfl
          have g5 := BG_s.2.1 5 _ rfl
          have g6 := BG_s.2.1 6 _ rfl
          have g7 := BG_s.2.1 7 _ rfl
          have g8 := BG_s.2.1 8 _ rfl
          go_wp2_with fail
          refine (heldMoved_any u.code u.far u.joint u.tr.front u.tr.long _ _ _ _ _ _ 1 _ (by have := unhide HLEN; omega) (by have := unhide HLEN; omega) (by omega) (by omega) ((hoG_hd.below hb_k).below hb_s) ((hoP_hd.below hb_k).below hb_s)).mono ?_
          rintro e w_z ⟨rfl, hb_z⟩
          have hm1 : ¬ ((1 : Int) + ((u.tr.back.length * 2 : Nat) : Int) + ((u.over.length * 3 : Nat) : Int) < 0) := by omega
          go_wp2
          go_ret
          exact ⟨rfl, below_then hbw_s hb_z⟩

end Go.Proofs.YtbdggfpfpjijoabGreatDoor

