import Derived.Test.YtbdggfpfpjijoaaG1
import Derived.Test.YtbdggfpfpjijoaaEq
import Derived.Test.YtbdggfpfpjijoaaG6
import Derived.Test.YtbdggfpfpjijoaaToInts
import Derived.Test.YtbdggfpfpjijoaaSpec16
namespace Go.Proofs.Ytbdggfpfpjijoaa
open Go.RowKit

set_option maxRecDepth 100000 in
set_option maxHeartbeats 8000000 in
theorem lawPlace_any (v : Value) (n : Nt) (q : Option Addr) (zs : List Int) (cq : Nat) (s : Sp) (z : Int) (w : World) {L L1 : Nat} (hv : NetAt L w v n) (hl : n.pieces.length ≤ maxLen) (hl' : n.joints.length ≤ maxLen) (hle : ∀ i (h : i < n.joints.length), n.joints[i].name.size ≤ maxLen ∧ n.joints[i].ends.length ≤ maxLen) (hnm : ∀ i (h : i < n.pieces.length), n.pieces[i].name.size ≤ maxLen) (hz : IntsAt L1 w q zs) :
    Calls Try.prog 7 #[v, .slice q zs.length cq, .agg #[.int .i64 s.piece, .int .i64 s.at_, .int .i64 s.way], .int .i64 z] w fun e w' => e = .returned (.bool true) ∧ Below w.heap.size w w' := by
  have hvv := hv
  obtain ⟨a, c, ca, cc, rfl, hp, hj⟩ := hv
  by_cases hbig : 1048576 < (zs.length : Int)
  · go_enter Try.func7, Try.ntmps7
    go_wp2
    go_ret
    exact ⟨rfl, (by repeat (first | with_reducible exact Below.refl _ _ | refine Below.setCell ?_ (by first | omega | (simp <;> omega) | (simp [World.setCell] <;> omega)) _ | refine Below.alloc ?_ (by first | omega | (simp <;> omega) | (simp [World.setCell] <;> omega)) _ | refine Below.drew ?_ | refine below_draws ?_ _ | exact Below.refl _ _))⟩
  have hzl : zs.length ≤ 1048576 := by omega
  go_enter Try.func7, Try.ntmps7
  go_wp2_with fail
  refine (szNet_any a c n.pieces n.joints ca cc 1048576 _ (by omega) (by omega) hl (L := L) ?hA hnm hl' ?hB hle).mono ?_
  case hA => exact hp.below (by repeat (first | with_reducible exact Below.refl _ _ | refine Below.setCell ?_ (by first | omega | (simp <;> omega) | (simp [World.setCell] <;> omega)) _ | refine Below.alloc ?_ (by first | omega | (simp <;> omega) | (simp [World.setCell] <;> omega)) _ | refine Below.drew ?_ | refine below_draws ?_ _ | exact Below.refl _ _))
  case hB => exact hj.below (by repeat (first | with_reducible exact Below.refl _ _ | refine Below.setCell ?_ (by first | omega | (simp <;> omega) | (simp [World.setCell] <;> omega)) _ | refine Below.alloc ?_ (by first | omega | (simp <;> omega) | (simp [World.setCell] <;> omega)) _ | refine Below.drew ?_ | refine below_draws ?_ _ | exact Below.refl _ _))
  rintro e w1 ⟨r1, rfl, hr1, hbd1, hb1⟩
  have hbw1 : Below w.heap.size w w1 := below_then (by repeat (first | with_reducible exact Below.refl _ _ | refine Below.setCell ?_ (by first | omega | (simp <;> omega) | (simp [World.setCell] <;> omega)) _ | refine Below.alloc ?_ (by first | omega | (simp <;> omega) | (simp [World.setCell] <;> omega)) _ | refine Below.drew ?_ | refine below_draws ?_ _ | exact Below.refl _ _)) hb1
  have X0_1 : Boxed w1 (w.heap.size) [.slice a n.pieces.length ca, .slice c n.joints.length cc] := ((boxedN _ _ _ (by simp)).alloc _).below hb1
  have X1_1 : Boxed w1 (w.heap.size + 1) [.int .i64 s.piece, .int .i64 s.at_, .int .i64 s.way] := (boxedN _ _ _ (by simp)).below hb1
  by_cases hneg1 : r1 < 0
  · go_wp2
    go_ret
    exact ⟨rfl, hbw1⟩
  obtain ⟨k1, k2, k3⟩ := hbd1 (by omega)
  have k1' : n.pieces.length ≤ 1048576 := by omega
  have k2' : n.joints.length ≤ 1048576 := by omega
  have k3' : ∀ i (h : i < n.joints.length), n.joints[i].ends.length ≤ 1048576 := fun i h => by have := k3 i h; omega
  clear k1 k2 k3 hbd1
  have HK := hide k3'
  have HLE := hide hle
  have HNM := hide hnm
  clear k3' hle hnm
  have p0 := X0_1.2.1 0 _ rfl
  have p1 := X0_1.2.1 1 _ rfl
  have p2 := X1_1.2.1 0 _ rfl
  have p3 := X1_1.2.1 1 _ rfl
  have p4 := X1_1.2.1 2 _ rfl
  have pn := X0_1.1
  have pm := X1_1.1
  have eg0 : ¬ w1.heap.size = w.heap.size := by omega
  have fg0 : ¬ w.heap.size = w1.heap.size := by omega
  have eg1 : ¬ w1.heap.size = w.heap.size + 1 := by omega
  have fg1 : ¬ w.heap.size + 1 = w1.heap.size := by omega
  go_upto_region 7 with fail
  go_cut [10] (fun p wx => ∃ (B : Nat) (ok : Bool) (t : Tr) (pa : Option Addr) (pcap : Nat), p = .pointer (some ⟨B, 0, none⟩) ∧ w1.heap.size ≤ B ∧ Hid (PlaceAns n zs s z ok t) ∧ Boxed wx B [.bool ok, .int .i64 t.front.piece, .int .i64 t.front.at_, .int .i64 t.front.way, .int .i64 t.long, .slice pa t.back.length pcap] ∧ Hid (StRow wx w1.heap.size (.slice pa t.back.length pcap) t.back) ∧ (∀ k, (Value.slice pa t.back.length pcap).ownBlock = some k → k ≠ B) ∧ Below w1.heap.size w1 wx)
  case first =>
    go_region_held3 (fun w' => w'.cell? ⟨w.heap.size, 0, none⟩ = some (.slice a n.pieces.length ca) ∧ w'.cell? ⟨w.heap.size, 1, none⟩ = some (.slice c n.joints.length cc) ∧ w'.cell? ⟨w.heap.size + 1, 0, none⟩ = some (.int .i64 s.piece) ∧ w'.cell? ⟨w.heap.size + 1, 1, none⟩ = some (.int .i64 s.at_) ∧ w'.cell? ⟨w.heap.size + 1, 2, none⟩ = some (.int .i64 s.way)) (((try dsimp only); (repeat' apply And.intro)) <;> (go_keep; done))
      (first
        | (go_at_call 15; refine (toNet_any _ n _ (hvv.below (below_then hbw1 ?_)) k1' k2' (unhide HK)).mono ?_; (first | exact (by repeat (first | with_reducible exact Below.refl _ _ | refine Below.setCell ?_ (by first | omega | (simp <;> omega) | (simp [World.setCell] <;> omega)) _ | refine Below.alloc ?_ (by first | omega | (simp <;> omega) | (simp [World.setCell] <;> omega)) _ | refine Below.drew ?_ | refine below_draws ?_ _ | exact Below.refl _ _))); rintro e w_g0 ⟨g0v, rfl, hg0v, hbg0⟩; obtain ⟨hcg0, hfg0⟩ := bcell hbg0; have szg0 := hbg0.size; (try simp at szg0); (try have ltg0 := Nat.lt_of_succ_le szg0); have ng0_0 : ¬ w_g0.heap.size = w.heap.size := (by omega); have mg0_0 : ¬ w.heap.size = w_g0.heap.size := (by omega); have ng0_1 : ¬ w_g0.heap.size = w.heap.size + 1 := (by omega); have mg0_1 : ¬ w.heap.size + 1 = w_g0.heap.size := (by omega); have qg0_0 := hcg0 (w.heap.size) (0) (by first | (simp; done) | (simp; omega) | omega); have qg0_1 := hcg0 (w.heap.size) (1) (by first | (simp; done) | (simp; omega) | omega); have qg0_2 := hcg0 (w.heap.size+1) (0) (by first | (simp; done) | (simp; omega) | omega); have qg0_3 := hcg0 (w.heap.size+1) (1) (by first | (simp; done) | (simp; omega) | omega); have qg0_4 := hcg0 (w.heap.size+1) (2) (by first | (simp; done) | (simp; omega) | omega))
        | (go_at_call 20; refine (toIntS_any _ zs _ _ hzl (hz.below (below_then hbw1 ?_))).mono ?_; (first | exact (below_then (by repeat (first | with_reducible exact Below.refl _ _ | refine Below.setCell ?_ (by first | omega | (simp <;> omega) | (simp [World.setCell] <;> omega)) _ | refine Below.alloc ?_ (by first | omega | (simp <;> omega) | (simp [World.setCell] <;> omega)) _ | refine Below.drew ?_ | refine below_draws ?_ _ | exact Below.refl _ _)) hbg0) | exact (below_then (below_then (by repeat (first | with_reducible exact Below.refl _ _ | refine Below.setCell ?_ (by first | omega | (simp <;> omega) | (simp [World.setCell] <;> omega)) _ | refine Below.alloc ?_ (by first | omega | (simp <;> omega) | (simp [World.setCell] <;> omega)) _ | refine Below.drew ?_ | refine below_draws ?_ _ | exact Below.refl _ _)) hbg0) (by repeat (first | with_reducible exact Below.refl _ _ | refine Below.setCell ?_ (by first | omega | (simp <;> omega) | (simp [World.setCell] <;> omega)) _ | refine Below.alloc ?_ (by first | omega | (simp <;> omega) | (simp [World.setCell] <;> omega)) _ | refine Below.drew ?_ | refine below_draws ?_ _ | exact Below.refl _ _)))); rintro e w_g1 ⟨g1v, rfl, hg1v, hbg1⟩; obtain ⟨hcg1, hfg1⟩ := bcell hbg1; have szg1 := hbg1.size; (try simp at szg1); (try have ltg1 := Nat.lt_of_succ_le szg1); have ng1_0 : ¬ w_g1.heap.size = w.heap.size := (by omega); have mg1_0 : ¬ w.heap.size = w_g1.heap.size := (by omega); have ng1_1 : ¬ w_g1.heap.size = w.heap.size + 1 := (by omega); have mg1_1 : ¬ w.heap.size + 1 = w_g1.heap.size := (by omega); have qg1_0 := hcg1 (w.heap.size) (0) (by first | (have := hbg0.size; omega) | (have := hbg0.size; simp at this ⊢; omega) | (simp; omega)); have qg1_1 := hcg1 (w.heap.size) (1) (by first | (have := hbg0.size; omega) | (have := hbg0.size; simp at this ⊢; omega) | (simp; omega)); have qg1_2 := hcg1 (w.heap.size+1) (0) (by first | (have := hbg0.size; omega) | (have := hbg0.size; simp at this ⊢; omega) | (simp; omega)); have qg1_3 := hcg1 (w.heap.size+1) (1) (by first | (have := hbg0.size; omega) | (have := hbg0.size; simp at this ⊢; omega) | (simp; omega)); have qg1_4 := hcg1 (w.heap.size+1) (2) (by first | (have := hbg0.size; omega) | (have := hbg0.size; simp at this ⊢; omega) | (simp; omega)); (try have ltg0 := Nat.lt_of_lt_of_le ltg0 szg1))
        | (go_at_call 29; refine (toSpot_any s.piece s.at_ s.way _).mono ?_; rintro e w_g2 ⟨rfl, hbg2⟩; obtain ⟨hcg2, hfg2⟩ := bcell hbg2; have szg2 := hbg2.size; (try simp at szg2); (try have ltg2 := Nat.lt_of_succ_le szg2); have ng2_0 : ¬ w_g2.heap.size = w.heap.size := (by omega); have mg2_0 : ¬ w.heap.size = w_g2.heap.size := (by omega); have ng2_1 : ¬ w_g2.heap.size = w.heap.size + 1 := (by omega); have mg2_1 : ¬ w.heap.size + 1 = w_g2.heap.size := (by omega); have qg2_0 := hcg2 (w.heap.size) (0) (by first | (have := hbg0.size; have := hbg1.size; omega) | (have := hbg0.size; have := hbg1.size; simp at this ⊢; omega) | (simp; omega)); have qg2_1 := hcg2 (w.heap.size) (1) (by first | (have := hbg0.size; have := hbg1.size; omega) | (have := hbg0.size; have := hbg1.size; simp at this ⊢; omega) | (simp; omega)); have qg2_2 := hcg2 (w.heap.size+1) (0) (by first | (have := hbg0.size; have := hbg1.size; omega) | (have := hbg0.size; have := hbg1.size; simp at this ⊢; omega) | (simp; omega)); have qg2_3 := hcg2 (w.heap.size+1) (1) (by first | (have := hbg0.size; have := hbg1.size; omega) | (have := hbg0.size; have := hbg1.size; simp at this ⊢; omega) | (simp; omega)); have qg2_4 := hcg2 (w.heap.size+1) (2) (by first | (have := hbg0.size; have := hbg1.size; omega) | (have := hbg0.size; have := hbg1.size; simp at this ⊢; omega) | (simp; omega)); (try have ltg0 := Nat.lt_of_lt_of_le ltg0 szg2); (try have ltg1 := Nat.lt_of_lt_of_le ltg1 szg2))
        | (go_at_call 28; refine (specPlace_any _ n _ zs _ s z _ (hg0v.below ?_) (hg1v.below ?_) k1' k2' (fun i h => ⟨unhide HK i h, (unhide HLE i h).1⟩) (unhide HNM)).mono ?_; (first | exact (below_then hbg1 hbg2) | exact (below_then (below_then (by repeat (first | with_reducible exact Below.refl _ _ | refine Below.setCell ?_ (by first | omega | (simp <;> omega) | (simp [World.setCell] <;> omega)) _ | refine Below.alloc ?_ (by first | omega | (simp <;> omega) | (simp [World.setCell] <;> omega)) _ | refine Below.drew ?_ | refine below_draws ?_ _ | exact Below.refl _ _)) hbg1) hbg2) | exact (below_then (below_then hbg1 (by repeat (first | with_reducible exact Below.refl _ _ | refine Below.setCell ?_ (by first | omega | (simp <;> omega) | (simp [World.setCell] <;> omega)) _ | refine Below.alloc ?_ (by first | omega | (simp <;> omega) | (simp [World.setCell] <;> omega)) _ | refine Below.drew ?_ | refine below_draws ?_ _ | exact Below.refl _ _))) hbg2) | exact (below_then (below_then hbg1 hbg2) (by repeat (first | with_reducible exact Below.refl _ _ | refine Below.setCell ?_ (by first | omega | (simp <;> omega) | (simp [World.setCell] <;> omega)) _ | refine Below.alloc ?_ (by first | omega | (simp <;> omega) | (simp [World.setCell] <;> omega)) _ | refine Below.drew ?_ | refine below_draws ?_ _ | exact Below.refl _ _)))); (first | exact hbg2 | exact (below_then (by repeat (first | with_reducible exact Below.refl _ _ | refine Below.setCell ?_ (by first | omega | (simp <;> omega) | (simp [World.setCell] <;> omega)) _ | refine Below.alloc ?_ (by first | omega | (simp <;> omega) | (simp [World.setCell] <;> omega)) _ | refine Below.drew ?_ | refine below_draws ?_ _ | exact Below.refl _ _)) hbg2) | exact (below_then hbg2 (by repeat (first | with_reducible exact Below.refl _ _ | refine Below.setCell ?_ (by first | omega | (simp <;> omega) | (simp [World.setCell] <;> omega)) _ | refine Below.alloc ?_ (by first | omega | (simp <;> omega) | (simp [World.setCell] <;> omega)) _ | refine Below.drew ?_ | refine below_draws ?_ _ | exact Below.refl _ _)))); rintro e w_gs ⟨⟨ok, t, pa, pcap, hans, rfl, hrow⟩, hbgs⟩; have HANS := hide hans; have HROW := hide hrow; clear hans hrow; obtain ⟨hcgs, hfgs⟩ := bcell hbgs; have szgs := hbgs.size; (try simp at szgs); (try have ltgs := Nat.lt_of_succ_le szgs); have ngs_0 : ¬ w_gs.heap.size = w.heap.size := (by omega); have mgs_0 : ¬ w.heap.size = w_gs.heap.size := (by omega); have ngs_1 : ¬ w_gs.heap.size = w.heap.size + 1 := (by omega); have mgs_1 : ¬ w.heap.size + 1 = w_gs.heap.size := (by omega); have qgs_0 := hcgs (w.heap.size) (0) (by first | (have := hbg0.size; have := hbg1.size; have := hbg2.size; omega) | (have := hbg0.size; have := hbg1.size; have := hbg2.size; simp at this ⊢; omega) | (simp; omega)); have qgs_1 := hcgs (w.heap.size) (1) (by first | (have := hbg0.size; have := hbg1.size; have := hbg2.size; omega) | (have := hbg0.size; have := hbg1.size; have := hbg2.size; simp at this ⊢; omega) | (simp; omega)); have qgs_2 := hcgs (w.heap.size+1) (0) (by first | (have := hbg0.size; have := hbg1.size; have := hbg2.size; omega) | (have := hbg0.size; have := hbg1.size; have := hbg2.size; simp at this ⊢; omega) | (simp; omega)); have qgs_3 := hcgs (w.heap.size+1) (1) (by first | (have := hbg0.size; have := hbg1.size; have := hbg2.size; omega) | (have := hbg0.size; have := hbg1.size; have := hbg2.size; simp at this ⊢; omega) | (simp; omega)); have qgs_4 := hcgs (w.heap.size+1) (2) (by first | (have := hbg0.size; have := hbg1.size; have := hbg2.size; omega) | (have := hbg0.size; have := hbg1.size; have := hbg2.size; simp at this ⊢; omega) | (simp; omega)); (try have ltg0 := Nat.lt_of_lt_of_le ltg0 szgs); (try have ltg1 := Nat.lt_of_lt_of_le ltg1 szgs); (try have ltg2 := Nat.lt_of_lt_of_le ltg2 szgs)))
    all_goals go_wp2_with fail
    all_goals go_meet
    · have hw : Below w1.heap.size w1 w_gs := (below_then (below_then (below_then (below_then (by repeat (first | with_reducible exact Below.refl _ _ | refine Below.setCell ?_ (by first | omega | (simp <;> omega) | (simp [World.setCell] <;> omega)) _ | refine Below.alloc ?_ (by first | omega | (simp <;> omega) | (simp [World.setCell] <;> omega)) _ | refine Below.drew ?_ | refine below_draws ?_ _ | exact Below.refl _ _)) hbg0) hbg1) hbg2) hbgs)
      have hws := hw.size
      have hlt := (unhide HROW).lt
      exact ⟨_, ok, t, pa, pcap, rfl, by omega, HANS, boxed_alloc _ _ _, hide (((unhide HROW).below (by repeat (first | with_reducible exact Below.refl _ _ | refine Below.setCell ?_ (by first | omega | (simp <;> omega) | (simp [World.setCell] <;> omega)) _ | refine Below.alloc ?_ (by first | omega | (simp <;> omega) | (simp [World.setCell] <;> omega)) _ | refine Below.drew ?_ | refine below_draws ?_ _ | exact Below.refl _ _))).mono (by first | omega | (simp; omega))), fun k hk => by have := (hlt k hk).2; omega, below_then hw (by repeat (first | with_reducible exact Below.refl _ _ | refine Below.setCell ?_ (by first | omega | (simp <;> omega) | (simp [World.setCell] <;> omega)) _ | refine Below.alloc ?_ (by first | omega | (simp <;> omega) | (simp [World.setCell] <;> omega)) _ | refine Below.drew ?_ | refine below_draws ?_ _ | exact Below.refl _ _))⟩
    · have hZ : Boxed w_gs (w_g2.heap.size) [.bool false, .int .i64 0, .int .i64 0, .int .i64 0, .int .i64 0, .slice none 0 0] := ((boxed_alloc _ _ _).below hbgs)
      have hw : Below w1.heap.size w1 w_gs := (below_then (below_then (below_then (below_then (below_then (by repeat (first | with_reducible exact Below.refl _ _ | refine Below.setCell ?_ (by first | omega | (simp <;> omega) | (simp [World.setCell] <;> omega)) _ | refine Below.alloc ?_ (by first | omega | (simp <;> omega) | (simp [World.setCell] <;> omega)) _ | refine Below.drew ?_ | refine below_draws ?_ _ | exact Below.refl _ _)) hbg0) hbg1) hbg2) (by repeat (first | with_reducible exact Below.refl _ _ | refine Below.setCell ?_ (by first | omega | (simp <;> omega) | (simp [World.setCell] <;> omega)) _ | refine Below.alloc ?_ (by first | omega | (simp <;> omega) | (simp [World.setCell] <;> omega)) _ | refine Below.drew ?_ | refine below_draws ?_ _ | exact Below.refl _ _))) hbgs)
      have hlt := (unhide HROW).lt
      have hzl2 := hZ.1
      have hbl : w1.heap.size ≤ w_g2.heap.size := by have := hbg0.size; have := hbg1.size; have := hbg2.size; omega
      have hbB : ∀ k, (Value.slice pa t.back.length pcap).ownBlock = some k → w_g2.heap.size < k := fun k hk => by have := (hlt k hk).1;  simp at *; omega
      refine ⟨_, ok, t, pa, pcap, rfl, hbl, HANS, (((((hZ.set (i := 0) (by simp) (.bool ok)).set (i := 1) (by simp) (.int .i64 t.front.piece)).set (i := 2) (by simp) (.int .i64 t.front.at_)).set (i := 3) (by simp) (.int .i64 t.front.way)).set (i := 4) (by simp) (.int .i64 t.long)).set (i := 5) (by simp) (.slice pa t.back.length pcap), ?_, fun k hk => by have := hbB k hk; omega, below_set6 hw hbl _ _ _ _ _ _⟩
      refine hide (((unhide HROW).mono ?_).block fun k hk => ?_)
      · have := hbg0.size; have := hbg1.size; have := hbg2.size; first | omega | (simp at *; omega)
      · have hne : k ≠ w_g2.heap.size := by have := hbB k hk; omega
        rw [Below.heap_setCell _ _ _ k (by simpa using hne), Below.heap_setCell _ _ _ k (by simpa using hne), Below.heap_setCell _ _ _ k (by simpa using hne), Below.heap_setCell _ _ _ k (by simpa using hne), Below.heap_setCell _ _ _ k (by simpa using hne), Below.heap_setCell _ _ _ k (by simpa using hne)]
    · have hZ : Boxed w_gs (w_g1.heap.size) [.bool false, .int .i64 0, .int .i64 0, .int .i64 0, .int .i64 0, .slice none 0 0] := (((boxed_alloc _ _ _).below hbg2).below hbgs)
      have hw : Below w1.heap.size w1 w_gs := (below_then (below_then (below_then (below_then (below_then (by repeat (first | with_reducible exact Below.refl _ _ | refine Below.setCell ?_ (by first | omega | (simp <;> omega) | (simp [World.setCell] <;> omega)) _ | refine Below.alloc ?_ (by first | omega | (simp <;> omega) | (simp [World.setCell] <;> omega)) _ | refine Below.drew ?_ | refine below_draws ?_ _ | exact Below.refl _ _)) hbg0) hbg1) (by repeat (first | with_reducible exact Below.refl _ _ | refine Below.setCell ?_ (by first | omega | (simp <;> omega) | (simp [World.setCell] <;> omega)) _ | refine Below.alloc ?_ (by first | omega | (simp <;> omega) | (simp [World.setCell] <;> omega)) _ | refine Below.drew ?_ | refine below_draws ?_ _ | exact Below.refl _ _))) hbg2) hbgs)
      have hlt := (unhide HROW).lt
      have hzl2 := hZ.1
      have hbl : w1.heap.size ≤ w_g1.heap.size := by have := hbg0.size; have := hbg1.size; omega
      have hbB : ∀ k, (Value.slice pa t.back.length pcap).ownBlock = some k → w_g1.heap.size < k := fun k hk => by have := (hlt k hk).1; have := hbg2.size; simp at *; omega
      refine ⟨_, ok, t, pa, pcap, rfl, hbl, HANS, (((((hZ.set (i := 0) (by simp) (.bool ok)).set (i := 1) (by simp) (.int .i64 t.front.piece)).set (i := 2) (by simp) (.int .i64 t.front.at_)).set (i := 3) (by simp) (.int .i64 t.front.way)).set (i := 4) (by simp) (.int .i64 t.long)).set (i := 5) (by simp) (.slice pa t.back.length pcap), ?_, fun k hk => by have := hbB k hk; omega, below_set6 hw hbl _ _ _ _ _ _⟩
      refine hide (((unhide HROW).mono ?_).block fun k hk => ?_)
      · have := hbg0.size; have := hbg1.size; have := hbg2.size; first | omega | (simp at *; omega)
      · have hne : k ≠ w_g1.heap.size := by have := hbB k hk; omega
        rw [Below.heap_setCell _ _ _ k (by simpa using hne), Below.heap_setCell _ _ _ k (by simpa using hne), Below.heap_setCell _ _ _ k (by simpa using hne), Below.heap_setCell _ _ _ k (by simpa using hne), Below.heap_setCell _ _ _ k (by simpa using hne), Below.heap_setCell _ _ _ k (by simpa using hne)]
    · have hZ : Boxed w_gs (w_g0.heap.size) [.bool false, .int .i64 0, .int .i64 0, .int .i64 0, .int .i64 0, .slice none 0 0] := ((((boxed_alloc _ _ _).below hbg1).below hbg2).below hbgs)
      have hw : Below w1.heap.size w1 w_gs := (below_then (below_then (below_then (below_then (below_then (by repeat (first | with_reducible exact Below.refl _ _ | refine Below.setCell ?_ (by first | omega | (simp <;> omega) | (simp [World.setCell] <;> omega)) _ | refine Below.alloc ?_ (by first | omega | (simp <;> omega) | (simp [World.setCell] <;> omega)) _ | refine Below.drew ?_ | refine below_draws ?_ _ | exact Below.refl _ _)) hbg0) (by repeat (first | with_reducible exact Below.refl _ _ | refine Below.setCell ?_ (by first | omega | (simp <;> omega) | (simp [World.setCell] <;> omega)) _ | refine Below.alloc ?_ (by first | omega | (simp <;> omega) | (simp [World.setCell] <;> omega)) _ | refine Below.drew ?_ | refine below_draws ?_ _ | exact Below.refl _ _))) hbg1) hbg2) hbgs)
      have hlt := (unhide HROW).lt
      have hzl2 := hZ.1
      have hbl : w1.heap.size ≤ w_g0.heap.size := by have := hbg0.size; omega
      have hbB : ∀ k, (Value.slice pa t.back.length pcap).ownBlock = some k → w_g0.heap.size < k := fun k hk => by have := (hlt k hk).1; have := hbg1.size; have := hbg2.size; simp at *; omega
      refine ⟨_, ok, t, pa, pcap, rfl, hbl, HANS, (((((hZ.set (i := 0) (by simp) (.bool ok)).set (i := 1) (by simp) (.int .i64 t.front.piece)).set (i := 2) (by simp) (.int .i64 t.front.at_)).set (i := 3) (by simp) (.int .i64 t.front.way)).set (i := 4) (by simp) (.int .i64 t.long)).set (i := 5) (by simp) (.slice pa t.back.length pcap), ?_, fun k hk => by have := hbB k hk; omega, below_set6 hw hbl _ _ _ _ _ _⟩
      refine hide (((unhide HROW).mono ?_).block fun k hk => ?_)
      · have := hbg0.size; have := hbg1.size; have := hbg2.size; first | omega | (simp at *; omega)
      · have hne : k ≠ w_g0.heap.size := by have := hbB k hk; omega
        rw [Below.heap_setCell _ _ _ k (by simpa using hne), Below.heap_setCell _ _ _ k (by simpa using hne), Below.heap_setCell _ _ _ k (by simpa using hne), Below.heap_setCell _ _ _ k (by simpa using hne), Below.heap_setCell _ _ _ k (by simpa using hne), Below.heap_setCell _ _ _ k (by simpa using hne)]
    · have hZ : Boxed w_gs (w1.heap.size) [.bool false, .int .i64 0, .int .i64 0, .int .i64 0, .int .i64 0, .slice none 0 0] := (((((boxed_alloc _ _ _).drew.below hbg0).below hbg1).below hbg2).below hbgs)
      have hw : Below w1.heap.size w1 w_gs := (below_then (below_then (below_then (below_then (by repeat (first | with_reducible exact Below.refl _ _ | refine Below.setCell ?_ (by first | omega | (simp <;> omega) | (simp [World.setCell] <;> omega)) _ | refine Below.alloc ?_ (by first | omega | (simp <;> omega) | (simp [World.setCell] <;> omega)) _ | refine Below.drew ?_ | refine below_draws ?_ _ | exact Below.refl _ _)) hbg0) hbg1) hbg2) hbgs)
      have hlt := (unhide HROW).lt
      have hzl2 := hZ.1
      have hbl : w1.heap.size ≤ w1.heap.size := by  omega
      have hbB : ∀ k, (Value.slice pa t.back.length pcap).ownBlock = some k → w1.heap.size < k := fun k hk => by have := (hlt k hk).1; have := hbg0.size; have := hbg1.size; have := hbg2.size; simp at *; omega
      refine ⟨_, ok, t, pa, pcap, rfl, hbl, HANS, (((((hZ.set (i := 0) (by simp) (.bool ok)).set (i := 1) (by simp) (.int .i64 t.front.piece)).set (i := 2) (by simp) (.int .i64 t.front.at_)).set (i := 3) (by simp) (.int .i64 t.front.way)).set (i := 4) (by simp) (.int .i64 t.long)).set (i := 5) (by simp) (.slice pa t.back.length pcap), ?_, fun k hk => by have := hbB k hk; omega, below_set6 hw hbl _ _ _ _ _ _⟩
      refine hide (((unhide HROW).mono ?_).block fun k hk => ?_)
      · have := hbg0.size; have := hbg1.size; have := hbg2.size; first | omega | (simp at *; omega)
      · have hne : k ≠ w1.heap.size := by have := hbB k hk; omega
        rw [Below.heap_setCell _ _ _ k (by simpa using hne), Below.heap_setCell _ _ _ k (by simpa using hne), Below.heap_setCell _ _ _ k (by simpa using hne), Below.heap_setCell _ _ _ k (by simpa using hne), Below.heap_setCell _ _ _ k (by simpa using hne), Below.heap_setCell _ _ _ k (by simpa using hne)]
  case rest =>
    obtain ⟨B0, ok, t, pa, pcap, rfl, hB0, HANS, BX0, HRU, hap0, hb_c⟩ := hcut
    obtain ⟨wA, rfl⟩ : ∃ wA, wA = wc := ⟨_, rfl⟩
    have hbwA := below_then hbw1 hb_c
    have X0_A := X0_1.below hb_c
    have X1_A := X1_1.below hb_c
    have hlen := (unhide HANS).len
    have HLEN := hide hlen
    have szA := hb_c.size
    have lB0 := BX0.1
    have HAP0 := hide hap0
    clear p0 p1 p2 p3 p4 pn pm hlen hap0
    have p0 := X0_A.2.1 0 _ rfl
    have p1 := X0_A.2.1 1 _ rfl
    have pn := X0_A.1
    go_wp2_with fail
    refine (toNet_own _ n _ (hvv.below hbwA) k1' k2' (unhide HK)).mono ?_
    rintro e w_x0 ⟨v_x0, rfl, hv_x0, hb_x0⟩
    clear p0 p1 pn
    have hbw_x0 := below_then hbwA hb_x0
    have X0_x0 := X0_A.below hb_x0
    have X1_x0 := X1_A.below hb_x0
    have BX0_x0 := BX0.below hb_x0
    have rU_x0 := (unhide HRU).below hb_x0
    have fN0 := hv_x0.at
    have fO0 := hv_x0
    obtain ⟨xa0, xc0, rfl, hxo0, hxj0⟩ := hv_x0
    have hA_x0 : Below w_x0.heap.size w_x0 (w_x0.alloc (.cells #[.slice xa0 n.pieces.length n.pieces.length, .slice xc0 n.joints.length n.joints.length] 26)) := (by repeat (first | with_reducible exact Below.refl _ _ | refine Below.setCell ?_ (by first | omega | (simp <;> omega) | (simp [World.setCell] <;> omega)) _ | refine Below.alloc ?_ (by first | omega | (simp <;> omega) | (simp [World.setCell] <;> omega)) _ | refine Below.drew ?_ | refine below_draws ?_ _ | exact Below.refl _ _))
    go_wp2_with fail
    refine (toIntS_own _ zs _ _ hzl (hz.below (below_then hbw_x0 hA_x0))).mono ?_
    rintro e w_x1 ⟨b1, mf1, rfl, hI1, mo1, hbk1, hb_x1⟩
    have hb'_x1 := below_then hA_x0 hb_x1
    have hbw_x1 := below_then hbw_x0 hb'_x1
    have X0_x1 := X0_x0.below hb'_x1
    have X1_x1 := X1_x0.below hb'_x1
    have BX0_x1 := BX0_x0.below hb'_x1
    have rU_x1 := rU_x0.below hb'_x1
    have fN0_x1 := fN0.below hb'_x1
    have sN0 := hb'_x1
    have Y0_x1 : Boxed w_x1 (w_x0.heap.size) [.slice xa0 n.pieces.length n.pieces.length, .slice xc0 n.joints.length n.joints.length] := (boxed_alloc _ _ _).below hb_x1
    have hbk1' : w_x0.heap.size < b1 ∧ b1 < w_x1.heap.size := by have := hbk1; simp at this; omega
    have sz_x0 := hb_x0.size
    have sz_x1 := hb'_x1.size
    have p0 := Y0_x1.2.1 0 _ rfl
    have p1 := Y0_x1.2.1 1 _ rfl
    have p2 := X1_x1.2.1 0 _ rfl
    have p3 := X1_x1.2.1 1 _ rfl
    have p4 := X1_x1.2.1 2 _ rfl
    have pn := Y0_x1.1
    have pm := X1_x1.1
    clear rU_x0 BX0_x0 X0_x0 X1_x0 hbk1
    have eh0 : ¬ w_x1.heap.size = w_x0.heap.size := by omega
    have fh0 : ¬ w_x0.heap.size = w_x1.heap.size := by omega
    have eh1 : ¬ w_x1.heap.size = w.heap.size + 1 := by omega
    have fh1 : ¬ w.heap.size + 1 = w_x1.heap.size := by omega
    go_upto_region 10 with fail
    go_cut [13] (fun p wx => ∃ (B : Nat) (ok : Bool) (t : Tr) (pa : Option Addr) (pcap : Nat), p = .pointer (some ⟨B, 0, none⟩) ∧ w_x1.heap.size ≤ B ∧ Hid (PlaceAns n zs s z ok t) ∧ Boxed wx B [.bool ok, .int .i64 t.front.piece, .int .i64 t.front.at_, .int .i64 t.front.way, .int .i64 t.long, .slice pa t.back.length pcap] ∧ Hid (StRow wx w_x1.heap.size (.slice pa t.back.length pcap) t.back) ∧ (∀ k, (Value.slice pa t.back.length pcap).ownBlock = some k → k ≠ B) ∧ Below w_x1.heap.size w_x1 wx)
    case first =>
      go_region_held3 (fun w' => w'.cell? ⟨w_x0.heap.size, 0, none⟩ = some (.slice xa0 n.pieces.length n.pieces.length) ∧ w'.cell? ⟨w_x0.heap.size, 1, none⟩ = some (.slice xc0 n.joints.length n.joints.length) ∧ w'.cell? ⟨w.heap.size + 1, 0, none⟩ = some (.int .i64 s.piece) ∧ w'.cell? ⟨w.heap.size + 1, 1, none⟩ = some (.int .i64 s.at_) ∧ w'.cell? ⟨w.heap.size + 1, 2, none⟩ = some (.int .i64 s.way)) (((try dsimp only); (repeat' apply And.intro)) <;> (go_keep; done))
        (first
          | (go_at_call 29; refine (toSpot_any s.piece s.at_ s.way _).mono ?_; rintro e w_h0 ⟨rfl, hbh0⟩; obtain ⟨hch0, hfh0⟩ := bcell hbh0; have szh0 := hbh0.size; (try simp at szh0); (try have lth0 := Nat.lt_of_succ_le szh0); have nh0_0 : ¬ w_h0.heap.size = w_x0.heap.size := (by omega); have mh0_0 : ¬ w_x0.heap.size = w_h0.heap.size := (by omega); have nh0_1 : ¬ w_h0.heap.size = w.heap.size + 1 := (by omega); have mh0_1 : ¬ w.heap.size + 1 = w_h0.heap.size := (by omega); have qh0_0 := hch0 (w_x0.heap.size) (0) (by first | (simp; done) | (simp; omega) | omega); have qh0_1 := hch0 (w_x0.heap.size) (1) (by first | (simp; done) | (simp; omega) | omega); have qh0_2 := hch0 (w.heap.size+1) (0) (by first | (simp; done) | (simp; omega) | omega); have qh0_3 := hch0 (w.heap.size+1) (1) (by first | (simp; done) | (simp; omega) | omega); have qh0_4 := hch0 (w.heap.size+1) (2) (by first | (simp; done) | (simp; omega) | omega))
          | (go_at_call 30; refine (implPlace_any _ n _ zs _ s z _ (fN0_x1.below ?_) (hI1.below ?_) k1' k2' (fun i h => (unhide HLE i h).1) (unhide HNM)).mono ?_; (first | exact (below_then (by repeat (first | with_reducible exact Below.refl _ _ | refine Below.setCell ?_ (by first | omega | (simp <;> omega) | (simp [World.setCell] <;> omega)) _ | refine Below.alloc ?_ (by first | omega | (simp <;> omega) | (simp [World.setCell] <;> omega)) _ | refine Below.drew ?_ | refine below_draws ?_ _ | exact Below.refl _ _)) hbh0) | exact (below_then (below_then (by repeat (first | with_reducible exact Below.refl _ _ | refine Below.setCell ?_ (by first | omega | (simp <;> omega) | (simp [World.setCell] <;> omega)) _ | refine Below.alloc ?_ (by first | omega | (simp <;> omega) | (simp [World.setCell] <;> omega)) _ | refine Below.drew ?_ | refine below_draws ?_ _ | exact Below.refl _ _)) hbh0) (by repeat (first | with_reducible exact Below.refl _ _ | refine Below.setCell ?_ (by first | omega | (simp <;> omega) | (simp [World.setCell] <;> omega)) _ | refine Below.alloc ?_ (by first | omega | (simp <;> omega) | (simp [World.setCell] <;> omega)) _ | refine Below.drew ?_ | refine below_draws ?_ _ | exact Below.refl _ _)))); (first | exact (below_then (by repeat (first | with_reducible exact Below.refl _ _ | refine Below.setCell ?_ (by first | omega | (simp <;> omega) | (simp [World.setCell] <;> omega)) _ | refine Below.alloc ?_ (by first | omega | (simp <;> omega) | (simp [World.setCell] <;> omega)) _ | refine Below.drew ?_ | refine below_draws ?_ _ | exact Below.refl _ _)) hbh0) | exact (below_then (below_then (by repeat (first | with_reducible exact Below.refl _ _ | refine Below.setCell ?_ (by first | omega | (simp <;> omega) | (simp [World.setCell] <;> omega)) _ | refine Below.alloc ?_ (by first | omega | (simp <;> omega) | (simp [World.setCell] <;> omega)) _ | refine Below.drew ?_ | refine below_draws ?_ _ | exact Below.refl _ _)) hbh0) (by repeat (first | with_reducible exact Below.refl _ _ | refine Below.setCell ?_ (by first | omega | (simp <;> omega) | (simp [World.setCell] <;> omega)) _ | refine Below.alloc ?_ (by first | omega | (simp <;> omega) | (simp [World.setCell] <;> omega)) _ | refine Below.drew ?_ | refine below_draws ?_ _ | exact Below.refl _ _)))); rintro e w_hs ⟨⟨ok, t, pa, pcap, hans, rfl, hrow⟩, hbhs⟩; have HANS := hide hans; have HROW := hide hrow; clear hans hrow; obtain ⟨hchs, hfhs⟩ := bcell hbhs; have szhs := hbhs.size; (try simp at szhs); (try have lths := Nat.lt_of_succ_le szhs); have nhs_0 : ¬ w_hs.heap.size = w_x0.heap.size := (by omega); have mhs_0 : ¬ w_x0.heap.size = w_hs.heap.size := (by omega); have nhs_1 : ¬ w_hs.heap.size = w.heap.size + 1 := (by omega); have mhs_1 : ¬ w.heap.size + 1 = w_hs.heap.size := (by omega); have qhs_0 := hchs (w_x0.heap.size) (0) (by first | (have := hbh0.size; omega) | (have := hbh0.size; simp at this ⊢; omega) | (simp; omega)); have qhs_1 := hchs (w_x0.heap.size) (1) (by first | (have := hbh0.size; omega) | (have := hbh0.size; simp at this ⊢; omega) | (simp; omega)); have qhs_2 := hchs (w.heap.size+1) (0) (by first | (have := hbh0.size; omega) | (have := hbh0.size; simp at this ⊢; omega) | (simp; omega)); have qhs_3 := hchs (w.heap.size+1) (1) (by first | (have := hbh0.size; omega) | (have := hbh0.size; simp at this ⊢; omega) | (simp; omega)); have qhs_4 := hchs (w.heap.size+1) (2) (by first | (have := hbh0.size; omega) | (have := hbh0.size; simp at this ⊢; omega) | (simp; omega)); (try have lth0 := Nat.lt_of_lt_of_le lth0 szhs)))
      all_goals go_wp2_with fail
      all_goals go_meet
      · have hw : Below w_x1.heap.size w_x1 w_hs := (below_then (below_then (by repeat (first | with_reducible exact Below.refl _ _ | refine Below.setCell ?_ (by first | omega | (simp <;> omega) | (simp [World.setCell] <;> omega)) _ | refine Below.alloc ?_ (by first | omega | (simp <;> omega) | (simp [World.setCell] <;> omega)) _ | refine Below.drew ?_ | refine below_draws ?_ _ | exact Below.refl _ _)) hbh0) hbhs)
        have hws := hw.size
        have hlt := (unhide HROW).lt
        exact ⟨_, ok, t, pa, pcap, rfl, by omega, HANS, boxed_alloc _ _ _, hide (((unhide HROW).below (by repeat (first | with_reducible exact Below.refl _ _ | refine Below.setCell ?_ (by first | omega | (simp <;> omega) | (simp [World.setCell] <;> omega)) _ | refine Below.alloc ?_ (by first | omega | (simp <;> omega) | (simp [World.setCell] <;> omega)) _ | refine Below.drew ?_ | refine below_draws ?_ _ | exact Below.refl _ _))).mono (by first | omega | (simp; omega))), fun k hk => by have := (hlt k hk).2; omega, below_then hw (by repeat (first | with_reducible exact Below.refl _ _ | refine Below.setCell ?_ (by first | omega | (simp <;> omega) | (simp [World.setCell] <;> omega)) _ | refine Below.alloc ?_ (by first | omega | (simp <;> omega) | (simp [World.setCell] <;> omega)) _ | refine Below.drew ?_ | refine below_draws ?_ _ | exact Below.refl _ _))⟩
      · have hZ : Boxed w_hs (w_h0.heap.size) [.bool false, .int .i64 0, .int .i64 0, .int .i64 0, .int .i64 0, .slice none 0 0] := ((boxed_alloc _ _ _).below hbhs)
        have hw : Below w_x1.heap.size w_x1 w_hs := (below_then (below_then (below_then (by repeat (first | with_reducible exact Below.refl _ _ | refine Below.setCell ?_ (by first | omega | (simp <;> omega) | (simp [World.setCell] <;> omega)) _ | refine Below.alloc ?_ (by first | omega | (simp <;> omega) | (simp [World.setCell] <;> omega)) _ | refine Below.drew ?_ | refine below_draws ?_ _ | exact Below.refl _ _)) hbh0) (by repeat (first | with_reducible exact Below.refl _ _ | refine Below.setCell ?_ (by first | omega | (simp <;> omega) | (simp [World.setCell] <;> omega)) _ | refine Below.alloc ?_ (by first | omega | (simp <;> omega) | (simp [World.setCell] <;> omega)) _ | refine Below.drew ?_ | refine below_draws ?_ _ | exact Below.refl _ _))) hbhs)
        have hlt := (unhide HROW).lt
        have hzl2 := hZ.1
        have hbl : w_x1.heap.size ≤ w_h0.heap.size := by have := hbh0.size; omega
        have hbB : ∀ k, (Value.slice pa t.back.length pcap).ownBlock = some k → w_h0.heap.size < k := fun k hk => by have := (hlt k hk).1;  simp at *; omega
        refine ⟨_, ok, t, pa, pcap, rfl, hbl, HANS, (((((hZ.set (i := 0) (by simp) (.bool ok)).set (i := 1) (by simp) (.int .i64 t.front.piece)).set (i := 2) (by simp) (.int .i64 t.front.at_)).set (i := 3) (by simp) (.int .i64 t.front.way)).set (i := 4) (by simp) (.int .i64 t.long)).set (i := 5) (by simp) (.slice pa t.back.length pcap), ?_, fun k hk => by have := hbB k hk; omega, below_set6 hw hbl _ _ _ _ _ _⟩
        refine hide (((unhide HROW).mono ?_).block fun k hk => ?_)
        · have := hbh0.size; first | omega | (simp at *; omega)
        · have hne : k ≠ w_h0.heap.size := by have := hbB k hk; omega
          rw [Below.heap_setCell _ _ _ k (by simpa using hne), Below.heap_setCell _ _ _ k (by simpa using hne), Below.heap_setCell _ _ _ k (by simpa using hne), Below.heap_setCell _ _ _ k (by simpa using hne), Below.heap_setCell _ _ _ k (by simpa using hne), Below.heap_setCell _ _ _ k (by simpa using hne)]
      · have hZ : Boxed w_hs (w_x1.heap.size) [.bool false, .int .i64 0, .int .i64 0, .int .i64 0, .int .i64 0, .slice none 0 0] := (((boxed_alloc _ _ _).drew.below hbh0).below hbhs)
        have hw : Below w_x1.heap.size w_x1 w_hs := (below_then (below_then (by repeat (first | with_reducible exact Below.refl _ _ | refine Below.setCell ?_ (by first | omega | (simp <;> omega) | (simp [World.setCell] <;> omega)) _ | refine Below.alloc ?_ (by first | omega | (simp <;> omega) | (simp [World.setCell] <;> omega)) _ | refine Below.drew ?_ | refine below_draws ?_ _ | exact Below.refl _ _)) hbh0) hbhs)
        have hlt := (unhide HROW).lt
        have hzl2 := hZ.1
        have hbl : w_x1.heap.size ≤ w_x1.heap.size := by  omega
        have hbB : ∀ k, (Value.slice pa t.back.length pcap).ownBlock = some k → w_x1.heap.size < k := fun k hk => by have := (hlt k hk).1; have := hbh0.size; simp at *; omega
        refine ⟨_, ok, t, pa, pcap, rfl, hbl, HANS, (((((hZ.set (i := 0) (by simp) (.bool ok)).set (i := 1) (by simp) (.int .i64 t.front.piece)).set (i := 2) (by simp) (.int .i64 t.front.at_)).set (i := 3) (by simp) (.int .i64 t.front.way)).set (i := 4) (by simp) (.int .i64 t.long)).set (i := 5) (by simp) (.slice pa t.back.length pcap), ?_, fun k hk => by have := hbB k hk; omega, below_set6 hw hbl _ _ _ _ _ _⟩
        refine hide (((unhide HROW).mono ?_).block fun k hk => ?_)
        · have := hbh0.size; first | omega | (simp at *; omega)
        · have hne : k ≠ w_x1.heap.size := by have := hbB k hk; omega
          rw [Below.heap_setCell _ _ _ k (by simpa using hne), Below.heap_setCell _ _ _ k (by simpa using hne), Below.heap_setCell _ _ _ k (by simpa using hne), Below.heap_setCell _ _ _ k (by simpa using hne), Below.heap_setCell _ _ _ k (by simpa using hne), Below.heap_setCell _ _ _ k (by simpa using hne)]
    case rest =>
      obtain ⟨B1, ok1, t1, qa, qcap, rfl, hB1, HANS1, BX1, HRG, hap1, hb_d⟩ := hcut
      obtain ⟨wD, rfl⟩ : ∃ wD, wD = wc := ⟨_, rfl⟩
      obtain ⟨eo, et⟩ := (unhide HANS).unique (unhide HANS1)
      subst eo et
      have HAP1 := hide hap1
      have HLTG := hide (unhide HRG).lt
      clear p0 p1 p2 p3 p4 pn pm hap1
      have hbw_D := below_then hbw_x1 hb_d
      have X0_D := X0_x1.below hb_d
      have X1_D := X1_x1.below hb_d
      have Y0_D := Y0_x1.below hb_d
      have BX0_D := BX0_x1.below hb_d
      have rU_D := rU_x1.below hb_d
      have fN0_D := fN0_x1.below hb_d
      have fI1_D := hI1.below hb_d
      have sN0_D := below_then sN0 hb_d
      have mo1_D := mo1.below hb_d
      have szD := hb_d.size
      have lB1 := BX1.1
      clear X0_x1 X1_x1 Y0_x1 BX0_x1 rU_x1
      have g0 := BX1.2.1 0 _ rfl
      have g1 := BX1.2.1 1 _ rfl
      have g2 := BX1.2.1 2 _ rfl
      have g3 := BX1.2.1 3 _ rfl
      have g4 := BX1.2.1 4 _ rfl
      have g5 := BX1.2.1 5 _ rfl
      have u0 := BX0_D.2.1 0 _ rfl
      have u1 := BX0_D.2.1 1 _ rfl
      have u2 := BX0_D.2.1 2 _ rfl
      have u3 := BX0_D.2.1 3 _ rfl
      have u4 := BX0_D.2.1 4 _ rfl
      have u5 := BX0_D.2.1 5 _ rfl
      go_wp2_with fail
      refine (eqPlaced_any _ _ ok t _ (by have := unhide HLEN; omega) ⟨qa, qcap, rfl, stRow_sts (unhide HRG)⟩ ⟨pa, pcap, rfl, stRow_sts rU_D⟩).mono ?_
      rintro e w_q ⟨rfl, hb_q⟩
      clear g0 g1 g2 g3 g4 g5 u0 u1 u2 u3 u4 u5
      have hbw_q := below_then hbw_D hb_q
      have X0_q := X0_D.below hb_q
      have X1_q := X1_D.below hb_q
      have Y0_q := Y0_D.below hb_q
      have BX0_q := BX0_D.below hb_q
      have BX1_q := BX1.below hb_q
      have rU_q := rU_D.below hb_q
      have rG_q := (unhide HRG).below hb_q
      have fN0_q := fN0_D.below hb_q
      have fI1_q := fI1_D.below hb_q
      have sN0_q := below_then sN0_D hb_q
      have mo1_q := mo1_D.below hb_q
      have sz_q := hb_q.size
      have p0 := X0_q.2.1 0 _ rfl
      have p1 := X0_q.2.1 1 _ rfl
      have y0 := Y0_q.2.1 0 _ rfl
      have y1 := Y0_q.2.1 1 _ rfl
      have pn := X0_q.1
      have yn := Y0_q.1
      go_upto_region 13 with fail
      go_cut [52] (fun b wx => b = .bool false ∧ Below w_q.heap.size w_q wx)
      case first =>
        go_region_held3 (fun w' => w'.cell? ⟨w.heap.size, 0, none⟩ = some (.slice a n.pieces.length ca) ∧ w'.cell? ⟨w.heap.size, 1, none⟩ = some (.slice c n.joints.length cc) ∧ w'.cell? ⟨w_x0.heap.size, 0, none⟩ = some (.slice xa0 n.pieces.length n.pieces.length) ∧ w'.cell? ⟨w_x0.heap.size, 1, none⟩ = some (.slice xc0 n.joints.length n.joints.length)) (((try dsimp only); (repeat' apply And.intro)) <;> (go_keep; done))
          (first
            | (go_at_call 15; refine (toNet_any _ n _ (hvv.below (below_then hbw_q (by repeat (first | with_reducible exact Below.refl _ _ | refine Below.setCell ?_ (by first | omega | (simp <;> omega) | (simp [World.setCell] <;> omega)) _ | refine Below.alloc ?_ (by first | omega | (simp <;> omega) | (simp [World.setCell] <;> omega)) _ | refine Below.drew ?_ | refine below_draws ?_ _ | exact Below.refl _ _)))) k1' k2' (unhide HK)).mono ?_; rintro e w_ea ⟨v_ea, rfl, hv_ea, hb_ea⟩; obtain ⟨hc_ea, hf_ea⟩ := bcell hb_ea; have sz_ea := hb_ea.size; (try simp at sz_ea); have qq0 := hc_ea (w.heap.size) (0) (by first | (simp; done) | (simp; omega) | omega); have qq1 := hc_ea (w.heap.size) (1) (by first | (simp; done) | (simp; omega) | omega); have qq2 := hc_ea (w_x0.heap.size) (0) (by first | (simp; done) | (simp; omega) | omega); have qq3 := hc_ea (w_x0.heap.size) (1) (by first | (simp; done) | (simp; omega) | omega))
            | (go_at_call 18; refine (eqNet_any _ _ n _ k1' k2' (unhide HK) (fN0_q.below (below_then (by repeat (first | with_reducible exact Below.refl _ _ | refine Below.setCell ?_ (by first | omega | (simp <;> omega) | (simp [World.setCell] <;> omega)) _ | refine Below.alloc ?_ (by first | omega | (simp <;> omega) | (simp [World.setCell] <;> omega)) _ | refine Below.drew ?_ | refine below_draws ?_ _ | exact Below.refl _ _)) hb_ea)) hv_ea).mono ?_; rintro e w_eb ⟨rfl, hb_eb⟩; obtain ⟨hc_eb, hf_eb⟩ := bcell hb_eb; have rr0 := hc_eb (w.heap.size) (0) (by first | (have := hb_ea.size; omega) | (have := hb_ea.size; simp at this ⊢; omega) | (simp; omega)); have rr1 := hc_eb (w.heap.size) (1) (by first | (have := hb_ea.size; omega) | (have := hb_ea.size; simp at this ⊢; omega) | (simp; omega)); have rr2 := hc_eb (w_x0.heap.size) (0) (by first | (have := hb_ea.size; omega) | (have := hb_ea.size; simp at this ⊢; omega) | (simp; omega)); have rr3 := hc_eb (w_x0.heap.size) (1) (by first | (have := hb_ea.size; omega) | (have := hb_ea.size; simp at this ⊢; omega) | (simp; omega))))
        all_goals go_wp2_with fail
        all_goals go_meet
        all_goals exact ⟨rfl, below_then (below_then (by repeat (first | with_reducible exact Below.refl _ _ | refine Below.setCell ?_ (by first | omega | (simp <;> omega) | (simp [World.setCell] <;> omega)) _ | refine Below.alloc ?_ (by first | omega | (simp <;> omega) | (simp [World.setCell] <;> omega)) _ | refine Below.drew ?_ | refine below_draws ?_ _ | exact Below.refl _ _)) hb_ea) hb_eb⟩
      case rest =>
        obtain ⟨rfl, hb_e⟩ := hcut
        obtain ⟨wE, rfl⟩ : ∃ wE, wE = wc := ⟨_, rfl⟩
        clear p0 p1 y0 y1 pn yn
        have hbw_E := below_then hbw_q hb_e
        go_wp2_with fail
        refine (toIntS_any _ zs _ _ hzl (hz.below hbw_E)).mono ?_
        rintro e w_f ⟨v_f, rfl, hv_f, hb_f⟩
        go_wp2_with fail
        refine (eqIntS_any _ _ zs _ _ _ hzl ((fI1_q.below hb_e).below hb_f) hv_f).mono ?_
        rintro e w_G ⟨rfl, hb_f2⟩
        have hb_qG := below_then hb_e (below_then hb_f hb_f2)
        have hbw_G := below_then hbw_q hb_qG
        have X0_G := X0_q.below hb_qG
        have X1_G := X1_q.below hb_qG
        have Y0_G := Y0_q.below hb_qG
        have BX0_G := BX0_q.below hb_qG
        have BX1_G := BX1_q.below hb_qG
        have rU_G := rU_q.below hb_qG
        have rG_G := rG_q.below hb_qG
        have sN0_G := below_then sN0_q hb_qG
        have mo1_G := mo1_q.below hb_qG
        have gS : Hid (∀ k, (Value.slice pa t.back.length pcap).ownBlock = some k → k < wA.heap.size) := hide fun k hk => ((unhide HRU).lt k hk).2
        have gG : Hid (∀ k, (Value.slice qa t.back.length qcap).ownBlock = some k → w_x1.heap.size ≤ k) := hide fun k hk => (unhide HLTG k hk).1
        have lb0 : w.heap.size < wA.heap.size := X0_A.1
        have lb1 : w.heap.size + 1 < wA.heap.size := X1_A.1
        have lw : w.heap.size ≤ wA.heap.size := hbwA.size
        have mo0 := fO0.below sN0_G (Nat.le_refl _)
        have y0 := Y0_G.2.1 0 _ rfl
        have y1 := Y0_G.2.1 1 _ rfl
        go_wp2_with fail
        refine (markNet_any _ n _ _ 1 _ mo0 k1' k2' (unhide HK) (by omega) (by omega)).mono ?_
        rintro e w_m0 ⟨rr0, rfl, hra0, hrb0, on0⟩
        clear y0 y1
        have hbw_m0 := hbw_G.trans (on0.below hbw_G.size (fun k hk => (fun h => by have := h; omega)))
        have X0_m0 := X0_G.onlyS on0 (fun h => by have := h; omega)
        have X1_m0 := X1_G.onlyS on0 (fun h => by have := h; omega)
        have BX0_m0 := BX0_G.onlyS on0 (fun h => by have := h; omega)
        have BX1_m0 := BX1_G.onlyS on0 (fun h => by have := h; omega)
        have rU_m0 := rU_G.only on0 (fun k hk => by have := unhide gS k hk; exact (fun h => by have := h; omega))
        have rG_m0 := rG_G.only on0 (fun k hk => by have := unhide gG k hk; exact (fun h => by have := h; omega))
        have hbk : ∀ k, blk (some ⟨b1, 0, none⟩) k → k = b1 := fun k hk => by obtain ⟨b, off, hab, rfl⟩ := hk; simp at hab; exact hab.1.symm
        have HBK := hide hbk
        clear hbk
        have mo1_m0 := mo1_G.only on0 (fun k hk => by have := unhide HBK k hk; exact (fun h => by have := h; omega))
        go_wp2_with fail
        refine (markIntS_any _ _ _ rr0 mf1 _ hzl (by omega) (by omega) mo1_m0).mono ?_
        rintro e w_m1 ⟨rfl, hom1, on1⟩
        have hbw_m1 := hbw_m0.trans (on1.below hbw_m0.size (fun k hk => (fun h => by have := unhide HBK _ h; omega)))
        have X0_m1 := X0_m0.onlyS on1 (fun h => by have := unhide HBK _ h; omega)
        have X1_m1 := X1_m0.onlyS on1 (fun h => by have := unhide HBK _ h; omega)
        have BX0_m1 := BX0_m0.onlyS on1 (fun h => by have := unhide HBK _ h; omega)
        have BX1_m1 := BX1_m0.onlyS on1 (fun h => by have := unhide HBK _ h; omega)
        have rU_m1 := rU_m0.only on1 (fun k hk => by have := unhide gS k hk; exact (fun h => by have := unhide HBK _ h; omega))
        have rG_m1 := rG_m0.only on1 (fun k hk => by have := unhide gG k hk; exact (fun h => by have := unhide HBK _ h; omega))
        have hk0 : ¬ ((rr0 + (zs.length : Int)) < 0) := by omega
        have g0 := BX1_m1.2.1 0 _ rfl
        have g1 := BX1_m1.2.1 1 _ rfl
        have g2 := BX1_m1.2.1 2 _ rfl
        have g3 := BX1_m1.2.1 3 _ rfl
        have g4 := BX1_m1.2.1 4 _ rfl
        have g5 := BX1_m1.2.1 5 _ rfl
        have u0 := BX0_m1.2.1 0 _ rfl
        have u1 := BX0_m1.2.1 1 _ rfl
        have u2 := BX0_m1.2.1 2 _ rfl
        have u3 := BX0_m1.2.1 3 _ rfl
        have u4 := BX0_m1.2.1 4 _ rfl
        have u5 := BX0_m1.2.1 5 _ rfl
        go_wp2_with fail
        refine (eqPlaced_any _ _ ok t _ (by have := unhide HLEN; omega) ⟨qa, qcap, rfl, stRow_sts rG_m1⟩ ⟨pa, pcap, rfl, stRow_sts rU_m1⟩).mono ?_
        rintro e w_r ⟨rfl, hb_r⟩
        clear hk0
        clear g0 g1 g2 g3 g4 g5 u0 u1 u2 u3 u4 u5
        have hbw_r := below_then hbw_m1 hb_r
        have X0_r := X0_m1.below hb_r
        have X1_r := X1_m1.below hb_r
        have BX0_r := BX0_m1.below hb_r
        have BX1_r := BX1_m1.below hb_r
        have rU_r := rU_m1.below hb_r
        have rG_r := rG_m1.below hb_r
        have g0 := BX1_r.2.1 0 _ rfl
        have g1 := BX1_r.2.1 1 _ rfl
        have g2 := BX1_r.2.1 2 _ rfl
        have g3 := BX1_r.2.1 3 _ rfl
        have g4 := BX1_r.2.1 4 _ rfl
        have g5 := BX1_r.2.1 5 _ rfl
        go_wp2_with fail
        refine (markPlaced_any _ _ _ _ _ _ _ _ 1 _ _ (by have := unhide HLEN; omega) (by omega) (by omega) rG_r.own).mono ?_
        rintro e w_mg ⟨rfl, hoG, onG⟩
        clear g0 g1 g2 g3 g4 g5
        have hbw_mg := hbw_r.trans (onG.below hbw_r.size (fun k hk => (fun h => by have := unhide gG _ (ownBlock_slice h); omega)))
        have X0_mg := X0_r.onlyS onG (fun h => by have := unhide gG _ (ownBlock_slice h); omega)
        have X1_mg := X1_r.onlyS onG (fun h => by have := unhide gG _ (ownBlock_slice h); omega)
        have BX0_mg := BX0_r.onlyS onG (fun h => by have := unhide gG _ (ownBlock_slice h); omega)
        have BX1_mg := BX1_r.onlyS onG (fun h => unhide HAP1 _ (ownBlock_slice h) rfl)
        have rU_mg := rU_r.only onG (fun k hk => by have := unhide gS k hk; exact (fun h => by have := unhide gG _ (ownBlock_slice h); omega))
        have g0 := BX1_mg.2.1 0 _ rfl
        have g1 := BX1_mg.2.1 1 _ rfl
        have g2 := BX1_mg.2.1 2 _ rfl
        have g3 := BX1_mg.2.1 3 _ rfl
        have g4 := BX1_mg.2.1 4 _ rfl
        have g5 := BX1_mg.2.1 5 _ rfl
        go_wp2_with fail
        refine (heldPlaced_any _ _ _ _ _ _ _ _ 1 _ (by have := unhide HLEN; omega) (by omega) (by omega) hoG).mono ?_
        rintro e w_hd ⟨rfl, hb_hd⟩
        clear g0 g1 g2 g3 g4 g5
        have hbw_hd := below_then hbw_mg hb_hd
        have X0_hd := X0_mg.below hb_hd
        have X1_hd := X1_mg.below hb_hd
        have BX0_hd := BX0_mg.below hb_hd
        have BX1_hd := BX1_mg.below hb_hd
        have rU_hd := rU_mg.below hb_hd
        have hoG_hd := hoG.below hb_hd
        have sz_hd := hbw_hd.size
        have p0 := X0_hd.2.1 0 _ rfl
        have p1 := X0_hd.2.1 1 _ rfl
        have p2 := X1_hd.2.1 0 _ rfl
        have p3 := X1_hd.2.1 1 _ rfl
        have p4 := X1_hd.2.1 2 _ rfl
        have pn := X0_hd.1
        have pm := X1_hd.1
        have hm0 : ¬ ((1 : Int) + ((t.back.length * 2 : Nat) : Int) < 0) := by omega
        have ej0 : ¬ w_hd.heap.size = w.heap.size := by omega
        have fj0 : ¬ w.heap.size = w_hd.heap.size := by omega
        have ej1 : ¬ w_hd.heap.size = w.heap.size + 1 := by omega
        have fj1 : ¬ w.heap.size + 1 = w_hd.heap.size := by omega
        go_upto_region 30 with fail
        go_cut [17] (fun p wx => ∃ (B : Nat) (ok : Bool) (t : Tr) (pa : Option Addr) (pcap : Nat), p = .pointer (some ⟨B, 0, none⟩) ∧ w_hd.heap.size ≤ B ∧ Hid (PlaceAns n zs s z ok t) ∧ Boxed wx B [.bool ok, .int .i64 t.front.piece, .int .i64 t.front.at_, .int .i64 t.front.way, .int .i64 t.long, .slice pa t.back.length pcap] ∧ Hid (StRow wx w_hd.heap.size (.slice pa t.back.length pcap) t.back) ∧ (∀ k, (Value.slice pa t.back.length pcap).ownBlock = some k → k ≠ B) ∧ Below w_hd.heap.size w_hd wx)
        case first =>
          go_region_held3 (fun w' => w'.cell? ⟨w.heap.size, 0, none⟩ = some (.slice a n.pieces.length ca) ∧ w'.cell? ⟨w.heap.size, 1, none⟩ = some (.slice c n.joints.length cc) ∧ w'.cell? ⟨w.heap.size + 1, 0, none⟩ = some (.int .i64 s.piece) ∧ w'.cell? ⟨w.heap.size + 1, 1, none⟩ = some (.int .i64 s.at_) ∧ w'.cell? ⟨w.heap.size + 1, 2, none⟩ = some (.int .i64 s.way)) (((try dsimp only); (repeat' apply And.intro)) <;> (go_keep; done))
            (first
              | (go_at_call 15; refine (toNet_any _ n _ (hvv.below (below_then hbw_hd ?_)) k1' k2' (unhide HK)).mono ?_; (first | exact (by repeat (first | with_reducible exact Below.refl _ _ | refine Below.setCell ?_ (by first | omega | (simp <;> omega) | (simp [World.setCell] <;> omega)) _ | refine Below.alloc ?_ (by first | omega | (simp <;> omega) | (simp [World.setCell] <;> omega)) _ | refine Below.drew ?_ | refine below_draws ?_ _ | exact Below.refl _ _))); rintro e w_j0 ⟨j0v, rfl, hj0v, hbj0⟩; obtain ⟨hcj0, hfj0⟩ := bcell hbj0; have szj0 := hbj0.size; (try simp at szj0); (try have ltj0 := Nat.lt_of_succ_le szj0); have nj0_0 : ¬ w_j0.heap.size = w.heap.size := (by omega); have mj0_0 : ¬ w.heap.size = w_j0.heap.size := (by omega); have nj0_1 : ¬ w_j0.heap.size = w.heap.size + 1 := (by omega); have mj0_1 : ¬ w.heap.size + 1 = w_j0.heap.size := (by omega); have qj0_0 := hcj0 (w.heap.size) (0) (by first | (simp; done) | (simp; omega) | omega); have qj0_1 := hcj0 (w.heap.size) (1) (by first | (simp; done) | (simp; omega) | omega); have qj0_2 := hcj0 (w.heap.size+1) (0) (by first | (simp; done) | (simp; omega) | omega); have qj0_3 := hcj0 (w.heap.size+1) (1) (by first | (simp; done) | (simp; omega) | omega); have qj0_4 := hcj0 (w.heap.size+1) (2) (by first | (simp; done) | (simp; omega) | omega))
              | (go_at_call 20; refine (toIntS_any _ zs _ _ hzl (hz.below (below_then hbw_hd ?_))).mono ?_; (first | exact (below_then (by repeat (first | with_reducible exact Below.refl _ _ | refine Below.setCell ?_ (by first | omega | (simp <;> omega) | (simp [World.setCell] <;> omega)) _ | refine Below.alloc ?_ (by first | omega | (simp <;> omega) | (simp [World.setCell] <;> omega)) _ | refine Below.drew ?_ | refine below_draws ?_ _ | exact Below.refl _ _)) hbj0) | exact (below_then (below_then (by repeat (first | with_reducible exact Below.refl _ _ | refine Below.setCell ?_ (by first | omega | (simp <;> omega) | (simp [World.setCell] <;> omega)) _ | refine Below.alloc ?_ (by first | omega | (simp <;> omega) | (simp [World.setCell] <;> omega)) _ | refine Below.drew ?_ | refine below_draws ?_ _ | exact Below.refl _ _)) hbj0) (by repeat (first | with_reducible exact Below.refl _ _ | refine Below.setCell ?_ (by first | omega | (simp <;> omega) | (simp [World.setCell] <;> omega)) _ | refine Below.alloc ?_ (by first | omega | (simp <;> omega) | (simp [World.setCell] <;> omega)) _ | refine Below.drew ?_ | refine below_draws ?_ _ | exact Below.refl _ _)))); rintro e w_j1 ⟨j1v, rfl, hj1v, hbj1⟩; obtain ⟨hcj1, hfj1⟩ := bcell hbj1; have szj1 := hbj1.size; (try simp at szj1); (try have ltj1 := Nat.lt_of_succ_le szj1); have nj1_0 : ¬ w_j1.heap.size = w.heap.size := (by omega); have mj1_0 : ¬ w.heap.size = w_j1.heap.size := (by omega); have nj1_1 : ¬ w_j1.heap.size = w.heap.size + 1 := (by omega); have mj1_1 : ¬ w.heap.size + 1 = w_j1.heap.size := (by omega); have qj1_0 := hcj1 (w.heap.size) (0) (by first | (have := hbj0.size; omega) | (have := hbj0.size; simp at this ⊢; omega) | (simp; omega)); have qj1_1 := hcj1 (w.heap.size) (1) (by first | (have := hbj0.size; omega) | (have := hbj0.size; simp at this ⊢; omega) | (simp; omega)); have qj1_2 := hcj1 (w.heap.size+1) (0) (by first | (have := hbj0.size; omega) | (have := hbj0.size; simp at this ⊢; omega) | (simp; omega)); have qj1_3 := hcj1 (w.heap.size+1) (1) (by first | (have := hbj0.size; omega) | (have := hbj0.size; simp at this ⊢; omega) | (simp; omega)); have qj1_4 := hcj1 (w.heap.size+1) (2) (by first | (have := hbj0.size; omega) | (have := hbj0.size; simp at this ⊢; omega) | (simp; omega)); (try have ltj0 := Nat.lt_of_lt_of_le ltj0 szj1))
              | (go_at_call 29; refine (toSpot_any s.piece s.at_ s.way _).mono ?_; rintro e w_j2 ⟨rfl, hbj2⟩; obtain ⟨hcj2, hfj2⟩ := bcell hbj2; have szj2 := hbj2.size; (try simp at szj2); (try have ltj2 := Nat.lt_of_succ_le szj2); have nj2_0 : ¬ w_j2.heap.size = w.heap.size := (by omega); have mj2_0 : ¬ w.heap.size = w_j2.heap.size := (by omega); have nj2_1 : ¬ w_j2.heap.size = w.heap.size + 1 := (by omega); have mj2_1 : ¬ w.heap.size + 1 = w_j2.heap.size := (by omega); have qj2_0 := hcj2 (w.heap.size) (0) (by first | (have := hbj0.size; have := hbj1.size; omega) | (have := hbj0.size; have := hbj1.size; simp at this ⊢; omega) | (simp; omega)); have qj2_1 := hcj2 (w.heap.size) (1) (by first | (have := hbj0.size; have := hbj1.size; omega) | (have := hbj0.size; have := hbj1.size; simp at this ⊢; omega) | (simp; omega)); have qj2_2 := hcj2 (w.heap.size+1) (0) (by first | (have := hbj0.size; have := hbj1.size; omega) | (have := hbj0.size; have := hbj1.size; simp at this ⊢; omega) | (simp; omega)); have qj2_3 := hcj2 (w.heap.size+1) (1) (by first | (have := hbj0.size; have := hbj1.size; omega) | (have := hbj0.size; have := hbj1.size; simp at this ⊢; omega) | (simp; omega)); have qj2_4 := hcj2 (w.heap.size+1) (2) (by first | (have := hbj0.size; have := hbj1.size; omega) | (have := hbj0.size; have := hbj1.size; simp at this ⊢; omega) | (simp; omega)); (try have ltj0 := Nat.lt_of_lt_of_le ltj0 szj2); (try have ltj1 := Nat.lt_of_lt_of_le ltj1 szj2))
              | (go_at_call 30; refine (implPlace_any _ n _ zs _ s z _ (hj0v.below ?_) (hj1v.below ?_) k1' k2' (fun i h => (unhide HLE i h).1) (unhide HNM)).mono ?_; (first | exact (below_then hbj1 hbj2) | exact (below_then (below_then (by repeat (first | with_reducible exact Below.refl _ _ | refine Below.setCell ?_ (by first | omega | (simp <;> omega) | (simp [World.setCell] <;> omega)) _ | refine Below.alloc ?_ (by first | omega | (simp <;> omega) | (simp [World.setCell] <;> omega)) _ | refine Below.drew ?_ | refine below_draws ?_ _ | exact Below.refl _ _)) hbj1) hbj2) | exact (below_then (below_then hbj1 (by repeat (first | with_reducible exact Below.refl _ _ | refine Below.setCell ?_ (by first | omega | (simp <;> omega) | (simp [World.setCell] <;> omega)) _ | refine Below.alloc ?_ (by first | omega | (simp <;> omega) | (simp [World.setCell] <;> omega)) _ | refine Below.drew ?_ | refine below_draws ?_ _ | exact Below.refl _ _))) hbj2) | exact (below_then (below_then hbj1 hbj2) (by repeat (first | with_reducible exact Below.refl _ _ | refine Below.setCell ?_ (by first | omega | (simp <;> omega) | (simp [World.setCell] <;> omega)) _ | refine Below.alloc ?_ (by first | omega | (simp <;> omega) | (simp [World.setCell] <;> omega)) _ | refine Below.drew ?_ | refine below_draws ?_ _ | exact Below.refl _ _)))); (first | exact hbj2 | exact (below_then (by repeat (first | with_reducible exact Below.refl _ _ | refine Below.setCell ?_ (by first | omega | (simp <;> omega) | (simp [World.setCell] <;> omega)) _ | refine Below.alloc ?_ (by first | omega | (simp <;> omega) | (simp [World.setCell] <;> omega)) _ | refine Below.drew ?_ | refine below_draws ?_ _ | exact Below.refl _ _)) hbj2) | exact (below_then hbj2 (by repeat (first | with_reducible exact Below.refl _ _ | refine Below.setCell ?_ (by first | omega | (simp <;> omega) | (simp [World.setCell] <;> omega)) _ | refine Below.alloc ?_ (by first | omega | (simp <;> omega) | (simp [World.setCell] <;> omega)) _ | refine Below.drew ?_ | refine below_draws ?_ _ | exact Below.refl _ _)))); rintro e w_js ⟨⟨ok, t, pa, pcap, hans, rfl, hrow⟩, hbjs⟩; have HANS := hide hans; have HROW := hide hrow; clear hans hrow; obtain ⟨hcjs, hfjs⟩ := bcell hbjs; have szjs := hbjs.size; (try simp at szjs); (try have ltjs := Nat.lt_of_succ_le szjs); have njs_0 : ¬ w_js.heap.size = w.heap.size := (by omega); have mjs_0 : ¬ w.heap.size = w_js.heap.size := (by omega); have njs_1 : ¬ w_js.heap.size = w.heap.size + 1 := (by omega); have mjs_1 : ¬ w.heap.size + 1 = w_js.heap.size := (by omega); have qjs_0 := hcjs (w.heap.size) (0) (by first | (have := hbj0.size; have := hbj1.size; have := hbj2.size; omega) | (have := hbj0.size; have := hbj1.size; have := hbj2.size; simp at this ⊢; omega) | (simp; omega)); have qjs_1 := hcjs (w.heap.size) (1) (by first | (have := hbj0.size; have := hbj1.size; have := hbj2.size; omega) | (have := hbj0.size; have := hbj1.size; have := hbj2.size; simp at this ⊢; omega) | (simp; omega)); have qjs_2 := hcjs (w.heap.size+1) (0) (by first | (have := hbj0.size; have := hbj1.size; have := hbj2.size; omega) | (have := hbj0.size; have := hbj1.size; have := hbj2.size; simp at this ⊢; omega) | (simp; omega)); have qjs_3 := hcjs (w.heap.size+1) (1) (by first | (have := hbj0.size; have := hbj1.size; have := hbj2.size; omega) | (have := hbj0.size; have := hbj1.size; have := hbj2.size; simp at this ⊢; omega) | (simp; omega)); have qjs_4 := hcjs (w.heap.size+1) (2) (by first | (have := hbj0.size; have := hbj1.size; have := hbj2.size; omega) | (have := hbj0.size; have := hbj1.size; have := hbj2.size; simp at this ⊢; omega) | (simp; omega)); (try have ltj0 := Nat.lt_of_lt_of_le ltj0 szjs); (try have ltj1 := Nat.lt_of_lt_of_le ltj1 szjs); (try have ltj2 := Nat.lt_of_lt_of_le ltj2 szjs)))
          all_goals go_wp2_with fail
          all_goals go_meet
          · have hw : Below w_hd.heap.size w_hd w_js := (below_then (below_then (below_then (below_then (by repeat (first | with_reducible exact Below.refl _ _ | refine Below.setCell ?_ (by first | omega | (simp <;> omega) | (simp [World.setCell] <;> omega)) _ | refine Below.alloc ?_ (by first | omega | (simp <;> omega) | (simp [World.setCell] <;> omega)) _ | refine Below.drew ?_ | refine below_draws ?_ _ | exact Below.refl _ _)) hbj0) hbj1) hbj2) hbjs)
            have hws := hw.size
            have hlt := (unhide HROW).lt
            exact ⟨_, ok, t, pa, pcap, rfl, by omega, HANS, boxed_alloc _ _ _, hide (((unhide HROW).below (by repeat (first | with_reducible exact Below.refl _ _ | refine Below.setCell ?_ (by first | omega | (simp <;> omega) | (simp [World.setCell] <;> omega)) _ | refine Below.alloc ?_ (by first | omega | (simp <;> omega) | (simp [World.setCell] <;> omega)) _ | refine Below.drew ?_ | refine below_draws ?_ _ | exact Below.refl _ _))).mono (by first | omega | (simp; omega))), fun k hk => by have := (hlt k hk).2; omega, below_then hw (by repeat (first | with_reducible exact Below.refl _ _ | refine Below.setCell ?_ (by first | omega | (simp <;> omega) | (simp [World.setCell] <;> omega)) _ | refine Below.alloc ?_ (by first | omega | (simp <;> omega) | (simp [World.setCell] <;> omega)) _ | refine Below.drew ?_ | refine below_draws ?_ _ | exact Below.refl _ _))⟩
          · have hZ : Boxed w_js (w_j2.heap.size) [.bool false, .int .i64 0, .int .i64 0, .int .i64 0, .int .i64 0, .slice none 0 0] := ((boxed_alloc _ _ _).below hbjs)
            have hw : Below w_hd.heap.size w_hd w_js := (below_then (below_then (below_then (below_then (below_then (by repeat (first | with_reducible exact Below.refl _ _ | refine Below.setCell ?_ (by first | omega | (simp <;> omega) | (simp [World.setCell] <;> omega)) _ | refine Below.alloc ?_ (by first | omega | (simp <;> omega) | (simp [World.setCell] <;> omega)) _ | refine Below.drew ?_ | refine below_draws ?_ _ | exact Below.refl _ _)) hbj0) hbj1) hbj2) (by repeat (first | with_reducible exact Below.refl _ _ | refine Below.setCell ?_ (by first | omega | (simp <;> omega) | (simp [World.setCell] <;> omega)) _ | refine Below.alloc ?_ (by first | omega | (simp <;> omega) | (simp [World.setCell] <;> omega)) _ | refine Below.drew ?_ | refine below_draws ?_ _ | exact Below.refl _ _))) hbjs)
            have hlt := (unhide HROW).lt
            have hzl2 := hZ.1
            have hbl : w_hd.heap.size ≤ w_j2.heap.size := by have := hbj0.size; have := hbj1.size; have := hbj2.size; omega
            have hbB : ∀ k, (Value.slice pa t.back.length pcap).ownBlock = some k → w_j2.heap.size < k := fun k hk => by have := (hlt k hk).1;  simp at *; omega
            refine ⟨_, ok, t, pa, pcap, rfl, hbl, HANS, (((((hZ.set (i := 0) (by simp) (.bool ok)).set (i := 1) (by simp) (.int .i64 t.front.piece)).set (i := 2) (by simp) (.int .i64 t.front.at_)).set (i := 3) (by simp) (.int .i64 t.front.way)).set (i := 4) (by simp) (.int .i64 t.long)).set (i := 5) (by simp) (.slice pa t.back.length pcap), ?_, fun k hk => by have := hbB k hk; omega, below_set6 hw hbl _ _ _ _ _ _⟩
            refine hide (((unhide HROW).mono ?_).block fun k hk => ?_)
            · have := hbj0.size; have := hbj1.size; have := hbj2.size; first | omega | (simp at *; omega)
            · have hne : k ≠ w_j2.heap.size := by have := hbB k hk; omega
              rw [Below.heap_setCell _ _ _ k (by simpa using hne), Below.heap_setCell _ _ _ k (by simpa using hne), Below.heap_setCell _ _ _ k (by simpa using hne), Below.heap_setCell _ _ _ k (by simpa using hne), Below.heap_setCell _ _ _ k (by simpa using hne), Below.heap_setCell _ _ _ k (by simpa using hne)]
          · have hZ : Boxed w_js (w_j1.heap.size) [.bool false, .int .i64 0, .int .i64 0, .int .i64 0, .int .i64 0, .slice none 0 0] := (((boxed_alloc _ _ _).below hbj2).below hbjs)
            have hw : Below w_hd.heap.size w_hd w_js := (below_then (below_then (below_then (below_then (below_then (by repeat (first | with_reducible exact Below.refl _ _ | refine Below.setCell ?_ (by first | omega | (simp <;> omega) | (simp [World.setCell] <;> omega)) _ | refine Below.alloc ?_ (by first | omega | (simp <;> omega) | (simp [World.setCell] <;> omega)) _ | refine Below.drew ?_ | refine below_draws ?_ _ | exact Below.refl _ _)) hbj0) hbj1) (by repeat (first | with_reducible exact Below.refl _ _ | refine Below.setCell ?_ (by first | omega | (simp <;> omega) | (simp [World.setCell] <;> omega)) _ | refine Below.alloc ?_ (by first | omega | (simp <;> omega) | (simp [World.setCell] <;> omega)) _ | refine Below.drew ?_ | refine below_draws ?_ _ | exact Below.refl _ _))) hbj2) hbjs)
            have hlt := (unhide HROW).lt
            have hzl2 := hZ.1
            have hbl : w_hd.heap.size ≤ w_j1.heap.size := by have := hbj0.size; have := hbj1.size; omega
            have hbB : ∀ k, (Value.slice pa t.back.length pcap).ownBlock = some k → w_j1.heap.size < k := fun k hk => by have := (hlt k hk).1; have := hbj2.size; simp at *; omega
            refine ⟨_, ok, t, pa, pcap, rfl, hbl, HANS, (((((hZ.set (i := 0) (by simp) (.bool ok)).set (i := 1) (by simp) (.int .i64 t.front.piece)).set (i := 2) (by simp) (.int .i64 t.front.at_)).set (i := 3) (by simp) (.int .i64 t.front.way)).set (i := 4) (by simp) (.int .i64 t.long)).set (i := 5) (by simp) (.slice pa t.back.length pcap), ?_, fun k hk => by have := hbB k hk; omega, below_set6 hw hbl _ _ _ _ _ _⟩
            refine hide (((unhide HROW).mono ?_).block fun k hk => ?_)
            · have := hbj0.size; have := hbj1.size; have := hbj2.size; first | omega | (simp at *; omega)
            · have hne : k ≠ w_j1.heap.size := by have := hbB k hk; omega
              rw [Below.heap_setCell _ _ _ k (by simpa using hne), Below.heap_setCell _ _ _ k (by simpa using hne), Below.heap_setCell _ _ _ k (by simpa using hne), Below.heap_setCell _ _ _ k (by simpa using hne), Below.heap_setCell _ _ _ k (by simpa using hne), Below.heap_setCell _ _ _ k (by simpa using hne)]
          · have hZ : Boxed w_js (w_j0.heap.size) [.bool false, .int .i64 0, .int .i64 0, .int .i64 0, .int .i64 0, .slice none 0 0] := ((((boxed_alloc _ _ _).below hbj1).below hbj2).below hbjs)
            have hw : Below w_hd.heap.size w_hd w_js := (below_then (below_then (below_then (below_then (below_then (by repeat (first | with_reducible exact Below.refl _ _ | refine Below.setCell ?_ (by first | omega | (simp <;> omega) | (simp [World.setCell] <;> omega)) _ | refine Below.alloc ?_ (by first | omega | (simp <;> omega) | (simp [World.setCell] <;> omega)) _ | refine Below.drew ?_ | refine below_draws ?_ _ | exact Below.refl _ _)) hbj0) (by repeat (first | with_reducible exact Below.refl _ _ | refine Below.setCell ?_ (by first | omega | (simp <;> omega) | (simp [World.setCell] <;> omega)) _ | refine Below.alloc ?_ (by first | omega | (simp <;> omega) | (simp [World.setCell] <;> omega)) _ | refine Below.drew ?_ | refine below_draws ?_ _ | exact Below.refl _ _))) hbj1) hbj2) hbjs)
            have hlt := (unhide HROW).lt
            have hzl2 := hZ.1
            have hbl : w_hd.heap.size ≤ w_j0.heap.size := by have := hbj0.size; omega
            have hbB : ∀ k, (Value.slice pa t.back.length pcap).ownBlock = some k → w_j0.heap.size < k := fun k hk => by have := (hlt k hk).1; have := hbj1.size; have := hbj2.size; simp at *; omega
            refine ⟨_, ok, t, pa, pcap, rfl, hbl, HANS, (((((hZ.set (i := 0) (by simp) (.bool ok)).set (i := 1) (by simp) (.int .i64 t.front.piece)).set (i := 2) (by simp) (.int .i64 t.front.at_)).set (i := 3) (by simp) (.int .i64 t.front.way)).set (i := 4) (by simp) (.int .i64 t.long)).set (i := 5) (by simp) (.slice pa t.back.length pcap), ?_, fun k hk => by have := hbB k hk; omega, below_set6 hw hbl _ _ _ _ _ _⟩
            refine hide (((unhide HROW).mono ?_).block fun k hk => ?_)
            · have := hbj0.size; have := hbj1.size; have := hbj2.size; first | omega | (simp at *; omega)
            · have hne : k ≠ w_j0.heap.size := by have := hbB k hk; omega
              rw [Below.heap_setCell _ _ _ k (by simpa using hne), Below.heap_setCell _ _ _ k (by simpa using hne), Below.heap_setCell _ _ _ k (by simpa using hne), Below.heap_setCell _ _ _ k (by simpa using hne), Below.heap_setCell _ _ _ k (by simpa using hne), Below.heap_setCell _ _ _ k (by simpa using hne)]
          · have hZ : Boxed w_js (w_hd.heap.size) [.bool false, .int .i64 0, .int .i64 0, .int .i64 0, .int .i64 0, .slice none 0 0] := (((((boxed_alloc _ _ _).drew.below hbj0).below hbj1).below hbj2).below hbjs)
            have hw : Below w_hd.heap.size w_hd w_js := (below_then (below_then (below_then (below_then (by repeat (first | with_reducible exact Below.refl _ _ | refine Below.setCell ?_ (by first | omega | (simp <;> omega) | (simp [World.setCell] <;> omega)) _ | refine Below.alloc ?_ (by first | omega | (simp <;> omega) | (simp [World.setCell] <;> omega)) _ | refine Below.drew ?_ | refine below_draws ?_ _ | exact Below.refl _ _)) hbj0) hbj1) hbj2) hbjs)
            have hlt := (unhide HROW).lt
            have hzl2 := hZ.1
            have hbl : w_hd.heap.size ≤ w_hd.heap.size := by  omega
            have hbB : ∀ k, (Value.slice pa t.back.length pcap).ownBlock = some k → w_hd.heap.size < k := fun k hk => by have := (hlt k hk).1; have := hbj0.size; have := hbj1.size; have := hbj2.size; simp at *; omega
            refine ⟨_, ok, t, pa, pcap, rfl, hbl, HANS, (((((hZ.set (i := 0) (by simp) (.bool ok)).set (i := 1) (by simp) (.int .i64 t.front.piece)).set (i := 2) (by simp) (.int .i64 t.front.at_)).set (i := 3) (by simp) (.int .i64 t.front.way)).set (i := 4) (by simp) (.int .i64 t.long)).set (i := 5) (by simp) (.slice pa t.back.length pcap), ?_, fun k hk => by have := hbB k hk; omega, below_set6 hw hbl _ _ _ _ _ _⟩
            refine hide (((unhide HROW).mono ?_).block fun k hk => ?_)
            · have := hbj0.size; have := hbj1.size; have := hbj2.size; first | omega | (simp at *; omega)
            · have hne : k ≠ w_hd.heap.size := by have := hbB k hk; omega
              rw [Below.heap_setCell _ _ _ k (by simpa using hne), Below.heap_setCell _ _ _ k (by simpa using hne), Below.heap_setCell _ _ _ k (by simpa using hne), Below.heap_setCell _ _ _ k (by simpa using hne), Below.heap_setCell _ _ _ k (by simpa using hne), Below.heap_setCell _ _ _ k (by simpa using hne)]
        case rest =>
          obtain ⟨B2, ok2, t2, ra, rcap, rfl, hB2, HANS2, BX2, HRH, hap2, hb_k⟩ := hcut
          obtain ⟨wK, rfl⟩ : ∃ wK, wK = wc := ⟨_, rfl⟩
          obtain ⟨eo, et⟩ := (unhide HANS).unique (unhide HANS2)
          subst eo et
          clear p0 p1 p2 p3 p4 pn pm hap2 hm0
          have hbw_K := below_then hbw_hd hb_k
          have BX0_K := BX0_hd.below hb_k
          have BX1_K := BX1_hd.below hb_k
          have rU_K := rU_hd.below hb_k
          have hoG_K := hoG_hd.below hb_k
          have g0 := BX2.2.1 0 _ rfl
          have g1 := BX2.2.1 1 _ rfl
          have g2 := BX2.2.1 2 _ rfl
          have g3 := BX2.2.1 3 _ rfl
          have g4 := BX2.2.1 4 _ rfl
          have g5 := BX2.2.1 5 _ rfl
          have u0 := BX0_K.2.1 0 _ rfl
          have u1 := BX0_K.2.1 1 _ rfl
          have u2 := BX0_K.2.1 2 _ rfl
          have u3 := BX0_K.2.1 3 _ rfl
          have u4 := BX0_K.2.1 4 _ rfl
          have u5 := BX0_K.2.1 5 _ rfl
          go_wp2_with fail
          refine (eqPlaced_any _ _ ok t _ (by have := unhide HLEN; omega) ⟨ra, rcap, rfl, stRow_sts (unhide HRH)⟩ ⟨pa, pcap, rfl, stRow_sts rU_K⟩).mono ?_
          rintro e w_s ⟨rfl, hb_s⟩
          clear g0 g1 g2 g3 g4 g5 u0 u1 u2 u3 u4 u5
          have hbw_s := below_then hbw_K hb_s
          have BX1_s := BX1_K.below hb_s
          have g0 := BX1_s.2.1 0 _ rfl
          have g1 := BX1_s.2.1 1 _ rfl
          have g2 := BX1_s.2.1 2 _ rfl
          have g3 := BX1_s.2.1 3 _ rfl
          have g4 := BX1_s.2.1 4 _ rfl
          have g5 := BX1_s.2.1 5 _ rfl
          go_wp2_with fail
          refine (heldPlaced_any _ _ _ _ _ _ _ _ 1 _ (by have := unhide HLEN; omega) (by omega) (by omega) (hoG_K.below hb_s)).mono ?_
          rintro e w_z ⟨rfl, hb_z⟩
          have hm1 : ¬ ((1 : Int) + ((t.back.length * 2 : Nat) : Int) < 0) := by omega
          go_wp2
          go_ret
          exact ⟨rfl, below_then hbw_s hb_z⟩
          
          end Go.Proofs.Ytbdggfpfpjijoaa

