import Derived.Test.YtbdggfpfpjijoabGreatDoorG1
import Derived.Test.YtbdggfpfpjijoabGreatDoorEq
import Derived.Test.YtbdggfpfpjijoabGreatDoorG6
import Derived.Test.YtbdggfpfpjijoabGreatDoorG33
import Derived.Test.YtbdggfpfpjijoabGreatDoorSh4
import Derived.Test.YtbdggfpfpjijoabGreatDoorSh5
namespace Go.Proofs.YtbdggfpfpjijoabGreatDoor
open Go.RowKit

set_option maxRecDepth 100000 in
set_option maxHeartbeats 8000000 in
theorem lawShown_any (v : Value) (n : Nt) (tq : Option Addr) (ts : List Tr) (tk : Nat) (w : World) {L L1 : Nat} (hv : NetAt L w v n) (hl : n.pieces.length ≤ maxLen) (hl' : n.joints.length ≤ maxLen) (hle : ∀ i (h : i < n.joints.length), n.joints[i].name.size ≤ maxLen ∧ n.joints[i].ends.length ≤ maxLen) (hnm : ∀ i (h : i < n.pieces.length), n.pieces[i].name.size ≤ maxLen)
    (hts : TrsIn L1 w tq ts) (htn : ts.length ≤ maxLen) (htb : ∀ i (h : i < ts.length), ts[i].back.length ≤ maxLen) (htab : TabK w) :
    Calls Tryz.prog 5 #[v, .slice tq ts.length tk] w fun e w' => e = .returned (.bool true) ∧ Below w.heap.size w w' := by
  have hvv := hv
  have HTAB := hide htab
  clear htab
  obtain ⟨a, c, ca, cc, rfl, hp, hj⟩ := hv
  go_enter Tryz.func5, Tryz.ntmps5
  go_wp2_with fail
  refine (szNet_any a c n.pieces n.joints ca cc 1048576 _ (by omega) (by omega) hl (L := L) ?hA hnm hl' ?hB hle).mono ?_
  case hA => exact hp.below (by repeat (first | with_reducible exact Below.refl _ _ | refine Below.setCell ?_ (by first | omega | (simp <;> omega) | (simp [World.setCell] <;> omega)) _ | refine Below.alloc ?_ (by first | omega | (simp <;> omega) | (simp [World.setCell] <;> omega)) _ | refine Below.drew ?_ | refine below_draws ?_ _ | exact Below.refl _ _))
  case hB => exact hj.below (by repeat (first | with_reducible exact Below.refl _ _ | refine Below.setCell ?_ (by first | omega | (simp <;> omega) | (simp [World.setCell] <;> omega)) _ | refine Below.alloc ?_ (by first | omega | (simp <;> omega) | (simp [World.setCell] <;> omega)) _ | refine Below.drew ?_ | refine below_draws ?_ _ | exact Below.refl _ _))
  rintro e w1 ⟨r1, rfl, hr1, hbd1, hb1⟩
  have hbw1 : Below w.heap.size w w1 := below_then (by repeat (first | with_reducible exact Below.refl _ _ | refine Below.setCell ?_ (by first | omega | (simp <;> omega) | (simp [World.setCell] <;> omega)) _ | refine Below.alloc ?_ (by first | omega | (simp <;> omega) | (simp [World.setCell] <;> omega)) _ | refine Below.drew ?_ | refine below_draws ?_ _ | exact Below.refl _ _)) hb1
  have X_1 : Boxed w1 (w.heap.size) [.slice a n.pieces.length ca, .slice c n.joints.length cc] := (boxedN _ _ _ (by simp)).below hb1
  by_cases hneg1 : r1 < 0
  · go_wp2
    go_ret
    exact ⟨rfl, hbw1⟩
  obtain ⟨k1, k2, k3⟩ := hbd1 (by omega)
  have k1' : n.pieces.length ≤ 1048576 := by omega
  have k2' : n.joints.length ≤ 1048576 := by omega
  have k3' : ∀ i (h : i < n.joints.length), n.joints[i].ends.length ≤ 1048576 := fun i h => by have := k3 i h; omega
  clear k1 k2 k3 hbd1
  go_wp2_with fail
  refine (szTrainS_any tq ts tk r1 _ (by omega) (by omega) htn (hts.below hbw1) htb).mono ?_
  rintro e w2 ⟨r2, rfl, hr2, hbd2, hb2⟩
  have hbw2 := below_then hbw1 hb2
  have X_2 := X_1.below hb2
  by_cases hneg2 : r2 < 0
  · go_wp2
    go_ret
    exact ⟨rfl, hbw2⟩
  obtain ⟨k4, k5⟩ := hbd2 (by omega)
  have htl : ts.length ≤ 1048576 := by omega
  have htb' : ∀ i (h : i < ts.length), ts[i].back.length ≤ 1048576 := fun i h => by have := k5 i h; omega
  clear k4 k5 hbd2
  have hbm : ∀ t ∈ ts, t.back.length ≤ 1048576 := fun t ht => by
    obtain ⟨i, hi, rfl⟩ := List.getElem_of_mem ht
    exact htb' i hi
  have HK := hide k3'
  have HLE := hide hle
  have HNM := hide hnm
  have HTB := hide htb'
  have HBM := hide hbm
  clear k3' hle hnm htb' hbm htb
  have p0 := X_2.2.1 0 _ rfl
  have p1 := X_2.2.1 1 _ rfl
  have pn := X_2.1
  go_wp2_with fail
  refine (toNet_any _ n _ (hvv.below hbw2) k1' k2' (unhide HK)).mono ?_
  rintro e g1 ⟨gv, rfl, hgv, hbg1⟩
  go_wp2_with fail
  refine (toTrainS_own tq ts tk _ htl (unhide HTB) ((hts.below hbw2).below hbg1)).mono ?_
  rintro e g2 ⟨ga, rfl, hgt, hbg2⟩
  go_wp2_with fail
  refine (specShown_any _ n _ ts _ _ (hgv.below hbg2) hgt.at htl (unhide HBM) k1' k2' (fun i h => ⟨unhide HK i h, (unhide HLE i h).1⟩) (unhide HNM)).mono ?_
  rintro e w_gs ⟨⟨s1, rfl, hs1⟩, hbgs⟩
  have HS1 := hide hs1
  clear hs1 hgv hgt p0 p1 pn
  have hbS : Below w2.heap.size w2 w_gs := below_then (below_then hbg1 hbg2) hbgs
  have hbwS := below_then hbw2 hbS
  have X_S := X_2.below hbS
  have p0 := X_S.2.1 0 _ rfl
  have p1 := X_S.2.1 1 _ rfl
  have pn := X_S.1
  go_wp2_with fail
  refine (toNet_own _ n _ (hvv.below hbwS) k1' k2' (unhide HK)).mono ?_
  rintro e w_x0 ⟨v_x0, rfl, fO0, hb_x0⟩
  clear p0 p1 pn
  have hbw_x0 := below_then hbwS hb_x0
  have X_x0 := X_S.below hb_x0
  have fN0 := fO0.at
  obtain ⟨xa, xc, rfl, _, _⟩ := fO0
  have hA : Below w_x0.heap.size w_x0 (w_x0.alloc (.cells #[.slice xa n.pieces.length n.pieces.length, .slice xc n.joints.length n.joints.length] 45)) := (by repeat (first | with_reducible exact Below.refl _ _ | refine Below.setCell ?_ (by first | omega | (simp <;> omega) | (simp [World.setCell] <;> omega)) _ | refine Below.alloc ?_ (by first | omega | (simp <;> omega) | (simp [World.setCell] <;> omega)) _ | refine Below.drew ?_ | refine below_draws ?_ _ | exact Below.refl _ _))
  go_wp2_with fail
  refine (toTrainS_own tq ts tk _ htl (unhide HTB) ((hts.below hbw_x0).below hA)).mono ?_
  rintro e w_x1 ⟨ya, rfl, fO1, hb_x1⟩
  have fT1 := fO1.at
  clear fO1
  have hb'_x1 := below_then hA hb_x1
  have hbw_x1 := below_then hbw_x0 hb'_x1
  have X_x1 := X_x0.below hb'_x1
  have Y_x1 : Boxed w_x1 (w_x0.heap.size) [.slice xa n.pieces.length n.pieces.length, .slice xc n.joints.length n.joints.length] := (boxed_alloc _ _ _).below hb_x1
  have le_1 : w_x0.heap.size < w_x1.heap.size := Y_x1.1
  have y0 := Y_x1.2.1 0 _ rfl
  have y1 := Y_x1.2.1 1 _ rfl
  have yn := Y_x1.1
  go_wp2_with fail
  refine (implShown_any _ n _ ts _ _ (fN0.below hb'_x1) fT1 htl (unhide HBM) k1' k2' (fun i h => (unhide HLE i h).1) (unhide HNM) ((unhide HTAB).below hbw_x1)).mono ?_
  rintro e w_q ⟨⟨s2, rfl, hs2⟩, hb_q⟩
  have hq1 : s1 = s2 := (unhide HS1).unique hs2
  subst hq1
  clear hs2 y0 y1 yn
  have hbw_q := below_then hbw_x1 hb_q
  have X_q := X_x1.below hb_q
  have Y_q := Y_x1.below hb_q
  have fN_q := (fN0.below hb'_x1).below hb_q
  have p0 := X_q.2.1 0 _ rfl
  have p1 := X_q.2.1 1 _ rfl
  have pn := X_q.1
  have y0 := Y_q.2.1 0 _ rfl
  have y1 := Y_q.2.1 1 _ rfl
  have yn := Y_q.1
  go_upto_region 14 with fail
  go_cut [39] (fun b wx => b = .bool false ∧ Below w_q.heap.size w_q wx)
  case first =>
    go_region_held3 (fun w' => w'.cell? ⟨w.heap.size, 0, none⟩ = some (.slice a n.pieces.length ca) ∧ w'.cell? ⟨w.heap.size, 1, none⟩ = some (.slice c n.joints.length cc) ∧ w'.cell? ⟨w_x0.heap.size, 0, none⟩ = some (.slice xa n.pieces.length n.pieces.length) ∧ w'.cell? ⟨w_x0.heap.size, 1, none⟩ = some (.slice xc n.joints.length n.joints.length)) (((try dsimp only); (repeat' apply And.intro)) <;> (go_keep; done))
      (first
        | (go_at_call 9; refine (toNet_any _ n _ (hvv.below (below_then hbw_q (by repeat (first | with_reducible exact Below.refl _ _ | refine Below.setCell ?_ (by first | omega | (simp <;> omega) | (simp [World.setCell] <;> omega)) _ | refine Below.alloc ?_ (by first | omega | (simp <;> omega) | (simp [World.setCell] <;> omega)) _ | refine Below.drew ?_ | refine below_draws ?_ _ | exact Below.refl _ _)))) k1' k2' (unhide HK)).mono ?_; rintro e w_e0a ⟨v_e0a, rfl, hv_e0a, hb_e0a⟩; obtain ⟨hc_e0a, hf_e0a⟩ := bcell hb_e0a; have sz_e0a := hb_e0a.size; (try simp at sz_e0a); have qq0 := hc_e0a (w.heap.size) (0) (by first | (simp; done) | (simp; omega) | omega); have qq1 := hc_e0a (w.heap.size) (1) (by first | (simp; done) | (simp; omega) | omega); have qq2 := hc_e0a (w_x0.heap.size) (0) (by first | (simp; done) | (simp; omega) | omega); have qq3 := hc_e0a (w_x0.heap.size) (1) (by first | (simp; done) | (simp; omega) | omega))
        | (go_at_call 14; refine (eqNet_any _ _ n _ k1' k2' (unhide HK) (fN_q.below (below_then (by repeat (first | with_reducible exact Below.refl _ _ | refine Below.setCell ?_ (by first | omega | (simp <;> omega) | (simp [World.setCell] <;> omega)) _ | refine Below.alloc ?_ (by first | omega | (simp <;> omega) | (simp [World.setCell] <;> omega)) _ | refine Below.drew ?_ | refine below_draws ?_ _ | exact Below.refl _ _)) hb_e0a)) hv_e0a).mono ?_; rintro e w_e0b ⟨rfl, hb_e0b⟩; obtain ⟨hc_e0b, hf_e0b⟩ := bcell hb_e0b; have rr0 := hc_e0b (w.heap.size) (0) (by first | (have := hb_e0a.size; omega) | (have := hb_e0a.size; simp at this ⊢; omega) | (simp; omega)); have rr1 := hc_e0b (w.heap.size) (1) (by first | (have := hb_e0a.size; omega) | (have := hb_e0a.size; simp at this ⊢; omega) | (simp; omega)); have rr2 := hc_e0b (w_x0.heap.size) (0) (by first | (have := hb_e0a.size; omega) | (have := hb_e0a.size; simp at this ⊢; omega) | (simp; omega)); have rr3 := hc_e0b (w_x0.heap.size) (1) (by first | (have := hb_e0a.size; omega) | (have := hb_e0a.size; simp at this ⊢; omega) | (simp; omega))))
    all_goals go_wp2_with fail
    all_goals go_meet
    all_goals exact ⟨rfl, below_then (below_then (by repeat (first | with_reducible exact Below.refl _ _ | refine Below.setCell ?_ (by first | omega | (simp <;> omega) | (simp [World.setCell] <;> omega)) _ | refine Below.alloc ?_ (by first | omega | (simp <;> omega) | (simp [World.setCell] <;> omega)) _ | refine Below.drew ?_ | refine below_draws ?_ _ | exact Below.refl _ _)) hb_e0a) hb_e0b⟩
  case rest =>
    obtain ⟨rfl, hb_e0⟩ := hcut
    clear p0 p1 y0 y1 pn yn
    have hbw_e0 := below_then hbw_q hb_e0
    have hb_2e := below_then hb_q hb_e0
    go_wp2_with fail
    refine (toTrainS_own tq ts tk _ htl (unhide HTB) (hts.below hbw_e0)).mono ?_
    rintro e w_f1 ⟨fa, rfl, hft, hb_f1⟩
    have hbw_f1 := below_then hbw_e0 hb_f1
    have hb_2f1 := below_then hb_2e hb_f1
    go_wp2_with fail
    refine (eqTrainS_any _ _ ts _ _ _ htl (unhide HTB) (fT1.below hb_2f1).in hft.at.in).mono ?_
    rintro e w_f2 ⟨rfl, hb_f2⟩
    have hbw_f2 := below_then hbw_f1 hb_f2
    go_wp2_with fail
    go_ret
    exact ⟨rfl, hbw_f2⟩
end Go.Proofs.YtbdggfpfpjijoabGreatDoor

