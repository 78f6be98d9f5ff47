import Derived.Test.YtbdggfpfpjijoaaG1
import Derived.Test.YtbdggfpfpjijoaaG13
namespace Go.Proofs.Ytbdggfpfpjijoaa
open Go.RowKit

set_option maxHeartbeats 4000000 in
theorem lawLiesOk_any (v : Value) (n : Nt) (q : Option Addr) (zs : List Int) (cq : Nat) (w : World) {L L' : Nat} (hv : NetAt L w v n) (hz : IntsAt L' w q zs) (hl : n.pieces.length ≤ maxLen) (hl' : n.joints.length ≤ maxLen)
    (hle : ∀ i (h : i < n.joints.length), n.joints[i].name.size ≤ maxLen ∧ n.joints[i].ends.length ≤ maxLen) (hnm : ∀ i (h : i < n.pieces.length), n.pieces[i].name.size ≤ maxLen) :
    Calls Try.prog 5 #[v, .slice q zs.length cq] w fun e w' => e = .returned (.bool true) ∧ Below w.heap.size w w' := by
  have hvv := hv
  obtain ⟨a, c, ca, cc, rfl, hp, hj⟩ := hv
  by_cases hbig : 1048576 < (zs.length : Int)
  · go_enter Try.func5, Try.ntmps5
    go_wp2
    go_ret
    exact ⟨rfl, (by repeat (first | with_reducible exact Below.refl _ _ | refine Below.setCell ?_ (by first | omega | (simp <;> omega) | (simp [World.setCell] <;> omega)) _ | refine Below.alloc ?_ (by first | omega | (simp <;> omega) | (simp [World.setCell] <;> omega)) _ | refine Below.drew ?_ | refine below_draws ?_ _ | exact Below.refl _ _))⟩
  have hzl : zs.length ≤ 1048576 := by omega
  go_enter Try.func5, Try.ntmps5
  go_wp2_with fail
  refine (szNet_any a c n.pieces n.joints ca cc 1048576 _ (by omega) (by omega) hl (L := L) ?hA hnm hl' ?hB hle).mono ?_
  case hA => exact hp.below (by repeat (first | with_reducible exact Below.refl _ _ | refine Below.setCell ?_ (by first | omega | (simp <;> omega) | (simp [World.setCell] <;> omega)) _ | refine Below.alloc ?_ (by first | omega | (simp <;> omega) | (simp [World.setCell] <;> omega)) _ | refine Below.drew ?_ | refine below_draws ?_ _ | exact Below.refl _ _))
  case hB => exact hj.below (by repeat (first | with_reducible exact Below.refl _ _ | refine Below.setCell ?_ (by first | omega | (simp <;> omega) | (simp [World.setCell] <;> omega)) _ | refine Below.alloc ?_ (by first | omega | (simp <;> omega) | (simp [World.setCell] <;> omega)) _ | refine Below.drew ?_ | refine below_draws ?_ _ | exact Below.refl _ _))
  rintro e w1 ⟨r, rfl, hr, hbd, hb1⟩
  have hbw1 := Below.trans ((by repeat (first | with_reducible exact Below.refl _ _ | refine Below.setCell ?_ (by first | omega | (simp <;> omega) | (simp [World.setCell] <;> omega)) _ | refine Below.alloc ?_ (by first | omega | (simp <;> omega) | (simp [World.setCell] <;> omega)) _ | refine Below.drew ?_ | refine below_draws ?_ _ | exact Below.refl _ _)) : Below w.heap.size w _) (hb1.mono (by simp <;> omega))
  have hB0 : Boxed w1 w.heap.size [.slice a n.pieces.length ca, .slice c n.joints.length cc] := (boxed_alloc _ _ _).below hb1
  by_cases hneg : r < 0
  · go_wp2
    go_ret
    exact ⟨rfl, hbw1⟩
  obtain ⟨k1, k2, k3⟩ := hbd (by omega)
  have k1' : n.pieces.length ≤ 1048576 := by omega
  have k2' : n.joints.length ≤ 1048576 := by omega
  have k3' : ∀ i (h : i < n.joints.length), n.joints[i].ends.length ≤ 1048576 := fun i h => by have := k3 i h; omega
  clear k1 k2 k3 hbd
  have a0 := hB0.2.1 0 _ rfl
  have a1 := hB0.2.1 1 _ rfl
  go_wp2_with fail
  refine (toNet_any _ n _ (hvv.below hbw1) k1' k2' k3').mono ?_
  rintro e w2 ⟨v2, rfl, hv2, hb2⟩
  have hbw2 := below_then hbw1 hb2
  have hB0_2 := hB0.below hb2
  go_wp2_with fail
  refine (toIntS_any _ zs _ _ hzl (hz.below hbw2)).mono ?_
  rintro e w3 ⟨z3, rfl, hz3, hb3⟩
  have hbw3 := below_then hbw2 hb3
  have hB0_3 := hB0_2.below hb3
  go_wp2_with fail
  refine (specLiesOk_any _ n _ zs _ _ (hv2.below hb3) hz3 k1' k2' (fun i h => ⟨k3' i h, (hle i h).1⟩) hnm).mono ?_
  rintro e w4 ⟨hspec, hb4⟩
  have hbw4 := below_then hbw3 hb4
  have hB0_4 := hB0_3.below hb4
  obtain ⟨sb, rfl, hsb⟩ : ∃ sb : Bool, e = .returned (.bool sb) ∧ (sb = true ↔ LiesRight n zs) := by
    rcases hspec with ⟨rfl, h⟩ | ⟨rfl, h⟩
    · exact ⟨true, rfl, by simp [h]⟩
    · exact ⟨false, rfl, by simp [h]⟩
  have HSB := hide hsb
  clear hsb hspec a0 a1
  have a0 := hB0_4.2.1 0 _ rfl
  have a1 := hB0_4.2.1 1 _ rfl
  go_wp2_with fail
  refine (toNet_any _ n _ (hvv.below hbw4) k1' k2' k3').mono ?_
  rintro e w5 ⟨v5, rfl, hv5, hb5⟩
  have hbw5 := below_then hbw4 hb5
  have hB0_5 := hB0_4.below hb5
  have hv5' := hv5
  obtain ⟨xa, xc, xca, xcc, rfl, hxp, hxj⟩ := hv5
  clear a0 a1
  have hsz5 := hbw5.size
  go_wp2_with fail
  refine (toIntS_any q zs cq _ hzl (L := L') ?hA).mono ?_
  case hA => exact hz.below (by repeat (first | with_reducible exact Below.refl _ _ | with_reducible exact hbw5 | refine Below.setCell ?_ (by first | omega | (simp <;> omega) | (simp [World.setCell] <;> omega)) _ | refine Below.alloc ?_ (by first | omega | (simp <;> omega) | (simp [World.setCell] <;> omega)) _ | refine Below.drew ?_ | refine below_draws ?_ _ | exact hbw5 | exact Below.refl _ _))
  rintro e w6 ⟨z6, rfl, hz6, hb6⟩
  have hb6' : Below w5.heap.size w5 w6 := Below.trans (by repeat (first | with_reducible exact Below.refl _ _ | refine Below.setCell ?_ (by first | omega | (simp <;> omega) | (simp [World.setCell] <;> omega)) _ | refine Below.alloc ?_ (by first | omega | (simp <;> omega) | (simp [World.setCell] <;> omega)) _ | refine Below.drew ?_ | refine below_draws ?_ _ | exact Below.refl _ _)) (hb6.mono (by simp))
  have hbw6 := below_then hbw5 hb6'
  have hB0_6 := hB0_5.below hb6'
  have hX6 : Boxed w6 w5.heap.size [.slice xa n.pieces.length xca, .slice xc n.joints.length xcc] := (boxed_alloc _ _ _).below hb6
  have x0 := hX6.2.1 0 _ rfl
  have x1 := hX6.2.1 1 _ rfl
  go_wp2_with fail
  refine (implLiesOk_any _ n _ zs _ _ (hv5'.below hb6') hz6 k1' k2' (fun i h => (hle i h).1) hnm).mono ?_
  rintro e w7 ⟨himpl, hb7⟩
  have hbw7 := below_then hbw6 hb7
  have hB0_7 := hB0_6.below hb7
  have hX7 := hX6.below hb7
  have hz7 := hz6.below hb7
  obtain ⟨rfl⟩ : e = .returned (.bool sb) := by
    rcases himpl with ⟨rfl, h⟩ | ⟨rfl, h⟩
    · rw [(unhide HSB).2 h]
    · cases sb
      · rfl
      · exact absurd ((unhide HSB).1 rfl) h
  clear himpl HSB x0 x1
  have a0 := hB0_7.2.1 0 _ rfl
  have a1 := hB0_7.2.1 1 _ rfl
  have x0 := hX7.2.1 0 _ rfl
  have x1 := hX7.2.1 1 _ rfl
  have HV7 := hide ((hv5'.below (below_then hb6' hb7)).below (Below.drew (Below.refl _ _)))
  have HVV7 := hide ((hvv.below hbw7).below (Below.drew (Below.refl _ _)))
  have HK := hide k3'
  clear k3' hle hnm
  go_wp2_with fail
  go_region_with (first
    | (go_at_call 15; refine (toNet_any _ n _ (unhide HVV7) k1' k2' (unhide HK)).mono ?_; rintro e w10 ⟨v10, rfl, hv10, hb10⟩; have hB10 := hX7.below (below_then (Below.drew (Below.refl _ _)) hb10); have y0 := hB10.2.1 0 _ rfl; have y1 := hB10.2.1 1 _ rfl)
    | (go_at_call 18; refine (eqNet_any _ _ n _ k1' k2' (unhide HK) ((unhide HV7).below hb10) hv10).mono ?_; rintro e w11 ⟨rfl, hb11⟩))
  all_goals have hbw11 := below_then (below_then hbw7.drew hb10) hb11
  all_goals go_wp2_with fail
  all_goals refine (toIntS_any _ zs _ _ hzl (hz.below hbw11)).mono ?_
  all_goals rintro e w12 ⟨z12, rfl, hz12, hb12⟩
  all_goals go_wp2_with fail
  all_goals refine (eqIntS_any _ _ zs _ _ _ hzl (((((hz7.below (Below.drew (Below.refl _ _))).below hb10)).below hb11).below hb12) hz12).mono ?_
  all_goals rintro e w13 ⟨rfl, hb13⟩
  all_goals go_wp2
  all_goals go_ret
  all_goals exact ⟨rfl, below_then (below_then hbw11 hb12) hb13⟩
end Go.Proofs.Ytbdggfpfpjijoaa

