import Derived.Test.YtbdggfpfpjijoaaG1
import Derived.Test.YtbdggfpfpjijoaaTo
import Derived.Test.YtbdggfpfpjijoaaEq
import Derived.Test.YtbdggfpfpjijoaaG3
import Derived.Test.YtbdggfpfpjijoaaG8
namespace Go.Proofs.Ytbdggfpfpjijoaa
open Go.RowKit

set_option maxHeartbeats 2000000 in
theorem lawNetOk_any (v : Value) (n : Nt) (w : World) {L : Nat} (hv : NetAt L w v n) (hl : n.pieces.length ≤ maxLen) (hl' : n.joints.length ≤ maxLen)
    (hle : ∀ i (h : i < n.joints.length), n.joints[i].name.size ≤ maxLen ∧ n.joints[i].ends.length ≤ maxLen) (hnm : ∀ i (h : i < n.pieces.length), n.pieces[i].name.size ≤ maxLen) :
    Calls Try.prog 4 #[v] w fun e w' => e = .returned (.bool true) ∧ Below w.heap.size w w' := by
  have hvv := hv
  obtain ⟨a, c, ca, cc, rfl, hp, hj⟩ := hv
  go_enter Try.func4, Try.ntmps4
  go_wp2_with fail
  refine (szNet_any a c n.pieces n.joints ca cc 1048576 _ (by omega) (by omega) hl (L := L) ?hA hnm hl' ?hB hle).mono ?_
  case hA => exact hp.below (by repeat (first | with_reducible exact Below.refl _ _ | refine Below.setCell ?_ (by first | omega | (simp <;> omega) | (simp [World.setCell] <;> omega)) _ | refine Below.alloc ?_ (by first | omega | (simp <;> omega) | (simp [World.setCell] <;> omega)) _ | refine Below.drew ?_ | refine below_draws ?_ _ | exact Below.refl _ _))
  case hB => exact hj.below (by repeat (first | with_reducible exact Below.refl _ _ | refine Below.setCell ?_ (by first | omega | (simp <;> omega) | (simp [World.setCell] <;> omega)) _ | refine Below.alloc ?_ (by first | omega | (simp <;> omega) | (simp [World.setCell] <;> omega)) _ | refine Below.drew ?_ | refine below_draws ?_ _ | exact Below.refl _ _))
  rintro e w1 ⟨r, rfl, hr, hbd, hb1⟩
  have hbw1 := Below.trans ((by repeat (first | with_reducible exact Below.refl _ _ | refine Below.setCell ?_ (by first | omega | (simp <;> omega) | (simp [World.setCell] <;> omega)) _ | refine Below.alloc ?_ (by first | omega | (simp <;> omega) | (simp [World.setCell] <;> omega)) _ | refine Below.drew ?_ | refine below_draws ?_ _ | exact Below.refl _ _)) : Below w.heap.size w _) (hb1.mono (by simp <;> omega))
  have hB0 : Boxed w1 w.heap.size [.slice a n.pieces.length ca, .slice c n.joints.length cc] := (boxed_alloc _ _ _).below hb1
  by_cases hneg : r < 0
  · go_wp2
    go_ret
    exact ⟨rfl, hbw1⟩
  obtain ⟨k1, k2, k3⟩ := hbd (by omega)
  have k1' : n.pieces.length ≤ 1048576 := by omega
  have k2' : n.joints.length ≤ 1048576 := by omega
  have k3' : ∀ i (h : i < n.joints.length), n.joints[i].ends.length ≤ 1048576 := fun i h => by have := k3 i h; omega
  clear k1 k2 k3 hbd
  have a0 := hB0.2.1 0 _ rfl
  have a1 := hB0.2.1 1 _ rfl
  go_wp2_with fail
  refine (toNet_any _ n _ (hvv.below hbw1) k1' k2' k3').mono ?_
  rintro e w2 ⟨v2, rfl, hv2, hb2⟩
  have hbw2 := below_then hbw1 hb2
  have hB0_2 := hB0.below hb2
  go_wp2_with fail
  refine (specNetOk_any _ n _ hv2 k1' k2' (fun i h => ⟨k3' i h, (hle i h).1⟩) hnm).mono ?_
  rintro e w3 ⟨fc, fa, rfl, hres, hb3⟩
  have hbw3 := below_then hbw2 hb3
  have hB0_3 := hB0_2.below hb3
  have HRES := hide hres
  clear hres a0 a1
  have a0 := hB0_3.2.1 0 _ rfl
  have a1 := hB0_3.2.1 1 _ rfl
  have n0 := hB0_3.1
  go_wp2_with fail
  refine (toNet_any _ n _ (L := L) ?hA k1' k2' k3').mono ?_
  case hA => exact hvv.below (by repeat (first | with_reducible exact Below.refl _ _ | with_reducible exact hbw3 | refine Below.setCell ?_ (by first | omega | (simp <;> omega) | (simp [World.setCell] <;> omega)) _ | refine Below.alloc ?_ (by first | omega | (simp <;> omega) | (simp [World.setCell] <;> omega)) _ | refine Below.drew ?_ | refine below_draws ?_ _ | exact hbw3 | exact Below.refl _ _))
  rintro e w5 ⟨v5, rfl, hv5, hb5⟩
  have hb5' : Below w3.heap.size w3 w5 := Below.trans (by repeat (first | with_reducible exact Below.refl _ _ | refine Below.setCell ?_ (by first | omega | (simp <;> omega) | (simp [World.setCell] <;> omega)) _ | refine Below.alloc ?_ (by first | omega | (simp <;> omega) | (simp [World.setCell] <;> omega)) _ | refine Below.drew ?_ | refine below_draws ?_ _ | exact Below.refl _ _)) (hb5.mono (by simp))
  have hbw5 := below_then hbw3 hb5'
  have hB0_5 := hB0_3.below hb5'
  have hB4 : Boxed w5 w3.heap.size [.int .i64 fc, .int .i64 fa] := (boxed_alloc _ _ _).below hb5
  have hv5' := hv5
  obtain ⟨xa, xc, xca, xcc, rfl, hxp, hxj⟩ := hv5
  clear a0 a1 n0
  go_wp2_with fail
  refine (implNetOk_any _ n _ (L := (w3.alloc (.cells #[.int .i64 fc, .int .i64 fa] 52)).heap.size) ?hA k1' k2' (fun i h => (hle i h).1) hnm).mono ?_
  case hA => exact hv5'.below (by repeat (first | with_reducible exact Below.refl _ _ | refine Below.setCell ?_ (by first | omega | (simp <;> omega) | (simp [World.setCell] <;> omega)) _ | refine Below.alloc ?_ (by first | omega | (simp <;> omega) | (simp [World.setCell] <;> omega)) _ | refine Below.drew ?_ | refine below_draws ?_ _ | exact Below.refl _ _))
  rintro e w7 ⟨gc, ga, rfl, hres7, hb7⟩
  obtain ⟨rfl, rfl⟩ := (unhide HRES).unique hres7
  have hb7' : Below w5.heap.size w5 w7 := Below.trans (by repeat (first | with_reducible exact Below.refl _ _ | refine Below.setCell ?_ (by first | omega | (simp <;> omega) | (simp [World.setCell] <;> omega)) _ | refine Below.alloc ?_ (by first | omega | (simp <;> omega) | (simp [World.setCell] <;> omega)) _ | refine Below.drew ?_ | refine below_draws ?_ _ | exact Below.refl _ _)) (hb7.mono (by simp))
  have hbw7 := below_then hbw5 hb7'
  have hB0_7 := hB0_5.below hb7'
  have hB4_7 := hB4.below hb7'
  have hB6 : Boxed w7 w5.heap.size [.slice xa n.pieces.length xca, .slice xc n.joints.length xcc] := (boxed_alloc _ _ _).below hb7
  have f0 := hB4_7.2.1 0 _ rfl
  have f1 := hB4_7.2.1 1 _ rfl
  have n4 := hB4_7.1
  clear hres7 HRES
  go_wp2_with fail
  refine (eqFault_any _ _ _).mono ?_
  rintro e w9 ⟨rfl, hb9⟩
  have hb9' : Below w7.heap.size w7 w9 := Below.trans (by repeat (first | with_reducible exact Below.refl _ _ | refine Below.setCell ?_ (by first | omega | (simp <;> omega) | (simp [World.setCell] <;> omega)) _ | refine Below.alloc ?_ (by first | omega | (simp <;> omega) | (simp [World.setCell] <;> omega)) _ | refine Below.drew ?_ | refine below_draws ?_ _ | exact Below.refl _ _)) (hb9.mono (by simp))
  have hbw9 := below_then hbw7 hb9'
  have hB0_9 := hB0_7.below hb9'
  have hB6_9 := hB6.below hb9'
  have a0 := hB0_9.2.1 0 _ rfl
  have a1 := hB0_9.2.1 1 _ rfl
  have x0 := hB6_9.2.1 0 _ rfl
  have x1 := hB6_9.2.1 1 _ rfl
  have hv9 := ((hv5'.below hb7').below hb9').below (Below.drew (Below.refl _ _))
  have hvv9 := (hvv.below hbw9).below (Below.drew (Below.refl _ _))
  clear f0 f1 n4
  have HV9 := hide hv9
  have HVV9 := hide hvv9
  have HK := hide k3'
  clear hv9 hvv9 k3' hle hnm
  go_wp2_with fail
  go_region_with (first
    | (go_at_call 15; refine (toNet_any _ n _ (unhide HVV9) k1' k2' (unhide HK)).mono ?_; rintro e w10 ⟨v10, rfl, hv10, hb10⟩; have hB10 := hB6_9.below (below_then (Below.drew (Below.refl _ _)) hb10); have y0 := hB10.2.1 0 _ rfl; have y1 := hB10.2.1 1 _ rfl)
    | (go_at_call 18; refine (eqNet_any _ _ n _ k1' k2' (unhide HK) ((unhide HV9).below hb10) hv10).mono ?_; rintro e w11 ⟨rfl, hb11⟩))
  all_goals go_wp2
  all_goals go_ret
  all_goals exact ⟨rfl, below_then (below_then hbw9.drew hb10) hb11⟩
end Go.Proofs.Ytbdggfpfpjijoaa

