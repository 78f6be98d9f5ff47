import Derived.Test.YtcmakcnkiekalabImpl5
import Derived.Test.YtcmakcnkiekalabImpl6
namespace Go.Proofs.Ytcmakcnkiekalab
open Go.RowKit

theorem first_ne {p : Nat → Prop} {n : Nat} {r : Int} (h : IsFirst p n r) (e : r ≠ -1) : 0 ≤ r := by
  rcases h with ⟨h, _⟩ | ⟨i, _, h, _⟩ <;> omega

theorem first_all {p : Nat → Prop} {n : Nat} (h : IsFirst p n (-1)) : ∀ k, k < n → ¬ p k := by
  rcases h with ⟨_, h⟩ | ⟨i, _, h, _⟩
  · exact h
  · omega

set_option maxHeartbeats 1000000 in
theorem implNetOk_any (v : Value) (n : Nt) (w : World) {L : Nat} (hv : NetAt L w v n) (hl : n.pieces.length ≤ 1048576) (hl' : n.joints.length ≤ 1048576)
    (hle : ∀ i (h : i < n.joints.length), n.joints[i].name.size ≤ maxLen) (hnm : ∀ i (h : i < n.pieces.length), n.pieces[i].name.size ≤ maxLen) :
    Calls Try.prog 122 #[v] w fun e w' => ∃ c a : Int, e = .returned (.agg #[.int .i64 c, .int .i64 a]) ∧ NetRes n c a ∧ Below w.heap.size w w' := by
  have hvv := hv
  obtain ⟨a, c, ca, cc, rfl, hp, hj⟩ := hv
  by_cases hout : n.pieces.length = 0 ∨ 100 < n.pieces.length ∨ 120 < n.joints.length
  · have HO := hide (netRes1 hout)
    by_cases h0 : n.pieces.length = 0
    · have e0 : ((n.pieces.length : Int) == 0) = true := by simp [h0]
      clear h0 hout
      go_enter Try.func122, Try.ntmps122
      go_wp2
      exact bodyPost_ret (v := .agg #[.int .i64 1, .int .i64 0]) (by simp [results, Try.results122, go_sem]) rfl ⟨1, 0, rfl, unhide HO, (by repeat (first | with_reducible exact Below.refl _ _ | refine Below.setCell ?_ (by first | omega | (simp <;> omega) | (simp [World.setCell] <;> omega)) _ | refine Below.alloc ?_ (by first | omega | (simp <;> omega) | (simp [World.setCell] <;> omega)) _ | refine Below.drew ?_ | refine below_draws ?_ _ | exact Below.refl _ _))⟩
    · have e0 : ((n.pieces.length : Int) == 0) = false := by simp [h0]
      clear h0
      by_cases h1 : 100 < (n.pieces.length : Int)
      · clear hout
        go_enter Try.func122, Try.ntmps122
        go_wp2
        exact bodyPost_ret (v := .agg #[.int .i64 1, .int .i64 0]) (by simp [results, Try.results122, go_sem]) rfl ⟨1, 0, rfl, unhide HO, (by repeat (first | with_reducible exact Below.refl _ _ | refine Below.setCell ?_ (by first | omega | (simp <;> omega) | (simp [World.setCell] <;> omega)) _ | refine Below.alloc ?_ (by first | omega | (simp <;> omega) | (simp [World.setCell] <;> omega)) _ | refine Below.drew ?_ | refine below_draws ?_ _ | exact Below.refl _ _))⟩
      · have h2 : 120 < (n.joints.length : Int) := by
          have : ¬ n.pieces.length = 0 := by simpa using e0
          omega
        clear hout
        go_enter Try.func122, Try.ntmps122
        go_wp2
        exact bodyPost_ret (v := .agg #[.int .i64 1, .int .i64 0]) (by simp [results, Try.results122, go_sem]) rfl ⟨1, 0, rfl, unhide HO, (by repeat (first | with_reducible exact Below.refl _ _ | refine Below.setCell ?_ (by first | omega | (simp <;> omega) | (simp [World.setCell] <;> omega)) _ | refine Below.alloc ?_ (by first | omega | (simp <;> omega) | (simp [World.setCell] <;> omega)) _ | refine Below.drew ?_ | refine below_draws ?_ _ | exact Below.refl _ _))⟩
  · have HO := hide hout
    have e0 : ((n.pieces.length : Int) == 0) = false := by rw [beq_eq_false_iff_ne]; omega
    have e1 : decide (100 < (n.pieces.length : Int)) = false := by simp; omega
    have e2 : decide (120 < (n.joints.length : Int)) = false := by simp; omega
    have g1 : n.pieces.length ≤ 100 := by omega
    have g2 : n.joints.length ≤ 120 := by omega
    clear hout
    go_enter Try.func122, Try.ntmps122
    go_wp2_with fail
    refine (wrongPiece_any a n.pieces ca _ (L := L) ?hA g1 hnm).mono ?_
    case hA => exact hp.below (by repeat (first | with_reducible exact Below.refl _ _ | refine Below.setCell ?_ (by first | omega | (simp <;> omega) | (simp [World.setCell] <;> omega)) _ | refine Below.alloc ?_ (by first | omega | (simp <;> omega) | (simp [World.setCell] <;> omega)) _ | refine Below.drew ?_ | refine below_draws ?_ _ | exact Below.refl _ _))
    rintro e w1 ⟨r2, rfl, h2, hb1⟩
    have hbw1 := Below.trans ((by repeat (first | with_reducible exact Below.refl _ _ | refine Below.setCell ?_ (by first | omega | (simp <;> omega) | (simp [World.setCell] <;> omega)) _ | refine Below.alloc ?_ (by first | omega | (simp <;> omega) | (simp [World.setCell] <;> omega)) _ | refine Below.drew ?_ | refine below_draws ?_ _ | exact Below.refl _ _)) : Below w.heap.size w _) (hb1.mono (by simp <;> omega))
    have hB1_1 : Boxed w1 w.heap.size [.slice a n.pieces.length ca, .slice c n.joints.length cc] := ((boxed_alloc _ _ _).below (by repeat (first | with_reducible exact Below.refl _ _ | refine Below.setCell ?_ (by first | omega | (simp <;> omega) | (simp [World.setCell] <;> omega)) _ | refine Below.alloc ?_ (by first | omega | (simp <;> omega) | (simp [World.setCell] <;> omega)) _ | refine Below.drew ?_ | refine below_draws ?_ _ | exact Below.refl _ _))).below hb1
    have hB2_1 : Boxed w1 (w.heap.size + 1) [.int .i64 0, .int .i64 0] := (boxedN _ _ _ (by simp)).below hb1
    have b0_1 := hB1_1.2.1 0 _ rfl
    have b1_1 := hB1_1.2.1 1 _ rfl
    have d0_1 := hB2_1.2.1 0 _ rfl
    have d1_1 := hB2_1.2.1 1 _ rfl
    have z_1 := hB2_1.2.2
    have H2 := hide h2
    clear h2
    cases q2 : (r2 != -1)
    rotate_left
    · have hq : r2 ≠ -1 := by simpa using q2
      have HB := hide (netRes2 (unhide HO) (unhide H2) hq)
      clear hq
      go_wp2
      exact bodyPost_ret (v := .agg #[.int .i64 2, .int .i64 r2]) (by simp [results, Try.results122, go_sem, d0_1, d1_1]) rfl ⟨2, r2, rfl, unhide HB, (by repeat (first | with_reducible exact Below.refl _ _ | with_reducible exact hbw1 | refine Below.setCell ?_ (by first | omega | (simp <;> omega) | (simp [World.setCell] <;> omega)) _ | refine Below.alloc ?_ (by first | omega | (simp <;> omega) | (simp [World.setCell] <;> omega)) _ | refine Below.drew ?_ | refine below_draws ?_ _ | exact hbw1 | exact Below.refl _ _))⟩
    obtain rfl : r2 = -1 := by simpa using q2
    clear q2
    go_wp2_with fail
    refine (wrongJoint_any _ n _ (hvv.below hbw1) g2).mono ?_
    rintro e w2 ⟨r3, rfl, h3, hb2⟩
    have hbw2 := below_then hbw1 hb2
    have hB1_2 := hB1_1.below hb2
    have hB2_2 := hB2_1.below hb2
    have b0_2 := hB1_2.2.1 0 _ rfl
    have b1_2 := hB1_2.2.1 1 _ rfl
    have d0_2 := hB2_2.2.1 0 _ rfl
    have d1_2 := hB2_2.2.1 1 _ rfl
    have z_2 := hB2_2.2.2
    have H3 := hide h3
    clear h3 b0_1 b1_1 d0_1 d1_1 z_1
    cases q3 : (r3 != -1)
    rotate_left
    · have hq : r3 ≠ -1 := by simpa using q3
      have HB := hide (netRes3 (unhide HO) (unhide H2) (unhide H3) hq)
      clear hq
      go_wp2
      exact bodyPost_ret (v := .agg #[.int .i64 3, .int .i64 r3]) (by simp [results, Try.results122, go_sem, d0_2, d1_2]) rfl ⟨3, r3, rfl, unhide HB, (by repeat (first | with_reducible exact Below.refl _ _ | with_reducible exact hbw2 | refine Below.setCell ?_ (by first | omega | (simp <;> omega) | (simp [World.setCell] <;> omega)) _ | refine Below.alloc ?_ (by first | omega | (simp <;> omega) | (simp [World.setCell] <;> omega)) _ | refine Below.drew ?_ | refine below_draws ?_ _ | exact hbw2 | exact Below.refl _ _))⟩
    obtain rfl : r3 = -1 := by simpa using q3
    clear q3
    have HF : Hid (∀ i (h : i < n.joints.length), JtFits n.pieces.length n.joints[i]) := fun i h => Classical.byContradiction fun hc => first_all (unhide H3) i h ⟨h, hc⟩
    go_wp2_with fail
    refine (wrongJointName_any c n.joints cc _ (hj.below hbw2) g2 hle (fun i h => ((fits_iff _ _).1 (unhide HF i h)).1)).mono ?_
    rintro e w3 ⟨r4, rfl, h4, hb3⟩
    have hbw3 := below_then hbw2 hb3
    have hB1_3 := hB1_2.below hb3
    have hB2_3 := hB2_2.below hb3
    have b0_3 := hB1_3.2.1 0 _ rfl
    have b1_3 := hB1_3.2.1 1 _ rfl
    have d0_3 := hB2_3.2.1 0 _ rfl
    have d1_3 := hB2_3.2.1 1 _ rfl
    have z_3 := hB2_3.2.2
    have H4 := hide h4
    clear h4 b0_2 b1_2 d0_2 d1_2 z_2
    cases q4 : (r4 != -1)
    rotate_left
    · have hq : r4 ≠ -1 := by simpa using q4
      have HB := hide (netRes4 (unhide HO) (unhide H2) (unhide H3) (unhide H4) hq)
      clear hq
      go_wp2
      exact bodyPost_ret (v := .agg #[.int .i64 4, .int .i64 r4]) (by simp [results, Try.results122, go_sem, d0_3, d1_3]) rfl ⟨4, r4, rfl, unhide HB, (by repeat (first | with_reducible exact Below.refl _ _ | with_reducible exact hbw3 | refine Below.setCell ?_ (by first | omega | (simp <;> omega) | (simp [World.setCell] <;> omega)) _ | refine Below.alloc ?_ (by first | omega | (simp <;> omega) | (simp [World.setCell] <;> omega)) _ | refine Below.drew ?_ | refine below_draws ?_ _ | exact hbw3 | exact Below.refl _ _))⟩
    obtain rfl : r4 = -1 := by simpa using q4
    clear q4
    go_wp2_with fail
    refine (wrongEnds_any _ n _ (hvv.below hbw3) g1 g2 (unhide HF)).mono ?_
    rintro e w4 ⟨r5, rfl, h5, hb4⟩
    have hbw4 := below_then hbw3 hb4
    have hB1_4 := hB1_3.below hb4
    have hB2_4 := hB2_3.below hb4
    have b0_4 := hB1_4.2.1 0 _ rfl
    have b1_4 := hB1_4.2.1 1 _ rfl
    have d0_4 := hB2_4.2.1 0 _ rfl
    have d1_4 := hB2_4.2.1 1 _ rfl
    have z_4 := hB2_4.2.2
    have H5 := hide h5
    clear h5 b0_3 b1_3 d0_3 d1_3 z_3
    cases q5 : (r5 != -1)
    rotate_left
    · have hq : r5 ≠ -1 := by simpa using q5
      have HB := hide (netRes5 (unhide HO) (unhide H2) (unhide H3) (unhide H4) (unhide H5) hq)
      clear hq
      go_wp2
      exact bodyPost_ret (v := .agg #[.int .i64 5, .int .i64 r5]) (by simp [results, Try.results122, go_sem, d0_4, d1_4]) rfl ⟨5, r5, rfl, unhide HB, (by repeat (first | with_reducible exact Below.refl _ _ | with_reducible exact hbw4 | refine Below.setCell ?_ (by first | omega | (simp <;> omega) | (simp [World.setCell] <;> omega)) _ | refine Below.alloc ?_ (by first | omega | (simp <;> omega) | (simp [World.setCell] <;> omega)) _ | refine Below.drew ?_ | refine below_draws ?_ _ | exact hbw4 | exact Below.refl _ _))⟩
    obtain rfl : r5 = -1 := by simpa using q5
    clear q5
    have HB := hide (netRes0 (unhide HO) (unhide H2) (unhide H3) (unhide H4) (unhide H5))
    go_wp2
    exact bodyPost_ret (v := .agg #[.int .i64 0, .int .i64 0]) (by simp [results, Try.results122, go_sem, d0_4, d1_4]) rfl ⟨0, 0, rfl, unhide HB, (by repeat (first | with_reducible exact Below.refl _ _ | with_reducible exact hbw4 | refine Below.setCell ?_ (by first | omega | (simp <;> omega) | (simp [World.setCell] <;> omega)) _ | refine Below.alloc ?_ (by first | omega | (simp <;> omega) | (simp [World.setCell] <;> omega)) _ | refine Below.drew ?_ | refine below_draws ?_ _ | exact hbw4 | exact Below.refl _ _))⟩
end Go.Proofs.Ytcmakcnkiekalab
