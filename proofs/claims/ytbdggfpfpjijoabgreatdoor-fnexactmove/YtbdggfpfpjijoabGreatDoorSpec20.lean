import Derived.Test.YtbdggfpfpjijoabGreatDoorG31
import Derived.Test.YtbdggfpfpjijoabGreatDoorG23
namespace Go.Proofs.YtbdggfpfpjijoabGreatDoor
open Go.RowKit

set_option maxRecDepth 100000 in
set_option maxHeartbeats 4000000 in
theorem l3count_any (v tv : Value) (n : Nt) (t : Tr) (w : World) {L L' : Nat} (hv : NetAt L w v n) (htv : TrAt L' w tv t) (hG : NetGood n) (hS : SpotOk n t.front) (hsteps : ∀ x ∈ t.back, StepOk n x) (h200 : t.back.length ≤ 1000) :
    Calls Tryz.prog 89 #[v, tv] w fun e w' => e = .returned (.int .i64 (takeLen n t.long (behind n t.front) t.back).length) ∧ Below w.heap.size w w' := by
  have hvv := hv
  have htt := htv
  obtain ⟨x, c, ca, cc, rfl, hp, hj⟩ := hv
  obtain ⟨ba, bc, rfl, hst⟩ := htv
  have HST := hide hsteps
  clear hsteps
  go_enter Tryz.func89, Tryz.ntmps89
  go_wp2_with fail
  refine (l3trim_any _ _ n t _ (hvv.below ?_) (htt.below ?_) hG hS (unhide HST) h200).mono ?_
  · exact (by repeat (first | with_reducible exact Below.refl _ _ | refine Below.setCell ?_ (by first | omega | (simp <;> omega) | (simp [World.setCell] <;> omega)) _ | refine Below.alloc ?_ (by first | omega | (simp <;> omega) | (simp [World.setCell] <;> omega)) _ | refine Below.drew ?_ | refine below_draws ?_ _ | exact Below.refl _ _))
  · exact (by repeat (first | with_reducible exact Below.refl _ _ | refine Below.setCell ?_ (by first | omega | (simp <;> omega) | (simp [World.setCell] <;> omega)) _ | refine Below.alloc ?_ (by first | omega | (simp <;> omega) | (simp [World.setCell] <;> omega)) _ | refine Below.drew ?_ | refine below_draws ?_ _ | exact Below.refl _ _))
  rintro e w1 ⟨a, cap, rfl, hrow, hb1⟩
  have hbw1 : Below w.heap.size w w1 := below_then (by repeat (first | with_reducible exact Below.refl _ _ | refine Below.setCell ?_ (by first | omega | (simp <;> omega) | (simp [World.setCell] <;> omega)) _ | refine Below.alloc ?_ (by first | omega | (simp <;> omega) | (simp [World.setCell] <;> omega)) _ | refine Below.drew ?_ | refine below_draws ?_ _ | exact Below.refl _ _)) hb1
  clear hrow
  go_wp2
  go_ret
  exact ⟨rfl, below_then hbw1 (by repeat (first | with_reducible exact Below.refl _ _ | refine Below.setCell ?_ (by first | omega | (simp <;> omega) | (simp [World.setCell] <;> omega)) _ | refine Below.alloc ?_ (by first | omega | (simp <;> omega) | (simp [World.setCell] <;> omega)) _ | refine Below.drew ?_ | refine below_draws ?_ _ | exact Below.refl _ _))⟩
/-- What is a move at all. -/
def MoveGiven (n : Nt) (zs : List Int) (t : Tr) (F : Int) : Prop := LiesRight n zs ∧ TrainFits n t ∧ (0 ≤ F ∧ F ≤ 10000)

set_option maxRecDepth 100000 in
set_option maxHeartbeats 4000000 in
theorem l3good_any (v tv : Value) (n : Nt) (zq : Option Addr) (zs : List Int) (zc : Nat) (t : Tr) (F : Int) (w : World) {L L' L'' : Nat} (hv : NetAt L w v n) (hz : IntsAt L' w zq zs) (htv : TrAt L'' w tv t) (hl : n.pieces.length ≤ 1048576) (hl' : n.joints.length ≤ 1048576)
    (hle : ∀ i (h : i < n.joints.length), n.joints[i].ends.length ≤ 1048576 ∧ n.joints[i].name.size ≤ maxLen) (hnm : ∀ i (h : i < n.pieces.length), n.pieces[i].name.size ≤ maxLen) (hbl : t.back.length ≤ 1048576) :
    Calls Tryz.prog 36 #[v, .slice zq zs.length zc, tv, .int .i64 F] w fun e w' => RetB (MoveGiven n zs t F) e ∧ Below w.heap.size w w' := by
  have hvv := hv
  have htt := htv
  obtain ⟨x, c, ca, cc, rfl, hp, hj⟩ := hv
  obtain ⟨ba, bc, rfl, hst⟩ := htv
  go_enter Tryz.func36, Tryz.ntmps36
  go_wp2_with fail
  refine (specLiesOk_any _ n _ zs _ _ (hvv.below ?_) (hz.below ?_) hl hl' hle hnm).mono ?_
  · exact (by repeat (first | with_reducible exact Below.refl _ _ | refine Below.setCell ?_ (by first | omega | (simp <;> omega) | (simp [World.setCell] <;> omega)) _ | refine Below.alloc ?_ (by first | omega | (simp <;> omega) | (simp [World.setCell] <;> omega)) _ | refine Below.drew ?_ | refine below_draws ?_ _ | exact Below.refl _ _))
  · exact (by repeat (first | with_reducible exact Below.refl _ _ | refine Below.setCell ?_ (by first | omega | (simp <;> omega) | (simp [World.setCell] <;> omega)) _ | refine Below.alloc ?_ (by first | omega | (simp <;> omega) | (simp [World.setCell] <;> omega)) _ | refine Below.drew ?_ | refine below_draws ?_ _ | exact Below.refl _ _))
  rintro e w1 ⟨⟨rfl, hr1⟩ | ⟨rfl, hr1⟩, hb1⟩
  · have hbw1 : Below w.heap.size w w1 := below_then (by repeat (first | with_reducible exact Below.refl _ _ | refine Below.setCell ?_ (by first | omega | (simp <;> omega) | (simp [World.setCell] <;> omega)) _ | refine Below.alloc ?_ (by first | omega | (simp <;> omega) | (simp [World.setCell] <;> omega)) _ | refine Below.drew ?_ | refine below_draws ?_ _ | exact Below.refl _ _)) hb1
    have hBn1 : Boxed w1 w.heap.size [.slice x n.pieces.length ca, .slice c n.joints.length cc] := ((boxed_alloc _ _ _).alloc _).below hb1
    have hBt1 : Boxed w1 (w.heap.size + 1) [.int .i64 t.front.piece, .int .i64 t.front.at_, .int .i64 t.front.way, .int .i64 t.long, .slice ba t.back.length bc] := (boxedN _ _ _ (by simp)).below hb1
    have a0 := hBn1.2.1 0 _ rfl
    have a1 := hBn1.2.1 1 _ rfl
    have b0 := hBt1.2.1 0 _ rfl
    have b1 := hBt1.2.1 1 _ rfl
    have b2 := hBt1.2.1 2 _ rfl
    have b3 := hBt1.2.1 3 _ rfl
    have b4 := hBt1.2.1 4 _ rfl
    have hG := netGood hr1.1
    have HR := hide hr1
    clear hr1
    go_wp2_with fail
    refine (l2train_any _ _ n t _ (hvv.below hbw1) (htt.below hbw1) hG hbl).mono ?_
    rintro e w2 ⟨⟨rfl, hf⟩ | ⟨rfl, hf⟩, hb2⟩
    · have hbw2 := below_then hbw1 hb2
      have HF := hide hf
      clear hf a0 a1 b0 b1 b2 b3 b4
      by_cases hr : 0 ≤ F ∧ F ≤ 10000
      · go_wp2_with fail
        refine (l1in_T _ _ _ _ (inB_true hr)).mono ?_
        rintro e w3 ⟨rfl, rfl⟩
        go_wp2
        go_ret
        exact ⟨retB_true ⟨unhide HR, unhide HF, hr⟩, hbw2⟩
      · go_wp2_with fail
        refine (l1in_F _ _ _ _ (inB_false hr)).mono ?_
        rintro e w3 ⟨rfl, rfl⟩
        go_wp2
        go_ret
        exact ⟨retB_false fun h => hr h.2.2, hbw2⟩
    · have HF := hide hf
      clear hf
      go_wp2
      go_ret
      exact ⟨retB_false fun h => unhide HF h.2.1, below_then hbw1 hb2⟩
  · have HR := hide hr1
    clear hr1
    go_wp2
    go_ret
    exact ⟨retB_false fun h => unhide HR h.1, below_then (by repeat (first | with_reducible exact Below.refl _ _ | refine Below.setCell ?_ (by first | omega | (simp <;> omega) | (simp [World.setCell] <;> omega)) _ | refine Below.alloc ?_ (by first | omega | (simp <;> omega) | (simp [World.setCell] <;> omega)) _ | refine Below.drew ?_ | refine below_draws ?_ _ | exact Below.refl _ _)) hb1⟩
end Go.Proofs.YtbdggfpfpjijoabGreatDoor

