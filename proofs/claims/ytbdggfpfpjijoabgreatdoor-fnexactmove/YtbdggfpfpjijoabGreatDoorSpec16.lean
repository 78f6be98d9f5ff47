import Derived.Test.YtbdggfpfpjijoabGreatDoorKt24
import Derived.Test.YtbdggfpfpjijoabGreatDoorSpec14
namespace Go.Proofs.YtbdggfpfpjijoabGreatDoor
open Go.RowKit

theorem spot_behind' {n : Nt} (hG : NetGood n) {s : Sp} (hs : SpotOk n s) : 0 ≤ behind n s ∧ behind n s ≤ 10000000 := by
  have hlen := hG.len hs.1.1 hs.1.2
  have h3 := hs.2.2
  unfold behind room
  split <;> omega

def enterSp (n : Nt) (e : Ed) : Sp := if e.side = 0 then ⟨e.piece, 0, 1⟩ else ⟨e.piece, lenOf n e.piece, -1⟩

set_option maxRecDepth 100000 in
set_option maxHeartbeats 2000000 in
theorem l2enter_any (v : Value) (n : Nt) (e0 : Ed) (w : World) {L : Nat} (hv : NetAt L w v n) (he : EdFits n.pieces.length e0) :
    Calls Tryz.prog 88 #[v, .agg #[.int .i64 e0.piece, .int .i64 e0.side]] w fun e w' => e = .returned (.agg #[.int .i64 (enterSp n e0).piece, .int .i64 (enterSp n e0).at_, .int .i64 (enterSp n e0).way]) ∧ Below w.heap.size w w' := by
  obtain ⟨x, c, ca, cc, rfl, hp, hj⟩ := hv
  obtain ⟨p, sd⟩ := e0
  obtain ⟨⟨h1, h2⟩, h3, h4⟩ := he
  dsimp only at h1 h2 h3 h4 ⊢
  obtain ⟨pb, poff, rfl, hpb, c1⟩ := hp.len h1 h2
  obtain ⟨pn, rfl⟩ := Int.eq_ofNat_of_zero_le h1
  simp only [Int.toNat_natCast] at c1
  have hpb1 : pb < w.heap.size + 1 := by omega
  have hpb2 : pb < w.heap.size + 1 + 1 := by omega
  by_cases hs : sd = 0
  · subst hs
    have HP : Hid (enterSp n ⟨pn, 0⟩ = ⟨pn, 0, 1⟩) := by unfold Hid; simp [enterSp]
    go_enter Tryz.func88, Tryz.ntmps88
    go_wp2
    exact bodyPost_ret (v := .agg #[.int .i64 pn, .int .i64 0, .int .i64 1]) (by simp [results, Tryz.results88, go_sem]) rfl ⟨by rw [unhide HP], (by repeat (first | with_reducible exact Below.refl _ _ | refine Below.setCell ?_ (by first | omega | (simp <;> omega) | (simp [World.setCell] <;> omega)) _ | refine Below.alloc ?_ (by first | omega | (simp <;> omega) | (simp [World.setCell] <;> omega)) _ | refine Below.drew ?_ | refine below_draws ?_ _ | exact Below.refl _ _))⟩
  · have hsb := ne_beq hs
    have HP : Hid (enterSp n ⟨pn, sd⟩ = ⟨pn, lenOf n pn, -1⟩) := by unfold Hid; simp [enterSp, hs]
    clear hs
    go_enter Tryz.func88, Tryz.ntmps88
    go_wp2_with fail
    go_region
    go_wp2
    exact bodyPost_ret (v := .agg #[.int .i64 pn, .int .i64 (lenOf n pn), .int .i64 (-1)]) (by simp [results, Tryz.results88, go_sem]) rfl ⟨by rw [unhide HP], (by repeat (first | with_reducible exact Below.refl _ _ | refine Below.setCell ?_ (by first | omega | (simp <;> omega) | (simp [World.setCell] <;> omega)) _ | refine Below.alloc ?_ (by first | omega | (simp <;> omega) | (simp [World.setCell] <;> omega)) _ | refine Below.drew ?_ | refine below_draws ?_ _ | exact Below.refl _ _))⟩

theorem enter_twd {n : Nt} {e : Ed} (he : EdFits n.pieces.length e) : (⟨(enterSp n e).piece, -(enterSp n e).way⟩ : St) = twd e := by
  obtain ⟨p, sd⟩ := e
  have := he.2
  dsimp only at this
  unfold enterSp twd
  by_cases h : sd = 0
  · simp [h]
  · have h1 : sd = 1 := by omega
    simp [h1]



end Go.Proofs.YtbdggfpfpjijoabGreatDoor

