import Derived.Test.YtbdggfpfpjijoaaGreatKw3
import Derived.Test.YtbdggfpfpjijoaaGreatG28
namespace Go.Proofs.YtbdggfpfpjijoaaGreat
open Go.RowKit

/-! ### The parts of a body fit their pieces -/

theorem partOf_fits {n : Nt} {s : St} (hs : StepOk n s) {a b : Int} (h0 : 0 ≤ a) (h1 : a ≤ b) (h2 : b ≤ lenOf n s.piece) : PtFits n (partOf n s a b) := by
  unfold partOf
  split
  · exact ⟨hs.1, by dsimp only; omega, by dsimp only; omega, by dsimp only; omega⟩
  · exact ⟨hs.1, by dsimp only; omega, by dsimp only; omega, by dsimp only; omega⟩
theorem bodyFrom_ok {n : Nt} (hG : NetGood n) {long : Int} : ∀ {bk : List St} {hv along : Int} {at_ : St}, BackOk n long hv at_ bk → 0 < long - (hv - along) → (0 ≤ along ∧ along ≤ lenOf n at_.piece) → StepOk n at_ →
    (∀ p ∈ bodyFrom n (long - (hv - along)) along at_ bk, PtFits n p) ∧ bodyFrom n (long - (hv - along)) along at_ bk ≠ [] := by
  intro bk
  induction bk with
  | nil =>
    intro hv along at_ hB hl ha hs
    simp only [BackOk] at hB
    have hm : (if along > long - (hv - along) then long - (hv - along) else along) = long - (hv - along) := by split <;> omega
    simp only [bodyFrom, hm, if_pos hl]
    refine ⟨fun p hp => ?_, by simp⟩
    simp at hp
    subst hp
    exact partOf_fits hs (by omega) (by omega) ha.2
  | cons s r ih =>
    intro hv along at_ hB hl ha hs
    obtain ⟨hss, hlt, _, hB'⟩ := hB
    have hls := hG.len hss.1.1 hss.1.2
    have hm : (if along > long - (hv - along) then long - (hv - along) else along) = along := by split <;> omega
    have hne : ¬ long - (hv - along) - along = 0 := by omega
    obtain ⟨g1, g2⟩ := ih (hv := hv + lenOf n s.piece) (along := lenOf n s.piece) (at_ := s) hB' (by omega) ⟨by omega, Int.le_refl _⟩ hss
    rw [show long - (hv + lenOf n s.piece - lenOf n s.piece) = long - (hv - along) - along by omega] at g1 g2
    simp only [bodyFrom, hm, if_neg hne]
    refine ⟨fun p hp => ?_, fun h => g2 (List.append_eq_nil_iff.1 h).2⟩
    rcases List.mem_append.1 hp with hp | hp
    · split at hp
      · simp at hp
        subst hp
        exact partOf_fits hs (by omega) (by omega) ha.2
      · cases hp
    · exact g1 p hp
theorem body_fits {n : Nt} {t : Tr} (h : TrainRight n t) : PtsFit n (bodyParts n t) ∧ bodyParts n t ≠ [] := by
  have hG := netGood h.1
  have hF := h.2
  have hbe := spot_behind hG hF.1
  have hbl : behind n t.front ≤ lenOf n t.front.piece := by
    have h3 := hF.1.2.2
    unfold behind room
    split <;> omega
  obtain ⟨g1, g2⟩ := bodyFrom_ok hG (long := t.long) (hv := behind n t.front) (along := behind n t.front) (at_ := ⟨t.front.piece, t.front.way⟩) hF.2.2.2 (by have := hF.2.1; omega) ⟨hbe.1, hbl⟩ ⟨hF.1.1, hF.1.2.1⟩
  rw [show t.long - (behind n t.front - behind n t.front) = t.long by omega] at g1 g2
  have hlen := bodyParts_len hG hF
  exact ⟨⟨g1, by omega⟩, g2⟩
end Go.Proofs.YtbdggfpfpjijoaaGreat

