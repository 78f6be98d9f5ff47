import Derived.Test.YtbdggfpfpjijoaaGreatG27
import Derived.Test.YtbdggfpfpjijoaaGreatTouch
namespace Go.Proofs.YtbdggfpfpjijoaaGreat
open Go.RowKit

def MeetP (n : Nt) (a b : Tr) : Prop := TrainRight n a ∧ TrainFits n b ∧ TouchL (bodyParts n a) (bodyParts n b)

theorem bodyParts_len {n : Nt} (hG : NetGood n) {t : Tr} (hF : TrainFits n t) : (bodyParts n t).length ≤ 201 := by
  rw [bodyParts_eq hG hF]
  have := partsB_len n t.front (spare n t) t.back
  have := hF.2.2.1
  omega





end Go.Proofs.YtbdggfpfpjijoaaGreat

namespace Go.Proofs.YtbdggfpfpjijoaaGreat
open Go.RowKit



theorem ptRow_at0 {w : World} {base : Nat} {a : Option Addr} {m cap : Nat} {ps : List Pt} (h : PtRow w base (.slice a m cap) ps) : PtsAt 0 w a ps := by
  obtain ⟨a', cap', hv, _, hx⟩ := ptRow_at (h.mono (Nat.zero_le _))
  simp at hv
  rw [hv.1]
  exact hx



end Go.Proofs.YtbdggfpfpjijoaaGreat

