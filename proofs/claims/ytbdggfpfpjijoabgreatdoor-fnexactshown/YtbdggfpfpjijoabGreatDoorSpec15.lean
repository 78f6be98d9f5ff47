import Derived.Test.YtbdggfpfpjijoabGreatDoorG26
import Derived.Test.YtbdggfpfpjijoabGreatDoorTouch
namespace Go.Proofs.YtbdggfpfpjijoabGreatDoor
open Go.RowKit

def MeetP (n : Nt) (a b : Tr) : Prop := TrainRight n a ∧ TrainFits n b ∧ TouchL (bodyParts n a) (bodyParts n b)

theorem bodyParts_len {n : Nt} (hG : NetGood n) {t : Tr} (hF : TrainFits n t) : (bodyParts n t).length ≤ 201 := by
  rw [bodyParts_eq hG hF]
  have := partsB_len n t.front (spare n t) t.back
  have := hF.2.2.1
  omega





end Go.Proofs.YtbdggfpfpjijoabGreatDoor

