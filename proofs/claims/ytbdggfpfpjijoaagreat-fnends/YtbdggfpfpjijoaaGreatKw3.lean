import Derived.Test.YtbdggfpfpjijoaaGreatG32
import Derived.Test.YtbdggfpfpjijoaaGreatG16
import Derived.Test.YtbdggfpfpjijoaaGreatG0
namespace Go.Proofs.YtbdggfpfpjijoaaGreat
open Go.RowKit

/-- A part that lies on a piece. -/
def PtFits (n : Nt) (p : Pt) : Prop := (0 ≤ p.piece ∧ p.piece < n.pieces.length) ∧ 0 ≤ p.fr ∧ p.fr ≤ p.to ∧ p.to ≤ lenOf n p.piece
def PtsFit (n : Nt) (ps : List Pt) : Prop := (∀ p ∈ ps, PtFits n p) ∧ ps.length ≤ 1000



end Go.Proofs.YtbdggfpfpjijoaaGreat

