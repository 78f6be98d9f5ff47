import Derived.Test.YtbdggfpfpjijoaaGreatG6
import Derived.Test.YtbdggfpfpjijoaaGreatG13
namespace Go.Proofs.YtbdggfpfpjijoaaGreat
open Go.RowKit

/-- Two parts have a place in common; two bodies. -/
def Touch (x y : Pt) : Prop := x.piece = y.piece ∧ x.fr ≤ y.to ∧ y.fr ≤ x.to
def TouchL (ps qs : List Pt) : Prop := ∃ i j, ∃ (h : i < ps.length) (h' : j < qs.length), Touch ps[i] qs[j]







end Go.Proofs.YtbdggfpfpjijoaaGreat

