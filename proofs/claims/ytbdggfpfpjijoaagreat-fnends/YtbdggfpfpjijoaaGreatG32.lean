import Derived.Test.YtbdggfpfpjijoaaGreatRows
import Derived.Test.YtbdggfpfpjijoaaGreatG2
import Derived.Test.YtbdggfpfpjijoaaGreatG0
import Derived.LaidEqlPtr
import Derived.Lib.Builder
import Derived.Test.YtbdggfpfpjijoaaGreatTouch
import Derived.Test.YtbdggfpfpjijoaaGreatSpec14
namespace Go.Proofs.YtbdggfpfpjijoaaGreat
open Go.RowKit

/-- A slice of pointers to blocks. -/
def PtrsAt (w : World) (a : Option Addr) (ps : List Nat) : Prop :=
  ∀ i (h : i < ps.length), ∃ b off, a = some ⟨b, off, none⟩ ∧ b < w.heap.size ∧ w.cell? ⟨b, off + i, none⟩ = some (.pointer (some ⟨ps[i], 0, none⟩))
/-- A block of cells of which no string holds bytes. -/
def IsCells (w : World) (b : Nat) : Prop := ∃ c t, w.heap[b]? = some (.cells c t (0, 0))

theorem PtrsAt.below {w w' : World} {a : Option Addr} {ps : List Nat} (h : PtrsAt w a ps) (hb : Below w.heap.size w w') : PtrsAt w' a ps := by
  intro i hi
  obtain ⟨b, off, ha, hbs, hc⟩ := h i hi
  exact ⟨b, off, ha, Nat.lt_of_lt_of_le hbs hb.size, (hb.cell hbs).trans hc⟩
theorem IsCells.lt {w : World} {b : Nat} (h : IsCells w b) : b < w.heap.size := by
  obtain ⟨c, t, h⟩ := h
  exact (Array.getElem?_eq_some_iff.1 h).1
theorem IsCells.below {w w' : World} {b : Nat} (h : IsCells w b) (hb : Below w.heap.size w w') : IsCells w' b := by
  have hlt := h.lt
  obtain ⟨c, t, h⟩ := h
  exact ⟨c, t, (hb.block b hlt).trans h⟩
theorem IsCells.only {S : Nat → Prop} {w w' : World} {b : Nat} (h : IsCells w b) (ho : Only S w w') : IsCells w' b := by
  obtain ⟨c, t, h⟩ := h
  obtain ⟨c', h1, _⟩ := ho.shape b c t _ h
  exact ⟨c', t, h1⟩









end Go.Proofs.YtbdggfpfpjijoaaGreat

namespace Go.Proofs.YtbdggfpfpjijoaaGreat
open Go.RowKit









end Go.Proofs.YtbdggfpfpjijoaaGreat

