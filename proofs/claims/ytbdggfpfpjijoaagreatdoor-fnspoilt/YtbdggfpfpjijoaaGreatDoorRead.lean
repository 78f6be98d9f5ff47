import Derived.Test.YtbdggfpfpjijoaaGreatDoorRows
import Derived.Test.YtbdggfpfpjijoaaGreatDoorMPlain
import Derived.ProofKit
import Derived.OpenShut
import Derived.Deep.Slices
import Derived.Deep.Strs
import Derived.Lib.SmallJoins
namespace Go.Proofs.YtbdggfpfpjijoaaGreatDoor
open Go.ChangeShapes Go.WideShapes Go.ChangeAt Go.RowKit Go.Deep Go.Joins

theorem row_cells {w : World} {base : Nat} {a : Addr} {m c : Nat} (hc : 0 < c) {Q : Nat → List Value → Prop} (hx : ∀ i, i < m → ∃ cs, w.cells? base (a.add (i * c)) c = some cs ∧ Q i cs) {i : Nat} (hi : i < m) :
  ∃ b off cs, a = ⟨b, off, none⟩ ∧ b < w.heap.size ∧ Q i cs ∧ cs.length = c ∧ ∀ j, j < c → w.cell? ⟨b, off + i * c + j, none⟩ = cs[j]? := by
 obtain ⟨cs0, h0, _⟩ := hx 0 (by omega)
 obtain ⟨_, hl0, hcell0⟩ := World.cells?_some h0
 obtain ⟨b, off, spot⟩ := a
 have h00 := hcell0 0 hc
 have hspot : spot = none := by
  have h1 : w.cell? ⟨b, off, spot⟩ = some (cs0[0]'(by omega)) := by
   simpa [Addr.add, List.getElem?_eq_getElem (show 0 < cs0.length by omega)] using h00
  simpa using World.cell?_spot h1
 subst hspot
 obtain ⟨cs, h, hQ⟩ := hx i hi
 obtain ⟨_, hl, hcell⟩ := World.cells?_some h
 have hblk := World.cells?_block h hc
 refine ⟨b, off, cs, rfl, ?_, hQ, hl, fun j hj => ?_⟩
 ·simpa [Addr.add] using (by by_cases e : i * c = 0 <;> simpa [Addr.add, e] using hblk)
 ·rw [← hcell j hj, add_plain, add_plain]

section
variable {H : Type} {enc : TypeId × Value → H} {w : World} {base : Nat} {held : Bool}

end
end Go.Proofs.YtbdggfpfpjijoaaGreatDoor
