import Derived.Test.YtcmakcnkiekalabAt
import Derived.BigQuiet
import Derived.Deep.Quiet
namespace Go.Proofs.Ytcmakcnkiekalab
open Go.RowKit

/-- A world in which all that was there is as it was. -/
structure GrW (W : World) where
  w : World
  below : Below W.heap.size W w

theorem GrW.cell {W : World} (g : GrW W) (b o : Nat) (h : b < W.heap.size) : g.w.cell? ⟨b, o, none⟩ = W.cell? ⟨b, o, none⟩ := g.below.cell h

/-- A region whose operations read and whose callees make memory of their own at most: one walk, in the order of the text. -/
theorem wp_region_grown {P : Program} {id : Nat} {Q : Exit → Act → World → Prop} {a : Act} {w : World} {l : List Oper} (hm : P.follows .mixedOrders = true) (hB : Region.lexB .any l.toArray = true)
    (h : Nonempty (GrW w) → (∀ (g : GrW w) (b o : Nat), b < w.heap.size → g.w.cell? ⟨b, o, none⟩ = w.cell? ⟨b, o, none⟩) →
      wpQuiet P l.toArray (fun w' => ∃ g : GrW w, w' = g.w) (fun a' => ∀ w', (∃ g : GrW w, w' = g.w) → Q .normal a' w') l a) : (Code.region id l.toArray true).wp P Q a w :=
  wp_region_quiet (C := fun w' => ∃ g : GrW w, w' = g.w) hm hB ⟨⟨w.drew, Below.drew (Below.refl _ _)⟩, rfl⟩ (by simpa using h ⟨⟨w, Below.refl _ _⟩⟩ (fun g b o hb => g.cell b o hb))

theorem GrW.call {P : Program} {W : World} (g : GrW W) {f : FuncId} {args : Array Value} {v : Value} (h : Calls P f args g.w fun e w' => e = .returned v ∧ Below g.w.heap.size g.w w') :
    Calls P f args g.w fun e w'' => e = .returned v ∧ ∃ g' : GrW W, w'' = g'.w :=
  h.mono fun _ w' ⟨he, hb⟩ => ⟨he, ⟨w', below_then g.below hb⟩, rfl⟩

end Go.Proofs.Ytcmakcnkiekalab
