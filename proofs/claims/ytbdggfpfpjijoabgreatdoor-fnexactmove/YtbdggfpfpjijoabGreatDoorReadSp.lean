import Derived.Test.YtbdggfpfpjijoabGreatDoorG1
import Derived.Test.YtbdggfpfpjijoabGreatDoorG6
namespace Go.Proofs.YtbdggfpfpjijoabGreatDoor
open Go.ChangeShapes Go.WideShapes Go.ChangeAt Go.RowKit Go.Deep Go.Joins

theorem cellsLSpotS : Tryz.prog.cellsOf 28 = 3 := by kernel_rfl

section
variable {H : Type} {enc : TypeId × Value → H} {w : World} {base : Nat} {held : Bool}

set_option maxRecDepth 100000 in
/-- A spot that came in. -/
theorem readSpot {r : Reach} {b0 : Nat} {v : Value} {d : DataW H} {p : List MemPlace} (hv : Value.okWide Tryz.prog w r b0 28 v) (h : DataW.Trod enc Tryz.prog w base (fun _ => true) held 28 v d p) :
    ∃ s : Sp, v = .agg #[.int .i64 s.piece, .int .i64 s.at_, .int .i64 s.way] := by
  obtain ⟨cs, rfl, hsz⟩ := okWide_struct Tryz.underlying28 hv
  rw [cellsLSpotS] at hsz
  obtain ⟨l⟩ := cs
  match l, hsz with
  | [c0, c1, c2], _ =>
    obtain ⟨fuel, hf⟩ := h
    obtain ⟨y0, y1, y2, k, _, _, h0, h1, h2⟩ := trod_struct3 Tryz.underlying28 hf
    simp [cellsInt, Value.cells] at h0 h1 h2
    obtain ⟨x0, e0, _, _⟩ := DataW.trod_int uInt h0
    obtain ⟨x1, e1, _, _⟩ := DataW.trod_int uInt h1
    obtain ⟨x2, e2, _, _⟩ := DataW.trod_int uInt h2
    simp at e0 e1 e2
    subst e0 e1 e2
    exact ⟨⟨x0, x1, x2⟩, rfl⟩


set_option maxRecDepth 100000 in
theorem readInt {r : Reach} {b0 : Nat} {v : Value} (hv : Value.okWide Tryz.prog w r b0 3 v) : ∃ z : Int, v = .int .i64 z := okWide_int uInt hv
end
end Go.Proofs.YtbdggfpfpjijoabGreatDoor

