import Derived.Test.YtcmakcnkiekalabRead
import Derived.Test.YtcmakcnkiekalabLies1
namespace Go.Proofs.Ytcmakcnkiekalab
open Go.ChangeShapes Go.WideShapes Go.ChangeAt Go.RowKit Go.Deep

section
variable {H : Type} {enc : TypeId × Value → H} {w : World} {base : Nat} {held : Bool}

set_option maxRecDepth 100000 in
theorem readInts {fuel : Nat} {cs : List Value} {x : DataW H × List MemPlace} (h : DataW.trod enc Try.prog w base (fun _ => true) held fuel 48 cs = some x) :
    ∃ a cap zs, cs = [.slice a (List.length zs) cap] ∧ IntsAt 0 w a zs ∧ zs.length ≤ maxLen := by
  rcases open_slice Try.underlying48 h with ⟨rfl, _⟩ | ⟨a, len, cap, m, n, D, Pl, rfl, hb, hl, hm, hmm, _, hx⟩
  · exact ⟨none, 0, [], rfl, fun i h => by simp at h, by simp⟩
  · rw [cellsInt] at hx
    simp only [if_true] at hmm
    subst hmm
    have each : ∀ i, i < len → ∃ z : Int, ∃ b off, a = ⟨b, off, none⟩ ∧ b < w.heap.size ∧ w.cell? ⟨b, off + i, none⟩ = some (.int .i64 z) := by
      intro i hi
      obtain ⟨b, off, cs, ha, hblk, ht, hlen, hcell⟩ := row_cells (by omega) hx (show i < m by omega)
      match cs, hlen with
      | [v0], _ =>
        obtain ⟨p, e0, _, _⟩ := DataW.trod_int uInt ht
        simp at e0
        subst e0
        exact ⟨p, b, off, ha, hblk, by simpa using hcell 0 (by omega)⟩
    obtain ⟨f, hf⟩ := choose_lt each
    refine ⟨some a, m, (List.range len).map f, by simp, fun i hi => ?_, by simp; omega⟩
    have hi' : i < len := by simpa using hi
    obtain ⟨b, off, ha, hblk, r0⟩ := hf i hi'
    exact ⟨b, off, by rw [ha], ⟨Nat.zero_le _, hblk⟩, by simpa using r0⟩

set_option maxRecDepth 100000 in
theorem readIntsV {r : Reach} {b0 : Nat} {v : Value} {d : DataW H} {p : List MemPlace} (hv : Value.okWide Try.prog w r b0 48 v) (h : DataW.Trod enc Try.prog w base (fun _ => true) held 48 v d p) :
    ∃ a cap zs, v = .slice a (List.length zs) cap ∧ IntsAt 0 w a zs ∧ zs.length ≤ maxLen := by
  obtain ⟨a0, len0, cap0, rfl⟩ := okWide_slice Try.underlying48 hv
  obtain ⟨fuel, hf⟩ := h
  obtain ⟨a, cap, zs, hcs, hz, hl⟩ := readInts hf
  simp [Value.cells] at hcs
  obtain ⟨rfl, rfl, rfl⟩ := hcs
  exact ⟨a0, cap0, zs, rfl, hz, hl⟩
end
end Go.Proofs.Ytcmakcnkiekalab
