import Derived.Test.YtbdggfpfpjijoaaGreatDoorRead
import Derived.Test.YtbdggfpfpjijoaaGreatDoorMDr1
namespace Go.Proofs.YtbdggfpfpjijoaaGreatDoor
open Go.ChangeShapes Go.WideShapes Go.ChangeAt Go.RowKit Go.Deep

theorem cellsU8 : Tryz.prog.cellsOf 5 = 1 := by kernel_rfl
theorem uU8 : Tryz.prog.underlying 5 = some (.int .u8) := by kernel_rfl
theorem u8_range {z : Int} (h : (Lit.int .u8 z).wf = true) : 0 ≤ z ∧ z ≤ 255 := by
 simp [Lit.wf] at h
 have h1 : IntKind.u8.min = 0 := by decide
 have h2 : IntKind.u8.max = 255 := by decide
 omega

section
variable {H : Type} {enc : TypeId × Value → H} {w : World} {base : Nat} {held : Bool}

set_option maxRecDepth 100000 in
theorem readBytes {fuel : Nat} {cs : List Value} {x : DataW H × List MemPlace} (h : DataW.trod enc Tryz.prog w base (fun _ => true) held fuel 22 cs = some x) :
  ∃ a cap bs, cs = [.slice a (List.length bs) cap] ∧ BytesAt w.heap.size w a bs ∧ BytesIn bs := by
 rcases open_slice Tryz.underlying22 h with ⟨rfl, _⟩ | ⟨a, len, cap, m, n, D, Pl, rfl, hb, hl, hm, hmm, _, hx⟩
 ·exact ⟨none, 0, [], rfl, fun i h => by simp at h, fun i h => by simp at h⟩
 ·rw [cellsU8] at hx
  simp only [if_true] at hmm
  subst hmm
  have each : ∀ i, i < len → ∃ z : Int, ∃ b off, a = ⟨b, off, none⟩ ∧ b < w.heap.size ∧ w.cell? ⟨b, off + i, none⟩ = some (.int .u8 z) ∧ (0 ≤ z ∧ z ≤ 255) := by
   intro i hi
   obtain ⟨b, off, cs, ha, hblk, ht, hlen, hcell⟩ := row_cells (by omega) hx (show i < m by omega)
   match cs, hlen with
   | [v0], _ =>
    obtain ⟨p, e0, _, hwf⟩ := DataW.trod_int uU8 ht
    simp at e0
    subst e0
    exact ⟨p, b, off, ha, hblk, by simpa using hcell 0 (by omega), u8_range hwf⟩
  obtain ⟨f, hf⟩ := choose_lt each
  refine ⟨some a, m, (List.range len).map f, by simp, fun i hi => ?_, fun i hi => ?_⟩
  ·have hi' : i < len := by simpa using hi
   obtain ⟨b, off, ha, hblk, r0, hr⟩ := hf i hi'
   exact ⟨b, off, by rw [ha], ⟨hblk, hblk⟩, by simpa using r0, by simpa using hr⟩
  ·have hi' : i < len := by simpa using hi
   obtain ⟨b, off, ha, hblk, r0, hr⟩ := hf i hi'
   simpa using hr

set_option maxRecDepth 100000 in
theorem readBytesV {r : Reach} {b0 : Nat} {v : Value} {d : DataW H} {p : List MemPlace} (hv : Value.okWide Tryz.prog w r b0 22 v) (h : DataW.Trod enc Tryz.prog w base (fun _ => true) held 22 v d p) :
  ∃ a cap bs, v = .slice a (List.length bs) cap ∧ BytesAt w.heap.size w a bs ∧ BytesIn bs := by
 obtain ⟨a0, len0, cap0, rfl⟩ := okWide_slice Tryz.underlying22 hv
 obtain ⟨fuel, hf⟩ := h
 obtain ⟨a, cap, bs, hcs, hz, hl⟩ := readBytes hf
 simp [Value.cells] at hcs
 obtain ⟨rfl, rfl, rfl⟩ := hcs
 exact ⟨a0, cap0, bs, rfl, hz, hl⟩
end
end Go.Proofs.YtbdggfpfpjijoaaGreatDoor

