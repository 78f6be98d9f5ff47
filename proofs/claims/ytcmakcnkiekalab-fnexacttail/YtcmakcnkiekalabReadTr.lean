import Derived.Test.YtcmakcnkiekalabRead
import Derived.Test.YtcmakcnkiekalabTr1
namespace Go.Proofs.Ytcmakcnkiekalab
open Go.ChangeShapes Go.WideShapes Go.ChangeAt Go.RowKit Go.Deep Go.Joins

theorem cellsLStep : Try.prog.cellsOf 145 = 2 := by kernel_rfl
theorem cellsLSpot : Try.prog.cellsOf 27 = 3 := by kernel_rfl
theorem cellsLTrain : Try.prog.cellsOf 30 = 5 := by kernel_rfl
theorem cellsLSteps : Try.prog.cellsOf 28 = 1 := by kernel_rfl

section
variable {H : Type} {enc : TypeId × Value → H} {w : World} {base : Nat} {held : Bool}

set_option maxRecDepth 100000 in
theorem readSts {fuel : Nat} {cs : List Value} {x : DataW H × List MemPlace} (h : DataW.trod enc Try.prog w base (fun _ => true) held fuel 28 cs = some x) :
    ∃ a cap es, cs = [.slice a (List.length es) cap] ∧ StsAt 0 w a es ∧ es.length ≤ maxLen := by
  rcases open_slice Try.underlying28 h with ⟨rfl, _⟩ | ⟨a, len, cap, m, n, D, Pl, rfl, hb, hl, hm, hmm, _, hx⟩
  · exact ⟨none, 0, [], rfl, fun i h => by simp at h, by simp⟩
  · rw [cellsLStep] at hx
    simp only [if_true] at hmm
    subst hmm
    have each : ∀ i, i < len → ∃ e : St, ∃ b off, a = ⟨b, off, none⟩ ∧ b < w.heap.size ∧ w.cell? ⟨b, off + i * 2, none⟩ = some (.int .i64 e.piece) ∧ w.cell? ⟨b, off + i * 2 + 1, none⟩ = some (.int .i64 e.way) := by
      intro i hi
      obtain ⟨b, off, cs, ha, hblk, ht, hlen, hcell⟩ := row_cells (by omega) hx (show i < m by omega)
      obtain ⟨y0, y1, k, _, _, h0, h1⟩ := trod_struct2 Try.underlying145 ht
      match cs, hlen with
      | [v0, v1], _ =>
        simp [cellsInt] at h0 h1
        obtain ⟨p, e0, _, _⟩ := DataW.trod_int uInt h0
        obtain ⟨s, e1, _, _⟩ := DataW.trod_int uInt h1
        simp at e0 e1
        subst e0 e1
        exact ⟨⟨p, s⟩, b, off, ha, hblk, by simpa using hcell 0 (by omega), by simpa using hcell 1 (by omega)⟩
    haveI : Inhabited St := ⟨⟨0, 0⟩⟩
    obtain ⟨f, hf⟩ := choose_lt each
    refine ⟨some a, m, (List.range len).map f, by simp, fun i hi => ?_, by simp; omega⟩
    have hi' : i < len := by simpa using hi
    obtain ⟨b, off, ha, hblk, r0, r1⟩ := hf i hi'
    exact ⟨b, off, by rw [ha], ⟨Nat.zero_le _, hblk⟩, by simpa using r0, by simpa using r1⟩

set_option maxRecDepth 100000 in
/-- A train that came in. -/
theorem readTrain {r : Reach} {b0 : Nat} {v : Value} {d : DataW H} {p : List MemPlace} (hv : Value.okWide Try.prog w r b0 30 v) (h : DataW.Trod enc Try.prog w base (fun _ => true) held 30 v d p) :
    ∃ t : Tr, TrAt 0 w v t ∧ t.back.length ≤ maxLen := by
  obtain ⟨cs, rfl, hsz⟩ := okWide_struct Try.underlying30 hv
  rw [cellsLTrain] at hsz
  obtain ⟨l⟩ := cs
  match l, hsz with
  | [c0, c1, c2, c3, c4], _ =>
    obtain ⟨fuel, hf⟩ := h
    obtain ⟨y0, y1, y2, k, _, _, h0, h1, h2⟩ := trod_struct3 Try.underlying30 hf
    simp [cellsInt, cellsLSpot, cellsLSteps, Value.cells] at h0 h1 h2
    obtain ⟨z0, z1, z2, k', _, _, g0, g1, g2⟩ := trod_struct3 Try.underlying27 h0
    simp [cellsInt] at g0 g1 g2
    obtain ⟨x0, e0, _, _⟩ := DataW.trod_int uInt g0
    obtain ⟨x1, e1, _, _⟩ := DataW.trod_int uInt g1
    obtain ⟨x2, e2, _, _⟩ := DataW.trod_int uInt g2
    obtain ⟨x3, e3, _, _⟩ := DataW.trod_int uInt h1
    obtain ⟨ea, ec, es, e4, hes, hel⟩ := readSts h2
    simp at e0 e1 e2 e3 e4
    subst e0 e1 e2 e3 e4
    exact ⟨⟨⟨x0, x1, x2⟩, x3, es⟩, ⟨ea, ec, rfl, hes⟩, hel⟩
end
end Go.Proofs.Ytcmakcnkiekalab
