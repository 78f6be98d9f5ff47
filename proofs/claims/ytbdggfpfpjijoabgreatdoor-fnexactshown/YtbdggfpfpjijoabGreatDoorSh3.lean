import Derived.Test.YtbdggfpfpjijoabGreatDoorSh1
import Derived.Test.YtbdggfpfpjijoabGreatDoorBf
import Derived.Test.YtbdggfpfpjijoabGreatDoorSpec19
namespace Go.Proofs.YtbdggfpfpjijoabGreatDoor
open Go.RowKit

/-! ### How long the lines are -/

theorem trGo_size {n : Nt} {ts : List Tr} (hw : WorldOk n ts) (p : Int) : ∀ (is : List Nat), (∀ i ∈ is, i < ts.length) → (trGo n ts p is).size ≤ 4000 * is.length := by
  intro is
  induction is with
  | nil => intro _; simp [trGo, ByteArray.size]
  | cons y r ih =>
    intro h
    have h1 := ih fun i hi => h i (List.mem_cons_of_mem _ hi)
    have hy := h y (List.mem_cons_self ..)
    have hg : ts.getD y noTr' = ts[y] := by simp [List.getD_eq_getElem?_getD, hy]
    have hT : TrainRight n (ts.getD y noTr') := by rw [hg]; exact ⟨hw.1, hw.2.2 _ (List.getElem_mem hy)⟩
    have hb := (body_fits hT).1.1
    have hl := bodyParts_len (netGood hT.1) hT.2
    have hG := netGood hw.1
    have h2 := onGo_size p y (bodyParts n (ts.getD y noTr')) fun x hx => by
      have := hb x hx
      have hle := (hG.len this.1.1 this.1.2).2
      have h3 := this.2.2
      omega
    simp only [trGo, ByteArray.size_append, List.length_cons]
    omega
theorem on_size {n : Nt} {ts : List Tr} (hw : WorldOk n ts) (p : Int) {y : Nat} (hy : y < ts.length) (m : Nat) : (onGo p y ((bodyParts n (ts.getD y noTr')).take m)).size ≤ 4000 := by
  have hg : ts.getD y noTr' = ts[y] := by simp [List.getD_eq_getElem?_getD, hy]
  have hT : TrainRight n (ts.getD y noTr') := by rw [hg]; exact ⟨hw.1, hw.2.2 _ (List.getElem_mem hy)⟩
  have hb := (body_fits hT).1.1
  have hl := bodyParts_len (netGood hT.1) hT.2
  have hG := netGood hw.1
  have h2 := onGo_size p y ((bodyParts n (ts.getD y noTr')).take m) fun x hx => by
    have := hb x (List.mem_of_mem_take hx)
    have hle := (hG.len this.1.1 this.1.2).2
    have h3 := this.2.2
    omega
  rw [List.length_take] at h2
  omega
theorem name_size {n : Nt} (h : NetRes n 0 0) {i : Nat} (hi : i < n.pieces.length) : n.pieces[i].name.size ≤ 20 := by
  unfold NetRes at h
  by_cases ho : n.pieces.length = 0 ∨ 100 < n.pieces.length ∨ 120 < n.joints.length
  · have := (h.1 ho).1; omega
  · obtain ⟨r2, r3, r4, r5, h2, h2a, _⟩ := h.2 ho
    by_cases e2 : r2 = -1
    · subst e2
      rcases h2 with ⟨_, g⟩ | ⟨j, _, hj, _⟩
      · have := g i hi
        unfold BadPc at this
        have hf : PcFits n.pieces[i] := Classical.byContradiction fun hc => this ⟨hi, Or.inl hc⟩
        exact hf.1.2.1
      · omega
    · have := (h2a e2).1; omega
theorem lnGo_size {n : Nt} {ts : List Tr} (hw : WorldOk n ts) {i : Nat} (hi : i < n.pieces.length) : (lnGo n ts i).size ≤ 90000 := by
  have h1 := trGo_size hw i (List.range ts.length) (fun j hj => List.mem_range.1 hj)
  have h2 := name_size hw.1 hi
  have h20 := hw.2.1
  rw [List.length_range] at h1
  unfold lnGo
  have h3 : (⟨#[10]⟩ : ByteArray).size = 1 := rfl
  have hg : (n.pieces.getD i ⟨⟨#[]⟩, 0, 0, 0⟩) = n.pieces[i] := by simp [List.getD_eq_getElem?_getD, hi]
  simp only [ByteArray.size_append, hg, h3]
  omega
theorem shGo_size {n : Nt} {ts : List Tr} (hw : WorldOk n ts) : ∀ (i : Nat), i ≤ n.pieces.length → (shGo n ts i).size ≤ 90000 * i := by
  intro i
  induction i with
  | zero => intro _; simp [shGo, ByteArray.size]
  | succ i ih =>
    intro h
    have h1 := ih (by omega)
    have h2 := lnGo_size hw (i := i) (by omega)
    simp only [shGo, ByteArray.size_append]
    omega
end Go.Proofs.YtbdggfpfpjijoabGreatDoor

