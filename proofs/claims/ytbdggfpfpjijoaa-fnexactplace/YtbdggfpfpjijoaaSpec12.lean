import Derived.Test.YtbdggfpfpjijoaaG15
import Derived.Test.YtbdggfpfpjijoaaG22
namespace Go.Proofs.Ytbdggfpfpjijoaa
open Go.RowKit

/-- What one comes to over the joint i from its place k, as switches lie. -/
def OverIs (n : Nt) (zs : List Int) (i k : Nat) (r : Ed × Int) : Prop := ∃ (h : i < n.joints.length) (h' : i < zs.length), overJ n.joints[i] k zs[i] = r

set_option maxRecDepth 100000 in
theorem l2over_any (v : Value) (n : Nt) (zq : Option Addr) (zs : List Int) (zc : Nat) (e0 : Ed) (i k : Nat) (r : Ed × Int) (w : World) {L L' : Nat} (hv : NetAt L w v n) (hz : IntsAt L' w zq zs) (hG : NetGood n) (hL : LiesFit n.joints zs) (hf : EdFits n.pieces.length e0) (hst : StandsAt n.joints e0 i k) (hr : OverIs n zs i k r) :
    Calls Try.prog 75 #[v, .slice zq zs.length zc, .agg #[.int .i64 e0.piece, .int .i64 e0.side]] w fun e w' =>
      e = .returned (.tuple #[.agg #[.int .i64 (overEnd e0 r).piece, .int .i64 (overEnd e0 r).side], .int .i64 r.2, .int .i64 i]) ∧ Below w.heap.size w w' := by
  obtain ⟨hi, hi', rfl⟩ := hr
  have hK := hG.kind hi
  have hF := hL.2 i hi hi'
  obtain ⟨_, hkl, _⟩ := id hst
  obtain ⟨j, hj⟩ : ∃ j, n.joints[i] = j := ⟨_, rfl⟩
  obtain ⟨z, hz'⟩ : ∃ z, zs[i] = z := ⟨_, rfl⟩
  rw [hj, hz'] at hF
  simp only [hj] at hK hkl
  rw [hj, hz']
  by_cases h3 : j.kind = 3
  · obtain ⟨kd, nm, ends⟩ := j
    dsimp only at h3 hkl
    subst h3
    have hlen : ends.length = 3 := by have := hK.2; dsimp only at this; omega
    match ends, hlen, hkl with
    | [x0, x1, x2], _, hkl =>
      have hz012 : z = 0 ∨ z = 1 ∨ z = 2 := by unfold LieFit at hF; omega
      have hk012 : k = 0 ∨ k = 1 ∨ k = 2 := by simp at hkl; omega
      rcases hz012 with rfl | rfl | rfl
      · have e1 : overJ ⟨3, nm, [x0, x1, x2]⟩ k 0 = (⟨0, 0⟩, 2) := by simp [overJ]
        rw [e1]
        exact l2over_sw0 v n zq zs zc e0 i k nm x0 x1 x2 0 w hv hz hG hf hst ⟨hi, hj⟩ ⟨hi', hz'⟩ rfl
      · rcases hk012 with rfl | rfl | rfl
        · have e1 : overJ ⟨3, nm, [x0, x1, x2]⟩ 0 1 = (x1, 0) := by simp [overJ, endOf]
          rw [e1]
          exact l2over_tip1 v n zq zs zc e0 i nm x0 x1 x2 1 w hv hz hG hf hst ⟨hi, hj⟩ ⟨hi', hz'⟩ rfl
        · have e1 : overJ ⟨3, nm, [x0, x1, x2]⟩ 1 1 = (x0, 0) := by simp [overJ, endOf]
          rw [e1]
          exact l2over_side v n zq zs zc e0 i 1 nm x0 x1 x2 1 w hv hz hG hf hst ⟨hi, hj⟩ ⟨hi', hz'⟩ rfl rfl rfl
        · have e1 : overJ ⟨3, nm, [x0, x1, x2]⟩ 2 1 = (⟨0, 0⟩, 3) := by simp [overJ]
          rw [e1]
          exact l2over_other v n zq zs zc e0 i 2 nm x0 x1 x2 1 w hv hz hG hf hst ⟨hi, hj⟩ ⟨hi', hz'⟩ rfl rfl rfl
      · rcases hk012 with rfl | rfl | rfl
        · have e1 : overJ ⟨3, nm, [x0, x1, x2]⟩ 0 2 = (x2, 0) := by simp [overJ, endOf]
          rw [e1]
          exact l2over_tip2 v n zq zs zc e0 i nm x0 x1 x2 2 w hv hz hG hf hst ⟨hi, hj⟩ ⟨hi', hz'⟩ rfl
        · have e1 : overJ ⟨3, nm, [x0, x1, x2]⟩ 1 2 = (⟨0, 0⟩, 3) := by simp [overJ]
          rw [e1]
          exact l2over_other v n zq zs zc e0 i 1 nm x0 x1 x2 2 w hv hz hG hf hst ⟨hi, hj⟩ ⟨hi', hz'⟩ rfl rfl rfl
        · have e1 : overJ ⟨3, nm, [x0, x1, x2]⟩ 2 2 = (x0, 0) := by simp [overJ, endOf]
          rw [e1]
          exact l2over_side v n zq zs zc e0 i 2 nm x0 x1 x2 2 w hv hz hG hf hst ⟨hi, hj⟩ ⟨hi', hz'⟩ rfl rfl rfl
  · exact l2over_plain v n zq zs zc e0 i k j z w hv hz hG hf hst ⟨hi, hj⟩ ⟨hi', hz'⟩ h3

/-- What the specification's walk over a body asks of its steps. -/
def SitsFrom (n : Nt) (zs : List Int) : St → List St → Prop
  | _, [] => True
  | ah, s :: r => LeadsBy n zs s ah ∧ SitsFrom n zs s r

theorem sitsFrom_iff {n : Nt} {zs : List Int} (s : Sp) (xs : List St) : SitsFrom n zs ⟨s.piece, s.way⟩ xs ↔ SitsAll n zs s xs := by
  have key : ∀ (ys : List St) (m : Nat), m ≤ xs.length → ys = xs.drop m → (SitsFrom n zs (stepOf s xs m) ys ↔ ∀ j, m ≤ j → j < xs.length → LeadsBy n zs (stepOf s xs (j + 1)) (stepOf s xs j)) := by
    intro ys
    induction ys with
    | nil =>
      intro m hm hy
      have : xs.length ≤ m := by
        have := congrArg List.length hy
        simp at this
        omega
      exact ⟨fun _ j h1 h2 => by omega, fun _ => trivial⟩
    | cons y r ih =>
      intro m hm hy
      have hlt : m < xs.length := by
        have := congrArg List.length hy
        simp at this
        omega
      rw [List.drop_eq_getElem_cons hlt] at hy
      simp only [List.cons.injEq] at hy
      have hso : stepOf s xs (m + 1) = y := by
        unfold stepOf
        rw [if_neg (by omega)]
        simp [List.getElem?_eq_getElem hlt, hy.1]
      have := ih (m + 1) (by omega) hy.2
      simp only [SitsFrom]
      rw [hso] at this
      rw [this]
      constructor
      · rintro ⟨h1, h2⟩ j hj hjl
        by_cases e : j = m
        · subst e
          rw [hso]
          exact h1
        · exact h2 j (by omega) hjl
      · intro h
        refine ⟨?_, fun j hj hjl => h j (by omega) hjl⟩
        have := h m (Nat.le_refl _) hlt
        rwa [hso] at this
  have := key xs 0 (Nat.zero_le _) (by simp)
  unfold SitsAll
  have h0 : stepOf s xs 0 = ⟨s.piece, s.way⟩ := by simp [stepOf]
  rw [h0] at this
  rw [this]
  exact ⟨fun h j hj => h j (Nat.zero_le _) hj, fun h j _ hj => h j hj⟩

end Go.Proofs.Ytbdggfpfpjijoaa

