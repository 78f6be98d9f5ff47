import Derived.Test.YtbdggfpfpjijoaaGreatG6
namespace Go.Proofs.YtbdggfpfpjijoaaGreat
open Go.RowKit

/-- A row of another type is another block. -/
theorem Row.apart {α β : Type} {w : World} {base base' : Nat} {e e' : TypeId} {sz sz' : Nat} {f : α → List Value} {f' : β → List Value} {v v' : Value} {xs : List α} {ys : List β} (h : Row w base e sz f v xs) (h' : Row w base' e' sz' f' v' ys) (hne : e ≠ e') :
    ∀ k, v.ownBlock = some k → v'.ownBlock ≠ some k := by
  intro k hk hk'
  obtain ⟨_, ⟨rfl, _⟩ | ⟨g, cap, cur, rfl, _, hh, _⟩⟩ := h
  · simp [Value.ownBlock] at hk
  · obtain ⟨_, ⟨rfl, _⟩ | ⟨g', cap', cur', rfl, _, hh', _⟩⟩ := h'
    · simp [Value.ownBlock] at hk'
    · simp [Value.ownBlock] at hk hk'
      subst hk
      subst hk'
      rw [hh] at hh'
      simp at hh'
      exact hne hh'.2
theorem Row.kept {α : Type} {w w' : World} {base : Nat} {e : TypeId} {sz : Nat} {f : α → List Value} {v : Value} {xs : List α} {row : Option Nat} (h : Row w base e sz f v xs) (hg : w.grownBy w' row) (hne : ∀ k, v.ownBlock = some k → row ≠ some k) : Row w' base e sz f v xs :=
  h.block fun k hk => hg.block k (h.lt k hk).2 (fun e => hne k hk e.symm)
theorem Boxed.grownE {w w' : World} {N : Nat} {vs : List Value} {row : Option Nat} (h : Boxed w N vs) (hg : w.grownBy w' row) (hne : row ≠ some N) : Boxed w' N vs := by
  have hb : w'.heap[N]? = w.heap[N]? := hg.block N h.1 (fun e => hne e.symm)
  exact ⟨Nat.lt_of_lt_of_le h.1 hg.size, fun i v hi => by rw [World.cell?_of_block (w := w) (a := ⟨N, i, none⟩) hb]; exact h.2.1 i v hi, fun i => by rw [World.frozen?_of_block (w := w) (a := ⟨N, i, none⟩) hb]; exact h.2.2 i⟩
end Go.Proofs.YtbdggfpfpjijoaaGreat

