import Derived.Test.YtbdggfpfpjijoabGreatDoorSpec21
import Derived.Test.YtbdggfpfpjijoabGreatDoorMKt35
import Derived.Test.YtbdggfpfpjijoabGreatDoorMPlain2
namespace Go.Proofs.YtbdggfpfpjijoabGreatDoor
open Go.RowKit

end Go.Proofs.YtbdggfpfpjijoabGreatDoor

namespace Go.Proofs.YtbdggfpfpjijoabGreatDoor
open Go.RowKit

end Go.Proofs.YtbdggfpfpjijoabGreatDoor

namespace Go.Proofs.YtbdggfpfpjijoabGreatDoor
open Go.RowKit

structure MvA where
 code : Int
 far : Int
 joint : Int
 tr : Tr
 over : List Pt
def noMv : MvA := ⟨5, 0, 0, ⟨⟨0, 0, 0⟩, 0, []⟩, []⟩
def MvIs (n : Nt) (zs : List Int) (t : Tr) (F : Int) (u : MvA) : Prop :=
 (OutOk n zs t F ∧ ∃ m : Mv, u.tr = ⟨m.s, t.long, m.xs⟩ ∧ u.far = m.far ∧ u.over = m.over ∧ RunIs n zs t.long F ⟨t.front, t.back, 0, []⟩ m u.code u.joint) ∨ (¬ OutOk n zs t F ∧ u = noMv)

theorem runIs_unique {n : Nt} (hG : NetGood n) {zs : List Int} {long F : Int} (hl : 0 < long) {m0 : Mv} (h0 : MvOk n long F m0) {m m' : Mv} {c j c' j' : Int} (h : RunIs n zs long F m0 m c j) (g : RunIs n zs long F m0 m' c' j') : m = m' ∧ c = c' ∧ j = j' := by
 rcases h with ⟨h1, h2, h3⟩ | ⟨h1, rfl, rfl, rfl⟩ <;> rcases g with ⟨g1, g2, g3⟩ | ⟨g1, rfl, rfl, rfl⟩
 ·exact end_unique hG hl h0 h2 h3 g2 g3
 ·exact absurd h1 g1
 ·exact absurd g1 h1
 ·exact ⟨rfl, rfl, rfl⟩

theorem MvIs.unique {n : Nt} {zs : List Int} {t : Tr} {F : Int} {u u' : MvA} (h : MvIs n zs t F u) (g : MvIs n zs t F u') : u = u' := by
 rcases h with ⟨h1, m, e1, e2, e3, e4⟩ | ⟨h1, rfl⟩ <;> rcases g with ⟨g1, m', d1, d2, d3, d4⟩ | ⟨g1, rfl⟩
 ·obtain ⟨rfl, hc, hj⟩ := runIs_unique (netGood h1.1.1) (show 0 < t.long by have := h1.1.2.2.1.1; omega) (fits_mv h1.1.2 h1.2.2.1) e4 d4
  cases u
  cases u'
  simp only at e1 e2 e3 d1 d2 d3 hc hj
  rw [e1, e2, e3, d1, d2, d3, hc, hj]
 ·exact absurd h1 g1
 ·exact absurd g1 h1
 ·rfl

theorem MvIs.len {n : Nt} {zs : List Int} {t : Tr} {F : Int} {u : MvA} (h : MvIs n zs t F u) : u.tr.back.length ≤ 200 ∧ u.over.length ≤ 10000 := by
 rcases h with ⟨h1, m, e1, e2, e3, e4⟩ | ⟨_, rfl⟩
 ·have h0 := fits_mv h1.1.2 h1.2.2.1
  have hm : MvOk n t.long F m := by
   rcases e4 with ⟨_, hg, _⟩ | ⟨_, rfl, _⟩
   ·exact hg.ok (netGood h1.1.1) (by have := h1.1.2.2.1.1; omega) h0
   ·exact h0
  rw [e1, e3]
  have k1 := hm.len
  have k2 := hm.over
  have k3 := hm.farF
  have k4 := h1.2.2.2
  exact ⟨k1, by omega⟩
 ·simp [noMv]

def GlobAt (w : World) : Prop := 0 < w.heap.size ∧ w.cell? ⟨0, 0, none⟩ = some (.iface 273 (.agg #[.pointer (some ⟨4, 98, none⟩)]))
theorem GlobAt.below {w w' : World} (h : GlobAt w) (hb : Below w.heap.size w w') : GlobAt w' := ⟨Nat.lt_of_lt_of_le h.1 hb.size, (hb.cell h.1).trans h.2⟩

end Go.Proofs.YtbdggfpfpjijoabGreatDoor

