import Derived.Test.YtbdggfpfpjijoabGreatDoorMKw1
import Derived.Test.YtbdggfpfpjijoabGreatDoorMKt17
import Derived.Test.YtbdggfpfpjijoabGreatDoorMKt2
import Derived.Test.YtbdggfpfpjijoabGreatDoorMPlain
import Derived.Maps.GroupsBeside
namespace Go.Proofs.YtbdggfpfpjijoabGreatDoor
open Go.RowKit

end Go.Proofs.YtbdggfpfpjijoabGreatDoor

namespace Go.Proofs.YtbdggfpfpjijoabGreatDoor
open Go.RowKit Go.Maps Go.WideElems

def anyElem : Value → Option (DataW Unit × List MemPlace) := fun _ => some (.nil, [])
theorem lyKey : Keyed Tryz.prog 3 := int_keyed (q := .i64) (by kernel_rfl)
theorem lyU : Tryz.prog.underlying 125 = some (.map 3 124) := by kernel_rfl
theorem lyZ (w : World) : (zeroValue 124).run Tryz.prog w = .ok (.slice none 0 0) w := by kernel_rfl
theorem lyInt : Tryz.prog.underlying 3 = some (.int .i64) := by kernel_rfl
theorem lyKeyOf {p : Int} (hp : (Lit.int .i64 p).wf = true) : keyOf Tryz.prog 3 (.int .i64 p) = some (.int .i64 p) := by
 first | (simp [keyOf, mapKey, hp]; done) | simp [keyOf, mapKey, lyInt, hp]

def MapIs (w : World) (b N : Nat) (f : Int → Value) : Prop :=
 ∃ D : DataW Unit, w.ownsMap Tryz.prog 3 anyElem b N D ∧ (∃ es clock, w.heap[b]? = some (.map es clock) ∧ ∀ x ∈ es.toList, ∀ p, x.key = .int .i64 p → x.val = f p) ∧ ∀ p, Maps.has D (.int .i64 p) = false → f p = .slice none 0 0

theorem MapIs.lt {w : World} {b N : Nat} {f : Int → Value} (h : MapIs w b N f) : b < w.heap.size := by
 obtain ⟨D, ho, _⟩ := h
 exact ho.lt
theorem MapIs.of_block {w w' : World} {b N : Nat} {f : Int → Value} (h : MapIs w b N f) (hb : w'.heap[b]? = w.heap[b]?) : MapIs w' b N f := by
 obtain ⟨D, ⟨es, clock, hblk, r⟩, ⟨es2, clock2, hb2, h2⟩, h3⟩ := h
 exact ⟨D, ⟨es, clock, hb.trans hblk, r⟩, ⟨es2, clock2, hb.trans hb2, h2⟩, h3⟩
theorem MapIs.below {w w' : World} {b N : Nat} {f : Int → Value} (h : MapIs w b N f) (hb : Below w.heap.size w w') : MapIs w' b N f := h.of_block (hb.block b h.lt)
theorem mapIs_made (w : World) : MapIs (w.alloc (.map #[] 0)) w.heap.size 0 (fun _ => .slice none 0 0) :=
 ⟨.map [], World.ownsMap_made _ _ _ _, ⟨#[], 0, (MapKept.heap_alloc w _).1, fun x hx => by simp at hx⟩, fun _ _ => rfl⟩

theorem MapIs.look {w : World} {b N : Nat} {f : Int → Value} (h : MapIs w b N f) {p : Int} (hp : (Lit.int .i64 p).wf = true) :
  (Instr.lookup 125 (.map (some b)) (.int .i64 p) false).run Tryz.prog w = .ok (f p) w := by
 obtain ⟨D, ⟨es, clock, hblk, F, _, rfl⟩, ⟨es2, clock2, hb2, h2⟩, h3⟩ := h
 obtain ⟨rfl, rfl⟩ : es = es2 ∧ clock = clock2 := by rw [hblk] at hb2; simpa using hb2
 rcases Maps.fit_look false lyKey lyU (lyZ w) hblk F (lyKeyOf hp) with ⟨hrun, _, hat⟩ | ⟨e0, y, hm0, hk0, hrun, _, _, _⟩
 ·rw [h3 p (has_false_of_atKey hat)]
  exact hrun
 ·rw [← h2 e0 hm0 p hk0]
  exact hrun

theorem MapIs.store {w : World} {b N : Nat} {f : Int → Value} (h : MapIs w b N f) (hN : N < maxLen) {p : Int} (hp : (Lit.int .i64 p).wf = true) (v : Value) :
  ∃ w', (Instr.mapUpdate 125 (.map (some b)) (.int .i64 p) v).run Tryz.prog w = .ok () w' ∧ MapIs w' b (N + 1) (fun q => if q = p then v else f q) ∧ w.grownBy w' (some b) := by
 obtain ⟨D, ho, ⟨es2, clock2, hb2, h2⟩, h3⟩ := h
 have hoo := ho
 obtain ⟨es, clock, hblk, F, hs, rfl⟩ := hoo
 obtain ⟨rfl, rfl⟩ : es = es2 ∧ clock = clock2 := by rw [hblk] at hb2; simpa using hb2
 obtain ⟨w', hrun, ho', ht⟩ := ho.store (val := v) (d := .nil) (ps := []) lyKey lyU hN (lyKeyOf hp) rfl
 obtain ⟨es', clock', hb', hwho⟩ := stored_who lyKey lyU hblk F (Nat.lt_of_le_of_lt hs hN) (lyKeyOf hp) hrun
 refine ⟨w', hrun, ⟨_, ho', ⟨es', clock', hb', fun x hx q hq => ?_⟩, fun q hq => ?_⟩, ht.grown⟩
 ·rcases hwho x hx with ⟨hx0, hne⟩ | ⟨hk, hv⟩
  ·have : q ≠ p := fun e => hne (by rw [hq, e])
   simp only [if_neg this]
   exact h2 x hx0 q hq
  ·have : q = p := by rw [hk] at hq; simpa using hq.symm
   simp only [if_pos this]
   exact hv
 ·by_cases e : q = p
  ·subst e
   rw [Maps.has_put_same ho.isMap (show WideAt.IsKeyLit (.int .i64 q) from trivial)] at hq
   simp at hq
  ·have hne : (Lit.int .i64 q) ≠ .int .i64 p := fun h => e (by simpa using h)
   rw [Maps.has_put_other hne] at hq
   simp only [if_neg e]
   exact h3 q hq

end Go.Proofs.YtbdggfpfpjijoabGreatDoor

