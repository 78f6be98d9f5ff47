import Derived.Test.YtcmakcnkiekalabRows
import Derived.Test.YtcmakcnkiekalabAt
import Derived.Maps.OwnSet
namespace Go.Proofs.Ytcmakcnkiekalab
open Go.RowKit Go.Maps

theorem mapLaw : Keyed Try.prog 9 := string_keyed (by kernel_rfl)
theorem mapU : Try.prog.underlying 225 = some (.map 9 3) := by kernel_rfl
theorem mapK : Try.prog.underlying 9 = some .string := by kernel_rfl
theorem mapE : Try.prog.underlying 3 = some (.int .i64) := by kernel_rfl
theorem zeroE (w : World) : (zeroValue 3).run Try.prog w = .ok (.int .i64 0) w := by kernel_rfl

/-- Block B is a map from texts, of at most k entries; which texts are there. -/
def SeenAt (w : World) (B k : Nat) (seen : ByteArray → Prop) : Prop :=
  ∃ D : DataW Unit, w.ownsMap Try.prog 9 (plainElem Try.prog 3) B k D ∧ ∀ s : ByteArray, Maps.has D (.string s.data.toList) = true ↔ seen s

theorem SeenAt.lt {w : World} {B k : Nat} {seen : ByteArray → Prop} (h : SeenAt w B k seen) : B < w.heap.size := by
  obtain ⟨D, ho, _⟩ := h
  exact ho.lt

theorem SeenAt.of_block {w w' : World} {B k : Nat} {seen : ByteArray → Prop} (h : SeenAt w B k seen) (hb : w'.heap[B]? = w.heap[B]?) : SeenAt w' B k seen := by
  obtain ⟨D, ⟨es, clock, hblk, r⟩, hs⟩ := h
  exact ⟨D, ⟨es, clock, hb.trans hblk, r⟩, hs⟩

theorem SeenAt.below {w w' : World} {B k : Nat} {seen : ByteArray → Prop} (h : SeenAt w B k seen) (hb : Below w.heap.size w w') : SeenAt w' B k seen :=
  h.of_block (hb.block B h.lt)

theorem SeenAt.congr {w : World} {B k : Nat} {seen seen' : ByteArray → Prop} (h : SeenAt w B k seen) (e : ∀ s, seen s ↔ seen' s) : SeenAt w B k seen' := by
  obtain ⟨D, ho, hs⟩ := h
  exact ⟨D, ho, fun s => (hs s).trans (e s)⟩

theorem seen_made (w : World) : SeenAt (w.alloc (.map #[] 0)) w.heap.size 0 (fun _ => False) :=
  ⟨.map [], World.ownsMap_made _ _ _ _, fun s => by simp [Maps.has]⟩

theorem SeenAt.look {w : World} {B k : Nat} {seen : ByteArray → Prop} (h : SeenAt w B k seen) {s : ByteArray} (hs : s.size ≤ maxLen) :
    ∃ (c : Int) (b : Bool), (Instr.lookup 225 (.map (some B)) (.string s) true).run Try.prog w = .ok (.tuple #[.int .i64 c, .bool b]) w ∧ (b = true ↔ seen s) := by
  obtain ⟨D, ho, hD⟩ := h
  obtain ⟨v, ps, hrun, hv⟩ := ho.look_ok mapLaw mapU (zeroE w) (plainElem_int mapE (by decide)) (WideMaps.keyOf_string_mk mapK hs)
  obtain ⟨c, rfl, _, _⟩ := plainElem_int_inv mapE hv
  exact ⟨c, _, hrun, hD s⟩

theorem SeenAt.store {w : World} {B k : Nat} {seen : ByteArray → Prop} (h : SeenAt w B k seen) (hk : k < maxLen) {s : ByteArray} (hs : s.size ≤ maxLen) {v : Int} (hv : (Lit.int .i64 v).wf = true) :
    ∃ w', (Instr.mapUpdate 225 (.map (some B)) (.string s) (.int .i64 v)).run Try.prog w = .ok () w' ∧ SeenAt w' B (k + 1) (fun t => t = s ∨ seen t) ∧ w.grownBy w' (some B) := by
  obtain ⟨D, ho, hD⟩ := h
  obtain ⟨w', hrun, ho', ht⟩ := ho.store mapLaw mapU hk (WideMaps.keyOf_string_mk mapK hs) (plainElem_int mapE hv)
  refine ⟨w', hrun, ⟨_, ho', fun t => ?_⟩, ht.grown⟩
  by_cases e : t = s
  · subst e
    simp [Maps.has_put_same ho.isMap (show WideAt.IsKeyLit (.string t.data.toList) from trivial)]
  · have hne : (Lit.string t.data.toList) ≠ .string s.data.toList := fun h => e (WideShapes.bytes_inj (by simpa using h))
    rw [Maps.has_put_other hne, hD t]
    simp [e]

end Go.Proofs.Ytcmakcnkiekalab
