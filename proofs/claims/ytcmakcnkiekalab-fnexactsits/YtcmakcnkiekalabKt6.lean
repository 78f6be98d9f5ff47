import Derived.Test.YtcmakcnkiekalabKt5
import Derived.Deep.MidRow
namespace Go.Proofs.Ytcmakcnkiekalab
open Go.RowKit

/-- A body's 412 cells. -/
def bodyF (k0 k1 k2 : Value) (s : Sp) (long sp : Int) (xs : List St) (j : Nat) : Value :=
  if j = 0 then .int .i64 s.piece else if j = 1 then .int .i64 s.at_ else if j = 2 then .int .i64 s.way
  else if j = 3 then k0 else if j = 4 then k1 else if j = 5 then k2 else if j = 6 then .int .i64 long else if j = 7 then .int .i64 sp
  else if j = 410 then .int .i64 0 else if j = 411 then .int .i64 xs.length
  else if j % 2 = 0 then .int .i64 (xs.getD (j / 2 - 4) ⟨0, 0⟩).piece else .int .i64 (xs.getD (j / 2 - 4) ⟨0, 0⟩).way

def bodyL (k0 k1 k2 : Value) (s : Sp) (long sp : Int) (xs : List St) : List Value := (List.range 412).map (bodyF k0 k1 k2 s long sp xs)
def bodyV (k0 k1 k2 : Value) (s : Sp) (long sp : Int) (xs : List St) : Value := .agg (bodyL k0 k1 k2 s long sp xs).toArray

theorem info_body : (Try.prog.info? 98).map (fun i => (i.zero, i.size)) = some (some (bodyV (.slice none 0 0) (.slice none 0 0) (.slice none 0 0) ⟨0, 0, 0⟩ 0 0 []), 412) := by kernel_rfl

theorem build_body (k0 k1 k2 : Value) (s : Sp) (long sp : Int) (w : World) :
    (Instr.build 98 #[(0, .agg #[.int .i64 s.piece, .int .i64 s.at_, .int .i64 s.way]), (1, .agg #[k0, k1, k2]), (2, .int .i64 long), (3, .int .i64 sp)]).run Try.prog w = .ok (bodyV k0 k1 k2 s long sp []) w := by kernel_rfl
def zeroBody : Value := bodyV (.slice none 0 0) (.slice none 0 0) (.slice none 0 0) ⟨0, 0, 0⟩ 0 0 []
theorem build_zero (w : World) : (Instr.build 98 #[]).run Try.prog w = .ok zeroBody w := by kernel_rfl
theorem zero_cells : Try.zeroCells98 = (bodyL (.slice none 0 0) (.slice none 0 0) (.slice none 0 0) ⟨0, 0, 0⟩ 0 0 []).toArray := by kernel_rfl

/-- Two bodies that differ in one place. -/
theorem bodyF_ring (k0 k1 k2 : Value) (s : Sp) (long sp : Int) (xs : List St) {i : Nat} (hi : i < 201) : bodyF k0 k1 k2 s long sp xs (8 + i * 2) = .int .i64 (xs.getD i ⟨0, 0⟩).piece ∧ bodyF k0 k1 k2 s long sp xs (8 + i * 2 + 1) = .int .i64 (xs.getD i ⟨0, 0⟩).way := by
  have h1 : (8 + i * 2) / 2 - 4 = i := by omega
  have h2 : (8 + i * 2 + 1) / 2 - 4 = i := by omega
  unfold bodyF
  constructor
  · repeat rw [if_neg (by omega)]
    rw [if_pos (by omega), h1]
  · repeat rw [if_neg (by omega)]
    rw [h2]

theorem bodyF_snoc (k0 k1 k2 : Value) (s : Sp) (long sp : Int) (xs : List St) (x : St) (hx : xs.length < 201) (j : Nat) (hj : j < 412) :
    (if j = 411 then .int .i64 ((xs.length : Int) + 1) else if j = 8 + xs.length * 2 + 1 then .int .i64 x.way else if j = 8 + xs.length * 2 then .int .i64 x.piece else bodyF k0 k1 k2 s long sp xs j) = bodyF k0 k1 k2 s long sp (xs ++ [x]) j := by
  by_cases e1 : j = 411
  · subst e1
    simp [bodyF]
  rw [if_neg e1]
  by_cases e2 : j = 8 + xs.length * 2 + 1
  · rw [if_pos e2, e2, (bodyF_ring k0 k1 k2 s long sp (xs ++ [x]) hx).2]
    simp
  rw [if_neg e2]
  by_cases e3 : j = 8 + xs.length * 2
  · rw [if_pos e3, e3, (bodyF_ring k0 k1 k2 s long sp (xs ++ [x]) hx).1]
    simp
  rw [if_neg e3]
  by_cases e4 : j < 8 ∨ j = 410
  · unfold bodyF
    rcases e4 with e4 | e4
    · have : j = 0 ∨ j = 1 ∨ j = 2 ∨ j = 3 ∨ j = 4 ∨ j = 5 ∨ j = 6 ∨ j = 7 := by omega
      rcases this with rfl | rfl | rfl | rfl | rfl | rfl | rfl | rfl <;> rfl
    · subst e4; rfl
  · have hij : j = 8 + (j / 2 - 4) * 2 ∨ j = 8 + (j / 2 - 4) * 2 + 1 := by omega
    have hne : j / 2 - 4 ≠ xs.length := by omega
    have hget : (xs ++ [x]).getD (j / 2 - 4) ⟨0, 0⟩ = xs.getD (j / 2 - 4) ⟨0, 0⟩ := by
      rcases Nat.lt_or_gt_of_ne hne with h | h
      · simp [List.getD, List.getElem?_append_left h]
      · have h1 : (xs ++ [x])[j / 2 - 4]? = none := List.getElem?_eq_none (by simp; omega)
        have h2 : xs[j / 2 - 4]? = none := List.getElem?_eq_none (by omega)
        simp [List.getD, h1, h2]
    rcases hij with h | h
    · rw [h, (bodyF_ring k0 k1 k2 s long sp xs (by omega)).1, (bodyF_ring k0 k1 k2 s long sp (xs ++ [x]) (by omega)).1, hget]
    · rw [h, (bodyF_ring k0 k1 k2 s long sp xs (by omega)).2, (bodyF_ring k0 k1 k2 s long sp (xs ++ [x]) (by omega)).2, hget]

theorem bodyF_spare (k0 k1 k2 : Value) (s : Sp) (long sp sp' : Int) (xs : List St) (j : Nat) : (if j = 7 then .int .i64 sp' else bodyF k0 k1 k2 s long sp xs j) = bodyF k0 k1 k2 s long sp' xs j := by
  unfold bodyF
  by_cases e : j = 7
  · subst e; rfl
  · simp [e]

theorem bodyL_len (k0 k1 k2 : Value) (s : Sp) (long sp : Int) (xs : List St) : (bodyL k0 k1 k2 s long sp xs).length = 412 := by simp [bodyL]
theorem bodyL_get {k0 k1 k2 : Value} {s : Sp} {long sp : Int} {xs : List St} {j : Nat} (hj : j < 412) : (bodyL k0 k1 k2 s long sp xs)[j]? = some (bodyF k0 k1 k2 s long sp xs j) := by
  simp [bodyL, hj]
theorem bodyL_one {k0 k1 k2 : Value} (s : Sp) (long sp : Int) (xs : List St) (h0 : k0.oneCell' = true) (h1 : k1.oneCell' = true) (h2 : k2.oneCell' = true) : ∀ v ∈ bodyL k0 k1 k2 s long sp xs, v.oneCell' = true := by
  intro v hv
  obtain ⟨j, _, rfl⟩ := List.mem_map.1 hv
  unfold bodyF
  repeat (split; first | rfl | assumption)
  rfl

/-- From cells to the whole and back. -/
theorem OwnC.range {w : World} {b : Nat} {k0 k1 k2 : Value} {s : Sp} {long sp : Int} {xs : List St} (h : OwnC w b 0 412 (bodyF k0 k1 k2 s long sp xs)) : w.rangeAt b 0 (bodyL k0 k1 k2 s long sp xs) := by
  intro j v hv
  have hj : j < 412 := by have := (List.getElem?_eq_some_iff.1 hv).1; rwa [bodyL_len] at this
  rw [bodyL_get hj] at hv
  rw [← hv]
  exact (h.2 j hj).1
theorem OwnC.there {w : World} {b m : Nat} {f : Nat → Value} (h : OwnC w b 0 m f) : w.there b 0 m := fun j hj => ⟨by rw [(h.2 j hj).1]; rfl, (h.2 j hj).2⟩
theorem heap_setCells (b : Nat) : ∀ (vs : List Value) (o : Nat) (w : World) (k : Nat), k ≠ b → (w.setCells b o vs).heap[k]? = w.heap[k]? ∧ (w.setCells b o vs).heap.size = w.heap.size
  | [], _, _, _, _ => ⟨rfl, rfl⟩
  | v :: r, o, w, k, h => by
    rw [World.setCells]
    obtain ⟨h1, h2⟩ := heap_setCells b r (o + 1) (w.setCell ⟨b, o, none⟩ v) k h
    exact ⟨h1.trans (Below.heap_setCell w ⟨b, o, none⟩ v k h), h2.trans (by simp [World.setCell])⟩
theorem own_put {w : World} {b m : Nat} {f : Nat → Value} (h : OwnC w b 0 m f) {k0 k1 k2 : Value} {s : Sp} {long sp : Int} {xs : List St} (hm : m = 412) : OwnC (w.setCells b 0 (bodyL k0 k1 k2 s long sp xs)) b 0 412 (bodyF k0 k1 k2 s long sp xs) := by
  subst hm
  refine ⟨by rw [(heap_setCells b _ 0 w (b + 1) (by omega)).2]; exact h.1, fun j hj => ⟨?_, by rw [World.frozen?_setCells]; exact (h.2 j hj).2⟩⟩
  have := World.rangeAt_setCells_same w b 0 (bodyL k0 k1 k2 s long sp xs) (by rw [bodyL_len]; exact h.there)
  exact this j _ (bodyL_get hj)
theorem own_new (w : World) (k0 k1 k2 : Value) (s : Sp) (long sp : Int) (xs : List St) (t : TypeId) : OwnC (w.alloc (.cells (bodyL k0 k1 k2 s long sp xs).toArray t)) w.heap.size 0 412 (bodyF k0 k1 k2 s long sp xs) := by
  obtain ⟨h1, h2, h3⟩ := boxed_alloc w (bodyL k0 k1 k2 s long sp xs).toArray t
  exact ⟨h1, fun j hj => ⟨by simpa using h2 j _ (by simpa using bodyL_get hj), by rw [Nat.zero_add]; exact h3 j⟩⟩

end Go.Proofs.Ytcmakcnkiekalab
