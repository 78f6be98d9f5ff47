import Derived.Test.YtbdggfpfpjijoaaGreatG17
import Derived.Deep.MidRow
import Derived.Deep.WholeRow
namespace Go.Proofs.YtbdggfpfpjijoaaGreat
open Go.RowKit

/-- A body's 412 cells. -/
def bodyF (k0 k1 k2 : Value) (s : Sp) (long sp : Int) (xs : List St) (j : Nat) : Value :=
  if j = 0 then .int .i64 s.piece else if j = 1 then .int .i64 s.at_ else if j = 2 then .int .i64 s.way
  else if j = 3 then k0 else if j = 4 then k1 else if j = 5 then k2 else if j = 6 then .int .i64 long else if j = 7 then .int .i64 sp
  else if j = 410 then .int .i64 0 else if j = 411 then .int .i64 xs.length
  else if j % 2 = 0 then .int .i64 (xs.getD (j / 2 - 4) ⟨0, 0⟩).piece else .int .i64 (xs.getD (j / 2 - 4) ⟨0, 0⟩).way

def bodyL (k0 k1 k2 : Value) (s : Sp) (long sp : Int) (xs : List St) : List Value := (List.range 412).map (bodyF k0 k1 k2 s long sp xs)
def bodyV (k0 k1 k2 : Value) (s : Sp) (long sp : Int) (xs : List St) : Value := .agg (bodyL k0 k1 k2 s long sp xs).toArray

theorem info_body : (Tryz.prog.info? 100).map (fun i => (i.zero, i.size)) = some (some (bodyV (.slice none 0 0) (.slice none 0 0) (.slice none 0 0) ⟨0, 0, 0⟩ 0 0 []), 412) := by kernel_rfl

theorem build_body (k0 k1 k2 : Value) (s : Sp) (long sp : Int) (w : World) :
    (Instr.build 100 #[(0, .agg #[.int .i64 s.piece, .int .i64 s.at_, .int .i64 s.way]), (1, .agg #[k0, k1, k2]), (2, .int .i64 long), (3, .int .i64 sp)]).run Tryz.prog w = .ok (bodyV k0 k1 k2 s long sp []) w := by kernel_rfl
def zeroBody : Value := bodyV (.slice none 0 0) (.slice none 0 0) (.slice none 0 0) ⟨0, 0, 0⟩ 0 0 []
theorem build_zero (w : World) : (Instr.build 100 #[]).run Tryz.prog w = .ok zeroBody w := by kernel_rfl
theorem zero_cells : Tryz.zeroCells100 = (bodyL (.slice none 0 0) (.slice none 0 0) (.slice none 0 0) ⟨0, 0, 0⟩ 0 0 []).toArray := by kernel_rfl

/-- Two bodies that differ in one place. -/
theorem bodyF_ring (k0 k1 k2 : Value) (s : Sp) (long sp : Int) (xs : List St) {i : Nat} (hi : i < 201) : bodyF k0 k1 k2 s long sp xs (8 + i * 2) = .int .i64 (xs.getD i ⟨0, 0⟩).piece ∧ bodyF k0 k1 k2 s long sp xs (8 + i * 2 + 1) = .int .i64 (xs.getD i ⟨0, 0⟩).way := by
  have h1 : (8 + i * 2) / 2 - 4 = i := by omega
  have h2 : (8 + i * 2 + 1) / 2 - 4 = i := by omega
  unfold bodyF
  constructor
  · repeat rw [if_neg (by omega)]
    rw [if_pos (by omega), h1]
  · repeat rw [if_neg (by omega)]
    rw [h2]

theorem bodyF_snoc (k0 k1 k2 : Value) (s : Sp) (long sp : Int) (xs : List St) (x : St) (hx : xs.length < 201) (j : Nat) (hj : j < 412) :
    (if j = 411 then .int .i64 ((xs.length : Int) + 1) else if j = 8 + xs.length * 2 + 1 then .int .i64 x.way else if j = 8 + xs.length * 2 then .int .i64 x.piece else bodyF k0 k1 k2 s long sp xs j) = bodyF k0 k1 k2 s long sp (xs ++ [x]) j := by
  by_cases e1 : j = 411
  · subst e1
    simp [bodyF]
  rw [if_neg e1]
  by_cases e2 : j = 8 + xs.length * 2 + 1
  · rw [if_pos e2, e2, (bodyF_ring k0 k1 k2 s long sp (xs ++ [x]) hx).2]
    simp
  rw [if_neg e2]
  by_cases e3 : j = 8 + xs.length * 2
  · rw [if_pos e3, e3, (bodyF_ring k0 k1 k2 s long sp (xs ++ [x]) hx).1]
    simp
  rw [if_neg e3]
  by_cases e4 : j < 8 ∨ j = 410
  · unfold bodyF
    rcases e4 with e4 | e4
    · have : j = 0 ∨ j = 1 ∨ j = 2 ∨ j = 3 ∨ j = 4 ∨ j = 5 ∨ j = 6 ∨ j = 7 := by omega
      rcases this with rfl | rfl | rfl | rfl | rfl | rfl | rfl | rfl <;> rfl
    · subst e4; rfl
  · have hij : j = 8 + (j / 2 - 4) * 2 ∨ j = 8 + (j / 2 - 4) * 2 + 1 := by omega
    have hne : j / 2 - 4 ≠ xs.length := by omega
    have hget : (xs ++ [x]).getD (j / 2 - 4) ⟨0, 0⟩ = xs.getD (j / 2 - 4) ⟨0, 0⟩ := by
      rcases Nat.lt_or_gt_of_ne hne with h | h
      · simp [List.getD, List.getElem?_append_left h]
      · have h1 : (xs ++ [x])[j / 2 - 4]? = none := List.getElem?_eq_none (by simp; omega)
        have h2 : xs[j / 2 - 4]? = none := List.getElem?_eq_none (by omega)
        simp [List.getD, h1, h2]
    rcases hij with h | h
    · rw [h, (bodyF_ring k0 k1 k2 s long sp xs (by omega)).1, (bodyF_ring k0 k1 k2 s long sp (xs ++ [x]) (by omega)).1, hget]
    · rw [h, (bodyF_ring k0 k1 k2 s long sp xs (by omega)).2, (bodyF_ring k0 k1 k2 s long sp (xs ++ [x]) (by omega)).2, hget]

theorem bodyF_spare (k0 k1 k2 : Value) (s : Sp) (long sp sp' : Int) (xs : List St) (j : Nat) : (if j = 7 then .int .i64 sp' else bodyF k0 k1 k2 s long sp xs j) = bodyF k0 k1 k2 s long sp' xs j := by
  unfold bodyF
  by_cases e : j = 7
  · subst e; rfl
  · simp [e]

theorem bodyL_len (k0 k1 k2 : Value) (s : Sp) (long sp : Int) (xs : List St) : (bodyL k0 k1 k2 s long sp xs).length = 412 := by simp [bodyL]
theorem bodyL_get {k0 k1 k2 : Value} {s : Sp} {long sp : Int} {xs : List St} {j : Nat} (hj : j < 412) : (bodyL k0 k1 k2 s long sp xs)[j]? = some (bodyF k0 k1 k2 s long sp xs j) := by
  simp [bodyL, hj]
theorem bodyL_one {k0 k1 k2 : Value} (s : Sp) (long sp : Int) (xs : List St) (h0 : k0.oneCell' = true) (h1 : k1.oneCell' = true) (h2 : k2.oneCell' = true) : ∀ v ∈ bodyL k0 k1 k2 s long sp xs, v.oneCell' = true := by
  intro v hv
  obtain ⟨j, _, rfl⟩ := List.mem_map.1 hv
  unfold bodyF
  repeat (split; first | rfl | assumption)
  rfl

/-- From cells to the whole and back. -/
theorem OwnC.range {w : World} {b : Nat} {k0 k1 k2 : Value} {s : Sp} {long sp : Int} {xs : List St} (h : OwnC w b 0 412 (bodyF k0 k1 k2 s long sp xs)) : w.rangeAt b 0 (bodyL k0 k1 k2 s long sp xs) := by
  intro j v hv
  have hj : j < 412 := by have := (List.getElem?_eq_some_iff.1 hv).1; rwa [bodyL_len] at this
  rw [bodyL_get hj] at hv
  rw [← hv]
  exact (h.2 j hj).1
theorem OwnC.there {w : World} {b m : Nat} {f : Nat → Value} (h : OwnC w b 0 m f) : w.there b 0 m := fun j hj => ⟨by rw [(h.2 j hj).1]; rfl, (h.2 j hj).2⟩
theorem heap_setCells (b : Nat) : ∀ (vs : List Value) (o : Nat) (w : World) (k : Nat), k ≠ b → (w.setCells b o vs).heap[k]? = w.heap[k]? ∧ (w.setCells b o vs).heap.size = w.heap.size
  | [], _, _, _, _ => ⟨rfl, rfl⟩
  | v :: r, o, w, k, h => by
    rw [World.setCells]
    obtain ⟨h1, h2⟩ := heap_setCells b r (o + 1) (w.setCell ⟨b, o, none⟩ v) k h
    exact ⟨h1.trans (Below.heap_setCell w ⟨b, o, none⟩ v k h), h2.trans (by simp [World.setCell])⟩
theorem own_put {w : World} {b m : Nat} {f : Nat → Value} (h : OwnC w b 0 m f) {k0 k1 k2 : Value} {s : Sp} {long sp : Int} {xs : List St} (hm : m = 412) : OwnC (w.setCells b 0 (bodyL k0 k1 k2 s long sp xs)) b 0 412 (bodyF k0 k1 k2 s long sp xs) := by
  subst hm
  refine ⟨by rw [(heap_setCells b _ 0 w (b + 1) (by omega)).2]; exact h.1, fun j hj => ⟨?_, by rw [World.frozen?_setCells]; exact (h.2 j hj).2⟩⟩
  have := World.rangeAt_setCells_same w b 0 (bodyL k0 k1 k2 s long sp xs) (by rw [bodyL_len]; exact h.there)
  exact this j _ (bodyL_get hj)
theorem own_new (w : World) (k0 k1 k2 : Value) (s : Sp) (long sp : Int) (xs : List St) (t : TypeId) : OwnC (w.alloc (.cells (bodyL k0 k1 k2 s long sp xs).toArray t)) w.heap.size 0 412 (bodyF k0 k1 k2 s long sp xs) := by
  obtain ⟨h1, h2, h3⟩ := boxed_alloc w (bodyL k0 k1 k2 s long sp xs).toArray t
  exact ⟨h1, fun j hj => ⟨by simpa using h2 j _ (by simpa using bodyL_get hj), by rw [Nat.zero_add]; exact h3 j⟩⟩

end Go.Proofs.YtbdggfpfpjijoaaGreat

namespace Go.Proofs.YtbdggfpfpjijoaaGreat
open Go.RowKit

theorem OwnC.set0 {w : World} {b m : Nat} {f : Nat → Value} (h : OwnC w b 0 m f) {i : Nat} (hi : i < m) (v : Value) : OwnC (w.setCell ⟨b, i, none⟩ v) b 0 m (fun j => if j = i then v else f j) := by
  have := h.set hi v
  rwa [Nat.zero_add] at this

set_option maxHeartbeats 400000 in
theorem place_any (B o fs i : Nat) (w : World) (h : w.cell? ⟨B, o + 402, none⟩ = some (.int .i64 fs)) (hB : fs ≤ 1000) (hi : i ≤ 1000) :
    Calls Tryz.prog 157 #[.pointer (some ⟨B, o, none⟩), .int .i64 i] w fun e w' => e = .returned (.int .i64 ((fs + i) % 201 : Nat)) ∧ w' = w := by
  go_enter Tryz.func157, Tryz.ntmps157
  go_wp2
  go_ret
  have hrem : ((fs : Int) + (i : Int)) % 201 = (((fs + i) % 201 : Nat) : Int) := by omega
  exact ⟨congrArg (fun z => Ending.returned (Value.int .i64 z)) hrem, rfl⟩

set_option maxRecDepth 100000 in
set_option maxHeartbeats 2000000 in
theorem addFar_any (B : Nat) (k0 k1 k2 : Value) (s : Sp) (long sp : Int) (xs : List St) (x : St) (w : World) (h : OwnC w B 0 412 (bodyF k0 k1 k2 s long sp xs)) (hx : xs.length ≤ 200) :
    Calls Tryz.prog 114 #[.pointer (some ⟨B, 8, none⟩), .agg #[.int .i64 x.piece, .int .i64 x.way]] w fun e w' => (∃ v, e = .returned v) ∧ OwnC w' B 0 412 (bodyF k0 k1 k2 s long sp (xs ++ [x])) ∧ Only (fun k => k = B) w w' := by
  have c0 : w.cell? ⟨B, 410, none⟩ = some (.int .i64 (0 : Nat)) := by simpa [bodyF] using (h.2 410 (by omega)).1
  have c1 : w.cell? ⟨B, 411, none⟩ = some (.int .i64 xs.length) := by simpa [bodyF] using (h.2 411 (by omega)).1
  have d0 := (h.2 (8 + xs.length * 2) (by omega)).1
  have d1 := (h.2 (8 + xs.length * 2 + 1) (by omega)).1
  have z0 := (h.2 (8 + xs.length * 2) (by omega)).2
  have z1 := (h.2 (8 + xs.length * 2 + 1) (by omega)).2
  have z2 := (h.2 411 (by omega)).2
  simp only [Nat.zero_add] at d0 d1 z0 z1 z2
  have hB := h.1
  have hm : (0 + xs.length) % 201 = xs.length := by omega
  have hix : (xs.length : Int) < 201 := by omega
  have HOWN := hide h
  have HC : Hid ((w.alloc (.cells #[.int .i64 x.piece, .int .i64 x.way] 95)).drew.cell? ⟨B, 8 + 402, none⟩ = some (.int .i64 (0 : Nat))) := by
    unfold Hid
    rw [(Below.drew (Below.alloc (Below.refl w.heap.size w) (Nat.le_refl _) _)).cell hB]
    exact c0
  have KW : Hid ((((w.setCell ⟨B, 8 + xs.length * 2, none⟩ (.int .i64 x.piece)).setCell ⟨B, 8 + xs.length * 2 + 1, none⟩ (.int .i64 x.way)).alloc (.cells #[.int .i64 x.piece, .int .i64 x.way] 95)).drew.cell? ⟨B, 410, none⟩ = some (.int .i64 (0 : Nat))
      ∧ (((w.setCell ⟨B, 8 + xs.length * 2, none⟩ (.int .i64 x.piece)).setCell ⟨B, 8 + xs.length * 2 + 1, none⟩ (.int .i64 x.way)).alloc (.cells #[.int .i64 x.piece, .int .i64 x.way] 95)).drew.cell? ⟨B, 411, none⟩ = some (.int .i64 xs.length)
      ∧ (((w.setCell ⟨B, 8 + xs.length * 2, none⟩ (.int .i64 x.piece)).setCell ⟨B, 8 + xs.length * 2 + 1, none⟩ (.int .i64 x.way)).alloc (.cells #[.int .i64 x.piece, .int .i64 x.way] 95)).drew.cell? ⟨w.heap.size, 0, none⟩ = some (.int .i64 x.piece)
      ∧ (((w.setCell ⟨B, 8 + xs.length * 2, none⟩ (.int .i64 x.piece)).setCell ⟨B, 8 + xs.length * 2 + 1, none⟩ (.int .i64 x.way)).alloc (.cells #[.int .i64 x.piece, .int .i64 x.way] 95)).drew.cell? ⟨w.heap.size, 1, none⟩ = some (.int .i64 x.way)) := by
    have hbx : B < ((w.setCell ⟨B, 8 + xs.length * 2, none⟩ (.int .i64 x.piece)).setCell ⟨B, 8 + xs.length * 2 + 1, none⟩ (.int .i64 x.way)).heap.size := by simpa [World.setCell] using hB
    have hbb := boxedN ((w.setCell ⟨B, 8 + xs.length * 2, none⟩ (.int .i64 x.piece)).setCell ⟨B, 8 + xs.length * 2 + 1, none⟩ (.int .i64 x.way)) #[.int .i64 x.piece, .int .i64 x.way] 95 (N := w.heap.size) (by simp [World.setCell])
    refine ⟨?_, ?_, hbb.drew.2.1 0 _ rfl, hbb.drew.2.1 1 _ rfl⟩
    · rw [(Below.drew (Below.alloc (Below.refl _ _) (Nat.le_refl _) _)).cell hbx, World.cell?_setCell_other _ _ _ _ (by simp <;> omega), World.cell?_setCell_other _ _ _ _ (by simp <;> omega)]
      exact c0
    · rw [(Below.drew (Below.alloc (Below.refl _ _) (Nat.le_refl _) _)).cell hbx, World.cell?_setCell_other _ _ _ _ (by simp <;> omega), World.cell?_setCell_other _ _ _ _ (by simp <;> omega)]
      exact c1
  clear h
  go_enter Tryz.func114, Tryz.ntmps114
  go_wp2_with fail
  go_region_held3 (fun w' => w'.cell? ⟨B, 410, none⟩ = some (.int .i64 (0 : Nat)) ∧ w'.cell? ⟨B, 411, none⟩ = some (.int .i64 xs.length) ∧ w'.cell? ⟨w.heap.size, 0, none⟩ = some (.int .i64 x.piece) ∧ w'.cell? ⟨w.heap.size, 1, none⟩ = some (.int .i64 x.way)) (first | (((try dsimp only); (repeat' apply And.intro)) <;> (go_keep; done)) | exact unhide KW)
    (first
      | (go_at_call 157; refine (place_any B 8 0 xs.length _ (unhide HC) (by omega) (by omega)).mono ?_; rintro e w1 ⟨rfl, rfl⟩; rw [hm]))
  obtain ⟨q0, q1, q2, q3⟩ := unhide KW
  go_wp2
  go_end0
  have hown := ((((unhide HOWN).set0 (i := 8 + xs.length * 2) (by omega) (.int .i64 x.piece)).set0 (i := 8 + xs.length * 2 + 1) (by omega) (.int .i64 x.way)).set0 (i := 411) (by omega) (.int .i64 ((xs.length : Int) + 1)))
  refine ⟨⟨_, rfl⟩, (hown.below bw0).congr fun j hj => bodyF_snoc k0 k1 k2 s long sp xs x (by omega) j hj, ?_⟩
  refine (((only_setCell (S := fun k => k = B) w (p := ⟨B, 8 + xs.length * 2, none⟩) rfl (.int .i64 x.piece)).trans (only_setCell (S := fun k => k = B) _ (p := ⟨B, 8 + xs.length * 2 + 1, none⟩) rfl (.int .i64 x.way))).trans (only_setCell (S := fun k => k = B) _ (p := ⟨B, 411, none⟩) rfl (.int .i64 ((xs.length : Int) + 1)))).trans (only_of_below ?_)
  exact bw0

/-- What a literal of a body's first fields is, cell by cell, as the walk leaves it. -/
theorem litL_eq (k0 k1 k2 : Value) (s : Sp) (long sp : Int) : ((((((((Tryz.zeroCells100.toList.set 0 (.int .i64 s.piece)).set 1 (.int .i64 s.at_)).set 2 (.int .i64 s.way)).set 3 k0).set 4 k1).set 5 k2).set 6 (.int .i64 long)).set 7 (.int .i64 sp)) = bodyL k0 k1 k2 s long sp [] := by kernel_rfl

theorem info_size : (Tryz.prog.info? 100).map (·.size) = some 412 := by
  have h := info_body
  cases hq : Tryz.prog.info? 100 with
  | none => simp [hq] at h
  | some i => simp [hq] at h; simp [h.2]

theorem store_new (W : World) (c : Array Value) (hc : c.size = 412) (l : List Value) (hl : l.length = 412) (h1 : ∀ v ∈ l, v.oneCell' = true) :
    (storeCells ⟨W.heap.size, 0, none⟩ l).run Tryz.prog (W.alloc (.cells c 100)) = .ok () (W.alloc (.cells l.toArray 100)) := by
  have := run_storeCells_new (P := Tryz.prog) W 100 c l.toArray (by rw [info_size]; simp [hl]) (by simp [hc, hl]) (all_oneCell_toArray h1)
  simpa using this

theorem store_old (W : World) (B : Nat) (f : Nat → Value) (h : OwnC W B 0 412 f) (l : List Value) (hl : l.length = 412) (h1 : ∀ v ∈ l, v.oneCell' = true) :
    (storeCells ⟨B, 0, none⟩ l).run Tryz.prog W = .ok () (W.setCells B 0 l) := by
  have := run_storeCells_cells (P := Tryz.prog) B 0 l 0 W (fun j hj => by rw [hl] at hj; simpa using (h.there j hj).1) (fun j hj => by rw [hl] at hj; simpa using (h.there j hj).2) h1
  simpa using this

theorem load_body (W : World) (B : Nat) (l : List Value) (hl : l.length = 412) (h : W.rangeAt B 0 l) : (loadCellsFrom ⟨B, 0, none⟩ 0 412 #[]).run Tryz.prog W = .ok l.toArray W := by
  have := run_loadCells_list (P := Tryz.prog) W ⟨B, 0, none⟩ l (fun j v hv => by rw [Addr.add_mid]; exact h j v hv)
  rw [hl] at this
  simpa [loadCells] using this

theorem loadVar_body (W : World) (B : Nat) (l : List Value) (hl : l.length = 412) (h : W.rangeAt B 0 l) : (loadVar 100 ⟨B, 0, none⟩).run Tryz.prog W = .ok (.agg l.toArray) W :=
  run_loadVar_mid W B 0 100 l _ h Tryz.underlying100 rfl (by rw [info_size, hl])

end Go.Proofs.YtbdggfpfpjijoaaGreat

