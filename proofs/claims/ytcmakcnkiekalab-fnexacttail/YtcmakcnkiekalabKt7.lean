import Derived.Test.YtcmakcnkiekalabKt6
import Derived.Deep.WholeRow
namespace Go.Proofs.Ytcmakcnkiekalab
open Go.RowKit

theorem OwnC.set0 {w : World} {b m : Nat} {f : Nat → Value} (h : OwnC w b 0 m f) {i : Nat} (hi : i < m) (v : Value) : OwnC (w.setCell ⟨b, i, none⟩ v) b 0 m (fun j => if j = i then v else f j) := by
  have := h.set hi v
  rwa [Nat.zero_add] at this

set_option maxHeartbeats 400000 in
theorem place_any (B o fs i : Nat) (w : World) (h : w.cell? ⟨B, o + 402, none⟩ = some (.int .i64 fs)) (hB : fs ≤ 1000) (hi : i ≤ 1000) :
    Calls Try.prog 142 #[.pointer (some ⟨B, o, none⟩), .int .i64 i] w fun e w' => e = .returned (.int .i64 ((fs + i) % 201 : Nat)) ∧ w' = w := by
  go_enter Try.func142, Try.ntmps142
  go_wp2
  go_ret
  have hrem : ((fs : Int) + (i : Int)) % 201 = (((fs + i) % 201 : Nat) : Int) := by omega
  exact ⟨congrArg (fun z => Ending.returned (Value.int .i64 z)) hrem, rfl⟩

set_option maxRecDepth 100000 in
set_option maxHeartbeats 2000000 in
theorem addFar_any (B : Nat) (k0 k1 k2 : Value) (s : Sp) (long sp : Int) (xs : List St) (x : St) (w : World) (h : OwnC w B 0 412 (bodyF k0 k1 k2 s long sp xs)) (hx : xs.length ≤ 200) :
    Calls Try.prog 132 #[.pointer (some ⟨B, 8, none⟩), .agg #[.int .i64 x.piece, .int .i64 x.way]] w fun e w' => (∃ v, e = .returned v) ∧ OwnC w' B 0 412 (bodyF k0 k1 k2 s long sp (xs ++ [x])) ∧ Only (fun k => k = B) w w' := by
  have c0 : w.cell? ⟨B, 410, none⟩ = some (.int .i64 (0 : Nat)) := by simpa [bodyF] using (h.2 410 (by omega)).1
  have c1 : w.cell? ⟨B, 411, none⟩ = some (.int .i64 xs.length) := by simpa [bodyF] using (h.2 411 (by omega)).1
  have d0 := (h.2 (8 + xs.length * 2) (by omega)).1
  have d1 := (h.2 (8 + xs.length * 2 + 1) (by omega)).1
  have z0 := (h.2 (8 + xs.length * 2) (by omega)).2
  have z1 := (h.2 (8 + xs.length * 2 + 1) (by omega)).2
  have z2 := (h.2 411 (by omega)).2
  simp only [Nat.zero_add] at d0 d1 z0 z1 z2
  have hB := h.1
  have hm : (0 + xs.length) % 201 = xs.length := by omega
  have hix : (xs.length : Int) < 201 := by omega
  have HOWN := hide h
  have HC : Hid ((w.alloc (.cells #[.int .i64 x.piece, .int .i64 x.way] 93)).drew.cell? ⟨B, 8 + 402, none⟩ = some (.int .i64 (0 : Nat))) := by
    unfold Hid
    rw [(Below.drew (Below.alloc (Below.refl w.heap.size w) (Nat.le_refl _) _)).cell hB]
    exact c0
  have KW : Hid ((((w.setCell ⟨B, 8 + xs.length * 2, none⟩ (.int .i64 x.piece)).setCell ⟨B, 8 + xs.length * 2 + 1, none⟩ (.int .i64 x.way)).alloc (.cells #[.int .i64 x.piece, .int .i64 x.way] 93)).drew.cell? ⟨B, 410, none⟩ = some (.int .i64 (0 : Nat))
      ∧ (((w.setCell ⟨B, 8 + xs.length * 2, none⟩ (.int .i64 x.piece)).setCell ⟨B, 8 + xs.length * 2 + 1, none⟩ (.int .i64 x.way)).alloc (.cells #[.int .i64 x.piece, .int .i64 x.way] 93)).drew.cell? ⟨B, 411, none⟩ = some (.int .i64 xs.length)
      ∧ (((w.setCell ⟨B, 8 + xs.length * 2, none⟩ (.int .i64 x.piece)).setCell ⟨B, 8 + xs.length * 2 + 1, none⟩ (.int .i64 x.way)).alloc (.cells #[.int .i64 x.piece, .int .i64 x.way] 93)).drew.cell? ⟨w.heap.size, 0, none⟩ = some (.int .i64 x.piece)
      ∧ (((w.setCell ⟨B, 8 + xs.length * 2, none⟩ (.int .i64 x.piece)).setCell ⟨B, 8 + xs.length * 2 + 1, none⟩ (.int .i64 x.way)).alloc (.cells #[.int .i64 x.piece, .int .i64 x.way] 93)).drew.cell? ⟨w.heap.size, 1, none⟩ = some (.int .i64 x.way)) := by
    have hbx : B < ((w.setCell ⟨B, 8 + xs.length * 2, none⟩ (.int .i64 x.piece)).setCell ⟨B, 8 + xs.length * 2 + 1, none⟩ (.int .i64 x.way)).heap.size := by simpa [World.setCell] using hB
    have hbb := boxedN ((w.setCell ⟨B, 8 + xs.length * 2, none⟩ (.int .i64 x.piece)).setCell ⟨B, 8 + xs.length * 2 + 1, none⟩ (.int .i64 x.way)) #[.int .i64 x.piece, .int .i64 x.way] 93 (N := w.heap.size) (by simp [World.setCell])
    refine ⟨?_, ?_, hbb.drew.2.1 0 _ rfl, hbb.drew.2.1 1 _ rfl⟩
    · rw [(Below.drew (Below.alloc (Below.refl _ _) (Nat.le_refl _) _)).cell hbx, World.cell?_setCell_other _ _ _ _ (by simp <;> omega), World.cell?_setCell_other _ _ _ _ (by simp <;> omega)]
      exact c0
    · rw [(Below.drew (Below.alloc (Below.refl _ _) (Nat.le_refl _) _)).cell hbx, World.cell?_setCell_other _ _ _ _ (by simp <;> omega), World.cell?_setCell_other _ _ _ _ (by simp <;> omega)]
      exact c1
  clear h
  go_enter Try.func132, Try.ntmps132
  go_wp2_with fail
  go_region_held3 (fun w' => w'.cell? ⟨B, 410, none⟩ = some (.int .i64 (0 : Nat)) ∧ w'.cell? ⟨B, 411, none⟩ = some (.int .i64 xs.length) ∧ w'.cell? ⟨w.heap.size, 0, none⟩ = some (.int .i64 x.piece) ∧ w'.cell? ⟨w.heap.size, 1, none⟩ = some (.int .i64 x.way)) (first | (((try dsimp only); (repeat' apply And.intro)) <;> (go_keep; done)) | exact unhide KW)
    (first
      | (go_at_call 142; refine (place_any B 8 0 xs.length _ (unhide HC) (by omega) (by omega)).mono ?_; rintro e w1 ⟨rfl, rfl⟩; rw [hm]))
  obtain ⟨q0, q1, q2, q3⟩ := unhide KW
  go_wp2
  go_end0
  have hown := ((((unhide HOWN).set0 (i := 8 + xs.length * 2) (by omega) (.int .i64 x.piece)).set0 (i := 8 + xs.length * 2 + 1) (by omega) (.int .i64 x.way)).set0 (i := 411) (by omega) (.int .i64 ((xs.length : Int) + 1)))
  refine ⟨⟨_, rfl⟩, (hown.below (by repeat (first | with_reducible exact Below.refl _ _ | refine Below.setCell ?_ (by first | omega | (simp <;> omega) | (simp [World.setCell] <;> omega)) _ | refine Below.alloc ?_ (by first | omega | (simp <;> omega) | (simp [World.setCell] <;> omega)) _ | refine Below.drew ?_ | refine below_draws ?_ _ | exact Below.refl _ _))).congr fun j hj => bodyF_snoc k0 k1 k2 s long sp xs x (by omega) j hj, ?_⟩
  refine (((only_setCell (S := fun k => k = B) w (p := ⟨B, 8 + xs.length * 2, none⟩) rfl (.int .i64 x.piece)).trans (only_setCell (S := fun k => k = B) _ (p := ⟨B, 8 + xs.length * 2 + 1, none⟩) rfl (.int .i64 x.way))).trans (only_setCell (S := fun k => k = B) _ (p := ⟨B, 411, none⟩) rfl (.int .i64 ((xs.length : Int) + 1)))).trans (only_of_below ?_)
  exact (by repeat (first | with_reducible exact Below.refl _ _ | refine Below.setCell ?_ (by first | omega | (simp <;> omega) | (simp [World.setCell] <;> omega)) _ | refine Below.alloc ?_ (by first | omega | (simp <;> omega) | (simp [World.setCell] <;> omega)) _ | refine Below.drew ?_ | refine below_draws ?_ _ | exact Below.refl _ _))

/-- What a literal of a body's first fields is, cell by cell, as the walk leaves it. -/
theorem litL_eq (k0 k1 k2 : Value) (s : Sp) (long sp : Int) : ((((((((Try.zeroCells98.toList.set 0 (.int .i64 s.piece)).set 1 (.int .i64 s.at_)).set 2 (.int .i64 s.way)).set 3 k0).set 4 k1).set 5 k2).set 6 (.int .i64 long)).set 7 (.int .i64 sp)) = bodyL k0 k1 k2 s long sp [] := by kernel_rfl

theorem info_size : (Try.prog.info? 98).map (·.size) = some 412 := by
  have h := info_body
  cases hq : Try.prog.info? 98 with
  | none => simp [hq] at h
  | some i => simp [hq] at h; simp [h.2]

theorem store_new (W : World) (c : Array Value) (hc : c.size = 412) (l : List Value) (hl : l.length = 412) (h1 : ∀ v ∈ l, v.oneCell' = true) :
    (storeCells ⟨W.heap.size, 0, none⟩ l).run Try.prog (W.alloc (.cells c 98)) = .ok () (W.alloc (.cells l.toArray 98)) := by
  have := run_storeCells_new (P := Try.prog) W 98 c l.toArray (by rw [info_size]; simp [hl]) (by simp [hc, hl]) (all_oneCell_toArray h1)
  simpa using this

theorem store_old (W : World) (B : Nat) (f : Nat → Value) (h : OwnC W B 0 412 f) (l : List Value) (hl : l.length = 412) (h1 : ∀ v ∈ l, v.oneCell' = true) :
    (storeCells ⟨B, 0, none⟩ l).run Try.prog W = .ok () (W.setCells B 0 l) := by
  have := run_storeCells_cells (P := Try.prog) B 0 l 0 W (fun j hj => by rw [hl] at hj; simpa using (h.there j hj).1) (fun j hj => by rw [hl] at hj; simpa using (h.there j hj).2) h1
  simpa using this

theorem load_body (W : World) (B : Nat) (l : List Value) (hl : l.length = 412) (h : W.rangeAt B 0 l) : (loadCellsFrom ⟨B, 0, none⟩ 0 412 #[]).run Try.prog W = .ok l.toArray W := by
  have := run_loadCells_list (P := Try.prog) W ⟨B, 0, none⟩ l (fun j v hv => by rw [Addr.add_mid]; exact h j v hv)
  rw [hl] at this
  simpa [loadCells] using this

theorem loadVar_body (W : World) (B : Nat) (l : List Value) (hl : l.length = 412) (h : W.rangeAt B 0 l) : (loadVar 98 ⟨B, 0, none⟩).run Try.prog W = .ok (.agg l.toArray) W :=
  run_loadVar_mid W B 0 98 l _ h Try.underlying98 rfl (by rw [info_size, hl])

end Go.Proofs.Ytcmakcnkiekalab
