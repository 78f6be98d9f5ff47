import Derived.Test.YtjacbppeebnjfaaGreatMKt4
import Derived.Deep.MidRow
import Derived.Deep.WholeRow
namespace Go.Proofs.YtjacbppeebnjfaaGreat
open Go.RowKit

def bodyF (k0 k1 k2 : Value) (s : Sp) (long sp : Int) (xs : List St) (j : Nat) : Value :=
 if j = 0 then .int .i64 s.piece else if j = 1 then .int .i64 s.at_ else if j = 2 then .int .i64 s.way
 else if j = 3 then k0 else if j = 4 then k1 else if j = 5 then k2 else if j = 6 then .int .i64 long else if j = 7 then .int .i64 sp
 else if j = 410 then .int .i64 0 else if j = 411 then .int .i64 xs.length
 else if j % 2 = 0 then .int .i64 (xs.getD (j / 2 - 4) ⟨0, 0⟩).piece else .int .i64 (xs.getD (j / 2 - 4) ⟨0, 0⟩).way

def bodyL (k0 k1 k2 : Value) (s : Sp) (long sp : Int) (xs : List St) : List Value := (List.range 412).map (bodyF k0 k1 k2 s long sp xs)
def bodyV (k0 k1 k2 : Value) (s : Sp) (long sp : Int) (xs : List St) : Value := .agg (bodyL k0 k1 k2 s long sp xs).toArray

theorem info_body : (Tryz.prog.info? 72).map (fun i => (i.zero, i.size)) = some (some (bodyV (.slice none 0 0) (.slice none 0 0) (.slice none 0 0) ⟨0, 0, 0⟩ 0 0 []), 412) := by kernel_rfl

def zeroBody : Value := bodyV (.slice none 0 0) (.slice none 0 0) (.slice none 0 0) ⟨0, 0, 0⟩ 0 0 []
theorem zero_cells : Tryz.zeroCells72 = (bodyL (.slice none 0 0) (.slice none 0 0) (.slice none 0 0) ⟨0, 0, 0⟩ 0 0 []).toArray := by kernel_rfl

theorem bodyF_ring (k0 k1 k2 : Value) (s : Sp) (long sp : Int) (xs : List St) {i : Nat} (hi : i < 201) : bodyF k0 k1 k2 s long sp xs (8 + i * 2) = .int .i64 (xs.getD i ⟨0, 0⟩).piece ∧ bodyF k0 k1 k2 s long sp xs (8 + i * 2 + 1) = .int .i64 (xs.getD i ⟨0, 0⟩).way := by
 have h1 : (8 + i * 2) / 2 - 4 = i := by omega
 have h2 : (8 + i * 2 + 1) / 2 - 4 = i := by omega
 unfold bodyF
 constructor
 ·repeat rw [if_neg (by omega)]
  rw [if_pos (by omega), h1]
 ·repeat rw [if_neg (by omega)]
  rw [h2]

theorem bodyF_snoc (k0 k1 k2 : Value) (s : Sp) (long sp : Int) (xs : List St) (x : St) (hx : xs.length < 201) (j : Nat) (hj : j < 412) :
  (if j = 411 then .int .i64 ((xs.length : Int) + 1) else if j = 8 + xs.length * 2 + 1 then .int .i64 x.way else if j = 8 + xs.length * 2 then .int .i64 x.piece else bodyF k0 k1 k2 s long sp xs j) = bodyF k0 k1 k2 s long sp (xs ++ [x]) j := by
 by_cases e1 : j = 411
 ·subst e1
  simp [bodyF]
 rw [if_neg e1]
 by_cases e2 : j = 8 + xs.length * 2 + 1
 ·rw [if_pos e2, e2, (bodyF_ring k0 k1 k2 s long sp (xs ++ [x]) hx).2]
  simp
 rw [if_neg e2]
 by_cases e3 : j = 8 + xs.length * 2
 ·rw [if_pos e3, e3, (bodyF_ring k0 k1 k2 s long sp (xs ++ [x]) hx).1]
  simp
 rw [if_neg e3]
 by_cases e4 : j < 8 ∨ j = 410
 ·unfold bodyF
  rcases e4 with e4 | e4
  ·have : j = 0 ∨ j = 1 ∨ j = 2 ∨ j = 3 ∨ j = 4 ∨ j = 5 ∨ j = 6 ∨ j = 7 := by omega
   rcases this with rfl | rfl | rfl | rfl | rfl | rfl | rfl | rfl <;> rfl
  ·subst e4; rfl
 ·have hij : j = 8 + (j / 2 - 4) * 2 ∨ j = 8 + (j / 2 - 4) * 2 + 1 := by omega
  have hne : j / 2 - 4 ≠ xs.length := by omega
  have hget : (xs ++ [x]).getD (j / 2 - 4) ⟨0, 0⟩ = xs.getD (j / 2 - 4) ⟨0, 0⟩ := by
   rcases Nat.lt_or_gt_of_ne hne with h | h
   ·simp [List.getD, List.getElem?_append_left h]
   ·have h1 : (xs ++ [x])[j / 2 - 4]? = none := List.getElem?_eq_none (by simp; omega)
    have h2 : xs[j / 2 - 4]? = none := List.getElem?_eq_none (by omega)
    simp [List.getD, h1, h2]
  rcases hij with h | h
  ·rw [h, (bodyF_ring k0 k1 k2 s long sp xs (by omega)).1, (bodyF_ring k0 k1 k2 s long sp (xs ++ [x]) (by omega)).1, hget]
  ·rw [h, (bodyF_ring k0 k1 k2 s long sp xs (by omega)).2, (bodyF_ring k0 k1 k2 s long sp (xs ++ [x]) (by omega)).2, hget]

theorem bodyF_spare (k0 k1 k2 : Value) (s : Sp) (long sp sp' : Int) (xs : List St) (j : Nat) : (if j = 7 then .int .i64 sp' else bodyF k0 k1 k2 s long sp xs j) = bodyF k0 k1 k2 s long sp' xs j := by
 unfold bodyF
 by_cases e : j = 7
 ·subst e; rfl
 ·simp [e]

theorem bodyL_len (k0 k1 k2 : Value) (s : Sp) (long sp : Int) (xs : List St) : (bodyL k0 k1 k2 s long sp xs).length = 412 := by simp [bodyL]
theorem bodyL_get {k0 k1 k2 : Value} {s : Sp} {long sp : Int} {xs : List St} {j : Nat} (hj : j < 412) : (bodyL k0 k1 k2 s long sp xs)[j]? = some (bodyF k0 k1 k2 s long sp xs j) := by
 simp [bodyL, hj]
theorem bodyL_one {k0 k1 k2 : Value} (s : Sp) (long sp : Int) (xs : List St) (h0 : k0.oneCell' = true) (h1 : k1.oneCell' = true) (h2 : k2.oneCell' = true) : ∀ v ∈ bodyL k0 k1 k2 s long sp xs, v.oneCell' = true := by
 intro v hv
 obtain ⟨j, _, rfl⟩ := List.mem_map.1 hv
 unfold bodyF
 repeat (split; first | rfl | assumption)
 rfl

theorem OwnC.range {w : World} {b : Nat} {k0 k1 k2 : Value} {s : Sp} {long sp : Int} {xs : List St} (h : OwnC w b 0 412 (bodyF k0 k1 k2 s long sp xs)) : w.rangeAt b 0 (bodyL k0 k1 k2 s long sp xs) := by
 intro j v hv
 have hj : j < 412 := by have := (List.getElem?_eq_some_iff.1 hv).1; rwa [bodyL_len] at this
 rw [bodyL_get hj] at hv
 rw [← hv]
 exact (h.2 j hj).1
theorem OwnC.there {w : World} {b m : Nat} {f : Nat → Value} (h : OwnC w b 0 m f) : w.there b 0 m := fun j hj => ⟨by rw [(h.2 j hj).1]; rfl, (h.2 j hj).2⟩
theorem heap_setCells (b : Nat) : ∀ (vs : List Value) (o : Nat) (w : World) (k : Nat), k ≠ b → (w.setCells b o vs).heap[k]? = w.heap[k]? ∧ (w.setCells b o vs).heap.size = w.heap.size
 | [], _, _, _, _ => ⟨rfl, rfl⟩
 | v :: r, o, w, k, h => by
  rw [World.setCells]
  obtain ⟨h1, h2⟩ := heap_setCells b r (o + 1) (w.setCell ⟨b, o, none⟩ v) k h
  exact ⟨h1.trans (Below.heap_setCell w ⟨b, o, none⟩ v k h), h2.trans (by simp [World.setCell])⟩
theorem own_put {w : World} {b m : Nat} {f : Nat → Value} (h : OwnC w b 0 m f) {k0 k1 k2 : Value} {s : Sp} {long sp : Int} {xs : List St} (hm : m = 412) : OwnC (w.setCells b 0 (bodyL k0 k1 k2 s long sp xs)) b 0 412 (bodyF k0 k1 k2 s long sp xs) := by
 subst hm
 refine ⟨by rw [(heap_setCells b _ 0 w (b + 1) (by omega)).2]; exact h.1, fun j hj => ⟨?_, by rw [World.frozen?_setCells]; exact (h.2 j hj).2⟩⟩
 have := World.rangeAt_setCells_same w b 0 (bodyL k0 k1 k2 s long sp xs) (by rw [bodyL_len]; exact h.there)
 exact this j _ (bodyL_get hj)
theorem own_new (w : World) (k0 k1 k2 : Value) (s : Sp) (long sp : Int) (xs : List St) (t : TypeId) : OwnC (w.alloc (.cells (bodyL k0 k1 k2 s long sp xs).toArray t)) w.heap.size 0 412 (bodyF k0 k1 k2 s long sp xs) := by
 obtain ⟨h1, h2, h3⟩ := boxed_alloc w (bodyL k0 k1 k2 s long sp xs).toArray t
 exact ⟨h1, fun j hj => ⟨by simpa using h2 j _ (by simpa using bodyL_get hj), by rw [Nat.zero_add]; exact h3 j⟩⟩

end Go.Proofs.YtjacbppeebnjfaaGreat

namespace Go.Proofs.YtjacbppeebnjfaaGreat
open Go.RowKit

theorem OwnC.set0 {w : World} {b m : Nat} {f : Nat → Value} (h : OwnC w b 0 m f) {i : Nat} (hi : i < m) (v : Value) : OwnC (w.setCell ⟨b, i, none⟩ v) b 0 m (fun j => if j = i then v else f j) := by
 have := h.set hi v
 rwa [Nat.zero_add] at this

set_option maxHeartbeats 400000 in
theorem place_any (B o fs i : Nat) (w : World) (h : w.cell? ⟨B, o + 402, none⟩ = some (.int .i64 fs)) (hB : fs ≤ 1000) (hi : i ≤ 1000) :
  Calls Tryz.prog 104 #[.pointer (some ⟨B, o, none⟩), .int .i64 i] w fun e w' => e = .returned (.int .i64 ((fs + i) % 201 : Nat)) ∧ w' = w := by
 go_enter Tryz.func104, Tryz.ntmps104
 go_wp2
 go_ret
 have hrem : ((fs : Int) + (i : Int)) % 201 = (((fs + i) % 201 : Nat) : Int) := by omega
 exact ⟨congrArg (fun z => Ending.returned (Value.int .i64 z)) hrem, rfl⟩

set_option maxRecDepth 100000 in
set_option maxHeartbeats 2000000 in
theorem addFar_any (B : Nat) (k0 k1 k2 : Value) (s : Sp) (long sp : Int) (xs : List St) (x : St) (w : World) (h : OwnC w B 0 412 (bodyF k0 k1 k2 s long sp xs)) (hx : xs.length ≤ 200) :
  Calls Tryz.prog 126 #[.pointer (some ⟨B, 8, none⟩), .agg #[.int .i64 x.piece, .int .i64 x.way]] w fun e w' => (∃ v, e = .returned v) ∧ OwnC w' B 0 412 (bodyF k0 k1 k2 s long sp (xs ++ [x])) ∧ Only (fun k => k = B) w w' := by
 have c0 : w.cell? ⟨B, 410, none⟩ = some (.int .i64 (0 : Nat)) := by simpa [bodyF] using (h.2 410 (by omega)).1
 have c1 : w.cell? ⟨B, 411, none⟩ = some (.int .i64 xs.length) := by simpa [bodyF] using (h.2 411 (by omega)).1
 have d0 := (h.2 (8 + xs.length * 2) (by omega)).1
 have d1 := (h.2 (8 + xs.length * 2 + 1) (by omega)).1
 have z0 := (h.2 (8 + xs.length * 2) (by omega)).2
 have z1 := (h.2 (8 + xs.length * 2 + 1) (by omega)).2
 have z2 := (h.2 411 (by omega)).2
 simp only [Nat.zero_add] at d0 d1 z0 z1 z2
 have hB := h.1
 have hm : (0 + xs.length) % 201 = xs.length := by omega
 have hix : (xs.length : Int) < 201 := by omega
 have HOWN := hide h
 have HC : Hid ((w.alloc (.cells #[.int .i64 x.piece, .int .i64 x.way] 67)).drew.cell? ⟨B, 8 + 402, none⟩ = some (.int .i64 (0 : Nat))) := by
  unfold Hid
  rw [(Below.drew (Below.alloc (Below.refl w.heap.size w) (Nat.le_refl _) _)).cell hB]
  exact c0
 have KW : Hid ((((w.setCell ⟨B, 8 + xs.length * 2, none⟩ (.int .i64 x.piece)).setCell ⟨B, 8 + xs.length * 2 + 1, none⟩ (.int .i64 x.way)).alloc (.cells #[.int .i64 x.piece, .int .i64 x.way] 67)).drew.cell? ⟨B, 410, none⟩ = some (.int .i64 (0 : Nat))
   ∧ (((w.setCell ⟨B, 8 + xs.length * 2, none⟩ (.int .i64 x.piece)).setCell ⟨B, 8 + xs.length * 2 + 1, none⟩ (.int .i64 x.way)).alloc (.cells #[.int .i64 x.piece, .int .i64 x.way] 67)).drew.cell? ⟨B, 411, none⟩ = some (.int .i64 xs.length)
   ∧ (((w.setCell ⟨B, 8 + xs.length * 2, none⟩ (.int .i64 x.piece)).setCell ⟨B, 8 + xs.length * 2 + 1, none⟩ (.int .i64 x.way)).alloc (.cells #[.int .i64 x.piece, .int .i64 x.way] 67)).drew.cell? ⟨w.heap.size, 0, none⟩ = some (.int .i64 x.piece)
   ∧ (((w.setCell ⟨B, 8 + xs.length * 2, none⟩ (.int .i64 x.piece)).setCell ⟨B, 8 + xs.length * 2 + 1, none⟩ (.int .i64 x.way)).alloc (.cells #[.int .i64 x.piece, .int .i64 x.way] 67)).drew.cell? ⟨w.heap.size, 1, none⟩ = some (.int .i64 x.way)) := by
  have hbx : B < ((w.setCell ⟨B, 8 + xs.length * 2, none⟩ (.int .i64 x.piece)).setCell ⟨B, 8 + xs.length * 2 + 1, none⟩ (.int .i64 x.way)).heap.size := by simpa [World.setCell] using hB
  have hbb := boxedN ((w.setCell ⟨B, 8 + xs.length * 2, none⟩ (.int .i64 x.piece)).setCell ⟨B, 8 + xs.length * 2 + 1, none⟩ (.int .i64 x.way)) #[.int .i64 x.piece, .int .i64 x.way] 67 (N := w.heap.size) (by simp [World.setCell])
  refine ⟨?_, ?_, hbb.drew.2.1 0 _ rfl, hbb.drew.2.1 1 _ rfl⟩
  ·rw [(Below.drew (Below.alloc (Below.refl _ _) (Nat.le_refl _) _)).cell hbx, World.cell?_setCell_other _ _ _ _ (by simp <;> omega), World.cell?_setCell_other _ _ _ _ (by simp <;> omega)]
   exact c0
  ·rw [(Below.drew (Below.alloc (Below.refl _ _) (Nat.le_refl _) _)).cell hbx, World.cell?_setCell_other _ _ _ _ (by simp <;> omega), World.cell?_setCell_other _ _ _ _ (by simp <;> omega)]
   exact c1
 clear h
 go_enter Tryz.func126, Tryz.ntmps126
 go_wp2_with fail
 go_region_held3 (fun w' => w'.cell? ⟨B, 410, none⟩ = some (.int .i64 (0 : Nat)) ∧ w'.cell? ⟨B, 411, none⟩ = some (.int .i64 xs.length) ∧ w'.cell? ⟨w.heap.size, 0, none⟩ = some (.int .i64 x.piece) ∧ w'.cell? ⟨w.heap.size, 1, none⟩ = some (.int .i64 x.way)) (first | (((try dsimp only); (repeat' apply And.intro)) <;> (go_keep; done)) | exact unhide KW)
  (first
   | (go_at_call 104; refine (place_any B 8 0 xs.length _ (unhide HC) (by omega) (by omega)).mono ?_; rintro e w1 ⟨rfl, rfl⟩; rw [hm]))
 obtain ⟨q0, q1, q2, q3⟩ := unhide KW
 go_wp2
 go_end0
 have hown := ((((unhide HOWN).set0 (i := 8 + xs.length * 2) (by omega) (.int .i64 x.piece)).set0 (i := 8 + xs.length * 2 + 1) (by omega) (.int .i64 x.way)).set0 (i := 411) (by omega) (.int .i64 ((xs.length : Int) + 1)))
 refine ⟨⟨_, rfl⟩, (hown.below bw0).congr fun j hj => bodyF_snoc k0 k1 k2 s long sp xs x (by omega) j hj, ?_⟩
 refine (((only_setCell (S := fun k => k = B) w (p := ⟨B, 8 + xs.length * 2, none⟩) rfl (.int .i64 x.piece)).trans (only_setCell (S := fun k => k = B) _ (p := ⟨B, 8 + xs.length * 2 + 1, none⟩) rfl (.int .i64 x.way))).trans (only_setCell (S := fun k => k = B) _ (p := ⟨B, 411, none⟩) rfl (.int .i64 ((xs.length : Int) + 1)))).trans (only_of_below ?_)
 exact bw0

theorem litL_eq (k0 k1 k2 : Value) (s : Sp) (long sp : Int) : ((((((((Tryz.zeroCells72.toList.set 0 (.int .i64 s.piece)).set 1 (.int .i64 s.at_)).set 2 (.int .i64 s.way)).set 3 k0).set 4 k1).set 5 k2).set 6 (.int .i64 long)).set 7 (.int .i64 sp)) = bodyL k0 k1 k2 s long sp [] := by kernel_rfl

theorem info_size : (Tryz.prog.info? 72).map (·.size) = some 412 := by
 have h := info_body
 cases hq : Tryz.prog.info? 72 with
 | none => simp [hq] at h
 | some i => simp [hq] at h; simp [h.2]

theorem store_new (W : World) (c : Array Value) (hc : c.size = 412) (l : List Value) (hl : l.length = 412) (h1 : ∀ v ∈ l, v.oneCell' = true) :
  (storeCells ⟨W.heap.size, 0, none⟩ l).run Tryz.prog (W.alloc (.cells c 72)) = .ok () (W.alloc (.cells l.toArray 72)) := by
 have := run_storeCells_new (P := Tryz.prog) W 72 c l.toArray (by rw [info_size]; simp [hl]) (by simp [hc, hl]) (all_oneCell_toArray h1)
 simpa using this

theorem store_old (W : World) (B : Nat) (f : Nat → Value) (h : OwnC W B 0 412 f) (l : List Value) (hl : l.length = 412) (h1 : ∀ v ∈ l, v.oneCell' = true) :
  (storeCells ⟨B, 0, none⟩ l).run Tryz.prog W = .ok () (W.setCells B 0 l) := by
 have := run_storeCells_cells (P := Tryz.prog) B 0 l 0 W (fun j hj => by rw [hl] at hj; simpa using (h.there j hj).1) (fun j hj => by rw [hl] at hj; simpa using (h.there j hj).2) h1
 simpa using this

theorem load_body (W : World) (B : Nat) (l : List Value) (hl : l.length = 412) (h : W.rangeAt B 0 l) : (loadCellsFrom ⟨B, 0, none⟩ 0 412 #[]).run Tryz.prog W = .ok l.toArray W := by
 have := run_loadCells_list (P := Tryz.prog) W ⟨B, 0, none⟩ l (fun j v hv => by rw [Addr.add_mid]; exact h j v hv)
 rw [hl] at this
 simpa [loadCells] using this

theorem loadVar_body (W : World) (B : Nat) (l : List Value) (hl : l.length = 412) (h : W.rangeAt B 0 l) : (loadVar 72 ⟨B, 0, none⟩).run Tryz.prog W = .ok (.agg l.toArray) W :=
 run_loadVar_mid W B 0 72 l _ h Tryz.underlying72 rfl (by rw [info_size, hl])

end Go.Proofs.YtjacbppeebnjfaaGreat

namespace Go.Proofs.YtjacbppeebnjfaaGreat
open Go.RowKit

def NextC (n : Nt) {σ : Type} (Nx : σ → Option (St × σ) → Prop) (I : σ → World → Prop) (fid C N : Nat) : Prop :=
 ∀ s wa, I s wa → N ≤ wa.heap.size → Calls Tryz.prog fid #[.pointer (some ⟨C, 0, none⟩)] wa fun e w' =>
  ((∃ p y : Int, e = .returned (.tuple #[.agg #[.int .i64 p, .int .i64 y], .bool false]) ∧ Nx s none) ∨ ∃ x s', e = .returned (.tuple #[.agg #[.int .i64 x.piece, .int .i64 x.way], .bool true]) ∧ Nx s (some (x, s')) ∧ StepOk n x ∧ I s' w') ∧ Only (fun k => k = C) wa w'

def RetLay (n : Nt) {σ : Type} (Nx : σ → Option (St × σ) → Prop) (k0 k1 k2 : Value) (s : Sp) (long : Int) (s0 : σ) (e : Ending) : Prop :=
 (∃ xs r, LayOk Nx n (behind n s - long) s0 xs r ∧ e = .returned (.tuple #[bodyV k0 k1 k2 s long r xs, .bool true])) ∨ (LayNo Nx n (behind n s - long) s0 ∧ e = .returned (.tuple #[zeroBody, .bool false]))

theorem OwnC.only {w w' : World} {b off m C : Nat} {f : Nat → Value} (h : OwnC w b off m f) (ho : Only (fun k => k = C) w w') (hb : b ≠ C) : OwnC w' b off m f := h.of_block (ho.block b h.1 hb) ho.size
theorem Boxed.only {w w' : World} {N C : Nat} {vs : List Value} (h : Boxed w N vs) (ho : Only (fun k => k = C) w w') (hb : N ≠ C) : Boxed w' N vs := by
 have hk := ho.block N h.1 hb
 exact ⟨Nat.lt_of_lt_of_le h.1 ho.size, fun i v hi => by rw [World.cell?_of_block (w := w) (a := ⟨N, i, none⟩) hk]; exact h.2.1 i v hi, fun i => by rw [World.frozen?_of_block (w := w) (a := ⟨N, i, none⟩) hk]; exact h.2.2 i⟩
theorem Boxed.puts {w : World} {N B : Nat} {vs : List Value} (h : Boxed w N vs) (hb : N ≠ B) (l : List Value) : Boxed (w.setCells B 0 l) N vs := by
 obtain ⟨hk, hs⟩ := heap_setCells B l 0 w N hb
 exact ⟨by rw [hs]; exact h.1, fun i v hi => by rw [World.cell?_of_block (w := w) (a := ⟨N, i, none⟩) hk]; exact h.2.1 i v hi, fun i => by rw [World.frozen?_of_block (w := w) (a := ⟨N, i, none⟩) hk]; exact h.2.2 i⟩
theorem OwnC.puts {w : World} {b off m B : Nat} {f : Nat → Value} (h : OwnC w b off m f) (hb : b ≠ B) (l : List Value) : OwnC (w.setCells B 0 l) b off m f := by
 obtain ⟨hk, hs⟩ := heap_setCells B l 0 w b hb
 exact h.of_block hk (by rw [hs]; exact Nat.le_refl _)
theorem setCells_os (b : Nat) : ∀ (vs : List Value) (o : Nat) (w : World), (w.setCells b o vs).os = w.os ∧ (w.setCells b o vs).tape = w.tape ∧ (w.setCells b o vs).output = w.output
 | [], _, _ => ⟨rfl, rfl, rfl⟩
 | v :: r, o, w => by rw [World.setCells]; exact setCells_os b r (o + 1) (w.setCell ⟨b, o, none⟩ v)
theorem below_puts {N : Nat} {a w : World} (h : Below N a w) {B : Nat} (hB : N ≤ B) (l : List Value) : Below N a (w.setCells B 0 l) := by
 obtain ⟨h1, h2, h3⟩ := setCells_os B l 0 w
 exact ⟨h1.trans h.os, h2.trans h.tape, h3.trans h.output, by rw [(heap_setCells B l 0 w (B + 1) (by omega)).2]; exact h.size, fun k hk => (heap_setCells B l 0 w k (by omega)).1.trans (h.block k hk)⟩

theorem own_zero (W : World) {N : Nat} (h : N = W.heap.size) : OwnC (W.alloc (.cells Tryz.zeroCells72 72)) N 0 412 (bodyF (.slice none 0 0) (.slice none 0 0) (.slice none 0 0) ⟨0, 0, 0⟩ 0 0 []) := by
 subst h
 rw [zero_cells]
 exact own_new W _ _ _ _ _ _ _ _
theorem own_zero3 (w : World) (o1 o2 o3 : Obj) : OwnC ((((w.alloc o1).alloc o2).alloc o3).alloc (.cells Tryz.zeroCells72 72)) (w.heap.size + 1 + 1 + 1) 0 412 (bodyF (.slice none 0 0) (.slice none 0 0) (.slice none 0 0) ⟨0, 0, 0⟩ 0 0 []) := own_zero _ (by simp)

theorem bodyL_size (k0 k1 k2 : Value) (s : Sp) (long sp : Int) (xs : List St) : (bodyL k0 k1 k2 s long sp xs).toArray.size = 412 := by simp [bodyL_len]
theorem TrkAt.pcs {L : Nat} {w : World} {n : Nt} {a : Option Addr} {m ca : Nat} {k1 k2 : Value} (h : TrkAt L w (.agg #[.slice a m ca, k1, k2]) n) : PcsAt L w a n.pieces := by
 obtain ⟨a', ca', sh', csh', st', cst', heq, hp', _, _⟩ := h
 simp at heq
 rw [heq.1.1]
 exact hp'
theorem Only.on {S : Nat → Prop} {w a b : World} (h : Only S w a) (hb : Below w.heap.size a b) : Only S w b :=
 ⟨hb.os.trans h.os, hb.tape.trans h.tape, hb.output.trans h.output, Nat.le_trans h.size hb.size, fun k hk hs => (hb.block k hk).trans (h.block k hk hs), fun k c t fr hc => by
  obtain ⟨c', h1, h2⟩ := h.shape k c t fr hc
  exact ⟨c', (hb.block k (Array.getElem?_eq_some_iff.1 hc).1).trans h1, h2⟩⟩

set_option maxRecDepth 100000 in
set_option maxHeartbeats 4000000 in
theorem lay_any {σ : Type} (Nx : σ → Option (St × σ) → Prop) (I : σ → World → Prop) (fid C : Nat) (s0 : σ) (kv : Value) (n : Nt) (s : Sp) (long : Int) (w : World) {L : Nat} (hk : TrkAt L w kv n) (hG : NetGood n) (hs : SpotOk n s) (hlong : 1 ≤ long ∧ long ≤ 100000)
  (hcf : ∀ W, (callFunc fid #[.pointer (some ⟨C, 0, none⟩)]).run Tryz.prog W = .ok (.enter fid #[.pointer (some ⟨C, 0, none⟩)]) W) (hC : C < w.heap.size)
  (hkO : ∀ wb, Only (fun k => k = C) w wb → TrkAt L wb kv n) (hI0 : I s0 w) (hIk : ∀ t a b, I t a → Below w.heap.size a b → I t b) (hnext : NextC n Nx I fid C w.heap.size) :
  ∃ k0 k1 k2, kv = .agg #[k0, k1, k2] ∧ Calls Tryz.prog 102 #[kv, .agg #[.int .i64 s.piece, .int .i64 s.at_, .int .i64 s.way], .int .i64 long, .func (.func fid) #[.pointer (some ⟨C, 0, none⟩)] #[]] w fun e w' => RetLay n Nx k0 k1 k2 s long s0 e ∧ Only (fun k => k = C) w w' := by
 have hkk := hk
 have hlen := (hG.len hs.1.1 hs.1.2).2
 obtain ⟨a, ca, sh, csh, st, cst, rfl, hp, hsh, hsd⟩ := hk
 refine ⟨_, _, _, rfl, ?_⟩
 have HS := hide hs
 have hbeh : 0 ≤ behind n s ∧ behind n s ≤ 10000000 := by
  have h3 := hs.2.2
  unfold behind room
  split <;> omega
 have hwr := wrap_small (x := behind n s - long) (by omega) (by omega)
 clear hs
 obtain ⟨K0, hK0⟩ : ∃ v, v = Value.slice a n.pieces.length ca := ⟨_, rfl⟩
 obtain ⟨K1, hK1⟩ : ∃ v, v = Value.slice sh n.joints.length csh := ⟨_, rfl⟩
 obtain ⟨K2, hK2⟩ : ∃ v, v = Value.slice st n.pieces.length cst := ⟨_, rfl⟩
 have hone := fun sp xs => bodyL_one (k0 := K0) (k1 := K1) (k2 := K2) s long sp xs (by rw [hK0]; rfl) (by rw [hK1]; rfl) (by rw [hK2]; rfl)
 subst hK0 hK1 hK2
 have HONE := hide hone
 clear hone
 have hzs : Tryz.zeroCells72.size = 412 := by kernel_rfl
 have hst1 : ∀ W : World, (storeCells ⟨W.heap.size, 0, none⟩ ((((((((Tryz.zeroCells72.toList.set 0 (.int .i64 s.piece)).set 1 (.int .i64 s.at_)).set 2 (.int .i64 s.way)).set 3 (.slice a n.pieces.length ca)).set 4 (.slice sh n.joints.length csh)).set 5 (.slice st n.pieces.length cst)).set 6 (.int .i64 long)).set 7 (.int .i64 (behind n s - long)))).run Tryz.prog (W.alloc (.cells Tryz.zeroCells72 72)) = .ok () (W.alloc (.cells (bodyL (.slice a n.pieces.length ca) (.slice sh n.joints.length csh) (.slice st n.pieces.length cst) s long (behind n s - long) []).toArray 72)) := fun W => by
  rw [litL_eq]
  exact store_new W _ hzs _ (bodyL_len _ _ _ _ _ _ _) (unhide HONE _ _)
 have hst2 : ∀ (W1 : World) (f : Nat → Value), OwnC W1 (w.heap.size + 1 + 1 + 1) 0 412 f → (storeCells ⟨w.heap.size + 1 + 1 + 1, 0, none⟩ ((((((((Tryz.zeroCells72.toList.set 0 (.int .i64 s.piece)).set 1 (.int .i64 s.at_)).set 2 (.int .i64 s.way)).set 3 (.slice a n.pieces.length ca)).set 4 (.slice sh n.joints.length csh)).set 5 (.slice st n.pieces.length cst)).set 6 (.int .i64 long)).set 7 (.int .i64 (behind n s - long)))).run Tryz.prog W1 = .ok () (W1.setCells (w.heap.size + 1 + 1 + 1) 0 (bodyL (.slice a n.pieces.length ca) (.slice sh n.joints.length csh) (.slice st n.pieces.length cst) s long (behind n s - long) [])) := fun W1 f h => by
  rw [litL_eq]
  exact store_old W1 _ f h _ (bodyL_len _ _ _ _ _ _ _) (unhide HONE _ _)
 have HST2 := hide hst2
 clear hzs hst2
 go_enter Tryz.func102, Tryz.ntmps102
 go_upto_region 1 with fail
 have hsc0 : ∀ (W : World) (l : List Value) (o : Nat), (W.setCells (w.heap.size + 1 + 1 + 1) 0 l).cell? ⟨w.heap.size, o, none⟩ = W.cell? ⟨w.heap.size, o, none⟩ := fun W l o => World.cell?_of_block (w := W) (a := ⟨w.heap.size, o, none⟩) (heap_setCells _ l 0 W w.heap.size (by omega)).1
 have hsc1 : ∀ (W : World) (l : List Value) (o : Nat), (W.setCells (w.heap.size + 1 + 1 + 1) 0 l).cell? ⟨w.heap.size + 1, o, none⟩ = W.cell? ⟨w.heap.size + 1, o, none⟩ := fun W l o => World.cell?_of_block (w := W) (a := ⟨w.heap.size + 1, o, none⟩) (heap_setCells _ l 0 W (w.heap.size + 1) (by omega)).1
 go_cut [10] (fun p wx => ∃ B, p = .pointer (some ⟨B, 0, none⟩) ∧ (w.heap.size ≤ B ∧ B ≠ w.heap.size ∧ B ≠ w.heap.size + 1 + 1) ∧ OwnC wx B 0 412 (bodyF (.slice a n.pieces.length ca) (.slice sh n.joints.length csh) (.slice st n.pieces.length cst) s long (behind n s - long) [])
   ∧ Boxed wx w.heap.size [.slice a n.pieces.length ca, .slice sh n.joints.length csh, .slice st n.pieces.length cst] ∧ (∃ f, OwnC wx (w.heap.size + 1 + 1) 0 412 f) ∧ Below w.heap.size w wx)
 case first =>
  go_region_held3 (fun w' => w'.cell? ⟨w.heap.size, 0, none⟩ = some (.slice a n.pieces.length ca) ∧ w'.cell? ⟨w.heap.size, 1, none⟩ = some (.slice sh n.joints.length csh) ∧ w'.cell? ⟨w.heap.size, 2, none⟩ = some (.slice st n.pieces.length cst)
    ∧ w'.cell? ⟨w.heap.size + 1, 0, none⟩ = some (.int .i64 s.piece) ∧ w'.cell? ⟨w.heap.size + 1, 1, none⟩ = some (.int .i64 s.at_) ∧ w'.cell? ⟨w.heap.size + 1, 2, none⟩ = some (.int .i64 s.way))
   (((try dsimp only); (repeat' apply And.intro)) <;> (go_keep; done))
   (first
    | (go_at_call 44; refine (kbehind_any _ n s _ (hkk.below ?_) (unhide HS) hlen).mono ?_; (first | exact bw0 | exact below_then bw0 bw0); rintro e w1 ⟨rfl, hb1⟩; obtain ⟨hc1, hf1⟩ := bcell hb1; have sz1 := hb1.size; (try simp at sz1); have lt1 := Nat.lt_of_succ_le sz1; have q0 := hc1 (w.heap.size) (0) (by first | (simp; done) | (simp; omega) | omega); have q1 := hc1 (w.heap.size) (1) (by first | (simp; done) | (simp; omega) | omega); have q2 := hc1 (w.heap.size) (2) (by first | (simp; done) | (simp; omega) | omega); have q3 := hc1 (w.heap.size+1) (0) (by first | (simp; done) | (simp; omega) | omega); have q4 := hc1 (w.heap.size+1) (1) (by first | (simp; done) | (simp; omega) | omega); have q5 := hc1 (w.heap.size+1) (2) (by first | (simp; done) | (simp; omega) | omega); (try have hst3 := unhide HST2 w1 _ (((own_zero3 w _ _ _).below (Below.drew (Below.refl _ _))).below hb1))))
  all_goals go_wp2_with fail
  all_goals go_meet
  ·refine ⟨_, rfl, ⟨by omega, by omega, by omega⟩, own_new _ _ _ _ _ _ _ _ _, ((((boxedN _ _ _ (by simp)).alloc _).alloc _).drew.below hb1).alloc _, ⟨_, (((own_zero _ (by simp)).below (Below.drew (Below.refl _ _))).below hb1).below bw0⟩, below_then (below_then bw0 hb1) bw0⟩
  ·have hz := ((own_zero3 w _ _ _).below (Below.drew (Below.refl _ _))).below hb1
   refine ⟨_, rfl, ⟨by omega, by omega, by omega⟩, own_put hz rfl, (((((boxedN _ _ _ (by simp)).alloc _).alloc _).alloc _).drew.below hb1).puts (by omega) _, ⟨_, (((((own_zero _ (by simp)).below (Below.alloc (Below.refl _ _) (Nat.le_refl _) _)).below (Below.drew (Below.refl _ _))).below hb1)).puts (by omega) _⟩, below_puts (below_then bw0 hb1) (by omega) _⟩
 case rest =>
  obtain ⟨B, rfl, ⟨hBN, hB0, hB2⟩, hown, hBk, ⟨fr, hres⟩, hb⟩ := hcut
  clear hst1 HST2 hsc0 hsc1 hwr
  have HN := hide hnext
  have HIK := hide hIk
  have HKO := hide hkO
  have hCB : C ≠ B := by omega
  clear hnext hIk hkO hp hsh hsd
  go_wp2_with fail
  go_loopw [12] (fun _ wr => ∃ (xs : List St) (sp : Int) (t : σ), Lays Nx n (behind n s - long) s0 xs t ∧ sp = behind n s - long + sumLen n xs ∧ (sp ≤ 10000000 ∧ -100000 ≤ sp) ∧ I t wr
    ∧ OwnC wr B 0 412 (bodyF (.slice a n.pieces.length ca) (.slice sh n.joints.length csh) (.slice st n.pieces.length cst) s long sp xs) ∧ Boxed wr w.heap.size [.slice a n.pieces.length ca, .slice sh n.joints.length csh, .slice st n.pieces.length cst] ∧ (∃ f, OwnC wr (w.heap.size + 1 + 1) 0 412 f) ∧ Only (fun k => k = C) w wr)
   (fun _ wr => (-(intOf ((wr.cell? ⟨B, 7, none⟩).getD undef))).toNat)
  case atStart => exact ⟨[], _, s0, Lays.nil _ _ _ _, by simp [sumLen_nil], by omega, unhide HIK _ _ _ hI0 hb, hown, hBk, ⟨_, hres⟩, only_of_below hb⟩
  case round =>
   clear hown hBk hres hb fr
   obtain ⟨xs, sp, t, hlays, hsp, hspb, hI, hown, hBk, ⟨fr, hres⟩, ho⟩ := hrel
   have HSP := hide hsp
   have HLAYS := hide hlays
   have HI := hide hI
   clear hsp hlays hI
   have c7 : wr.cell? ⟨B, 7, none⟩ = some (.int .i64 sp) := by simpa [bodyF] using (hown.2 7 (by omega)).1
   have hszw := ho.size
   by_cases hneg : sp < 0
   ·go_wp2_with fail
    refine (unhide HN t wr (unhide HI) hszw).mono ?_
    rintro e w2 ⟨⟨p, y, rfl, hnx⟩ | ⟨x, t', rfl, hnx, hxok, hI'⟩, ho2⟩
    ·have hA : Below w2.heap.size w2 (w2.alloc (.cells #[.int .i64 p, .int .i64 y] 67)) := bw0
     have hres2 := (hres.only ho2 (by omega)).below hA
     have hst4 := store_old _ _ _ hres2 Tryz.zeroCells72.toList (by rw [zero_cells]; simp [bodyL_len]) (by rw [zero_cells]; simpa using bodyL_one _ _ _ _ rfl rfl rfl)
     have hW5 : OwnC ((w2.alloc (.cells #[.int .i64 p, .int .i64 y] 67)).setCells (w.heap.size + 1 + 1) 0 Tryz.zeroCells72.toList) (w.heap.size + 1 + 1) 0 412 (bodyF (.slice none 0 0) (.slice none 0 0) (.slice none 0 0) ⟨0, 0, 0⟩ 0 0 []) := by rw [zero_cells]; simpa using own_put hres2 rfl
     have hldv := loadVar_body _ _ _ (bodyL_len _ _ _ _ _ _ _) hW5.range
     have hno : LayNo Nx n (behind n s - long) s0 := ⟨xs, t, unhide HLAYS, by have := unhide HSP; omega, Or.inl hnx⟩
     have HNO := hide hno
     have hend := ((ho.trans ho2).on (hA.mono (by have := ho2.size; omega))).on (below_puts (B := w.heap.size + 1 + 1) (Below.refl w.heap.size _) (by omega) Tryz.zeroCells72.toList)
     clear hno hnx
     go_wp2
     exact bodyPost_ret (v := .tuple #[.agg (bodyL (.slice none 0 0) (.slice none 0 0) (.slice none 0 0) ⟨0, 0, 0⟩ 0 0 []).toArray, .bool false]) (by rw [results_cell_tmp rfl]; simp [asAddr, Result.andThen, hldv]) rfl ⟨Or.inr ⟨unhide HNO, rfl⟩, hend⟩
    ·have hA : Below w2.heap.size w2 (w2.alloc (.cells #[.int .i64 x.piece, .int .i64 x.way] 67)) := bw0
     have hres2 := (hres.only ho2 (by omega)).below hA
     have hown2 := (hown.only ho2 (by omega)).below hA
     have c411 : (w2.alloc (.cells #[.int .i64 x.piece, .int .i64 x.way] 67)).cell? ⟨B, 411, none⟩ = some (.int .i64 xs.length) := by simpa [bodyF] using (hown2.2 411 (by omega)).1
     have hB2 : B < w2.heap.size := Nat.lt_of_lt_of_le hown.1 ho2.size
     have c411' : w2.cell? ⟨B, 411, none⟩ = some (.int .i64 xs.length) := by rw [← c411]; exact (hA.cell hB2).symm
     by_cases h200 : xs.length = 200
     ·have h2b : ((xs.length : Int) == 200) = true := by simp [h200]
      have H200 := hide h200
      clear h200
      have hst4 := store_old _ _ _ hres2 Tryz.zeroCells72.toList (by rw [zero_cells]; simp [bodyL_len]) (by rw [zero_cells]; simpa using bodyL_one _ _ _ _ rfl rfl rfl)
      have hW5 : OwnC ((w2.alloc (.cells #[.int .i64 x.piece, .int .i64 x.way] 67)).setCells (w.heap.size + 1 + 1) 0 Tryz.zeroCells72.toList) (w.heap.size + 1 + 1) 0 412 (bodyF (.slice none 0 0) (.slice none 0 0) (.slice none 0 0) ⟨0, 0, 0⟩ 0 0 []) := by rw [zero_cells]; simpa using own_put hres2 rfl
      have hldv := loadVar_body _ _ _ (bodyL_len _ _ _ _ _ _ _) hW5.range
      have hno : LayNo Nx n (behind n s - long) s0 := ⟨xs, t, unhide HLAYS, by have := unhide HSP; omega, Or.inr ⟨unhide H200, _, hnx⟩⟩
      have HNO := hide hno
      have hend := ((ho.trans ho2).on (hA.mono (by have := ho2.size; omega))).on (below_puts (B := w.heap.size + 1 + 1) (Below.refl w.heap.size _) (by omega) Tryz.zeroCells72.toList)
      clear hno hnx
      go_wp2
      exact bodyPost_ret (v := .tuple #[.agg (bodyL (.slice none 0 0) (.slice none 0 0) (.slice none 0 0) ⟨0, 0, 0⟩ 0 0 []).toArray, .bool false]) (by rw [results_cell_tmp rfl]; simp [asAddr, Result.andThen, hldv]) rfl ⟨Or.inr ⟨unhide HNO, rfl⟩, hend⟩
     ·have h2b : ((xs.length : Int) == 200) = false := by simp; omega
      have hfew := (unhide HLAYS).few
      have HNX := hide hnx
      have HXOK := hide hxok
      have HI2 := hide hI'
      have HOWN2 := hide hown2
      have HC7 := hide c7
      clear hnx hxok hI' hown2 c7 hown
      go_wp2_with fail
      refine (addFar_any B _ _ _ s long sp xs x _ (unhide HOWN2) (by omega)).mono ?_
      rintro e w4 ⟨⟨v, rfl⟩, hown4, ho4⟩
      have hbA4 : Below w.heap.size w2 w4 := (hA.mono (by have := ho2.size; omega)).trans (ho4.below (by have := ho2.size; simp; omega) (fun k hk => by omega))
      have ho5 := (ho.trans ho2).on hbA4
      have d7 : w4.cell? ⟨B, 7, none⟩ = some (.int .i64 sp) := by simpa [bodyF] using (hown4.2 7 (by omega)).1
      have z7 : w4.frozen? ⟨B, 7, none⟩ = false := by simpa using (hown4.2 7 (by omega)).2
      have hBk4 := (((hBk.only ho2 (by omega)).below hA).only ho4 (by omega))
      have hst4 : Boxed w4 w2.heap.size [.int .i64 x.piece, .int .i64 x.way] := (boxed_alloc _ _ _).only ho4 (by omega)
      have hres4 := hres2.only ho4 (by omega)
      have k0 := hBk4.2.1 0 _ rfl
      have nk := hBk4.1
      have e0 := hst4.2.1 0 _ rfl
      have ne := hst4.1
      have nB := hown4.1
      have hxx := unhide HXOK
      have hp' := (unhide HKO w4 ho5).pcs
      obtain ⟨pb, poff, rfl, hpb, c1⟩ := hp'.len hxx.1.1 hxx.1.2
      have hls := hG.len hxx.1.1 hxx.1.2
      have hx0 := hxx.1.1
      have hx1 := hxx.1.2
      obtain ⟨xn, hxn⟩ := Int.eq_ofNat_of_zero_le hx0
      rw [hxn] at c1 e0 hls hx1
      simp only [Int.toNat_natCast] at c1
      have HOWN4 := hide hown4
      have HXN := hide hxn
      clear hown4 hxn hx0 hxx
      go_wp2_with fail
      go_region
      go_wp2
      go_roundw
      case rel =>
       refine ⟨xs ++ [x], sp + lenOf n xn, t', (unhide HLAYS).snoc (unhide HNX) (unhide HXOK) (by have := unhide HSP; omega) h200, ?_, ⟨by omega, by omega⟩, ?_, ?_, ((hBk4.apart (p := ⟨B, 7, none⟩) (show w.heap.size ≠ B by omega) _).drew), ⟨_, ((hres4.of_block (Below.heap_setCell _ _ _ _ (show w.heap.size + 1 + 1 ≠ B by omega)) (by simp [World.setCell])).below (Below.drew (Below.refl _ _)))⟩, ho5.on ?_⟩
       ·rw [sumLen_append, sumLen_cons, sumLen_nil, unhide HXN, unhide HSP]; omega
       ·exact unhide HIK _ _ _ (unhide HIK _ _ _ (unhide HI2) hbA4) bw0
       ·exact (((unhide HOWN4).set0 (i := 7) (by omega) _).below (Below.drew (Below.refl _ _))).congr fun j _ => bodyF_spare _ _ _ _ _ _ _ _ _
       ·exact bw0
      case measure =>
       have g7 : (w4.setCell ⟨B, 7, none⟩ (.int .i64 (sp + lenOf n xn))).drew.cell? ⟨B, 7, none⟩ = some (.int .i64 (sp + lenOf n xn)) := World.cell?_setCell_same _ _ _ d7
       rw [g7, unhide HC7]
       simp [intOf]
       omega
   ·have hld := load_body _ _ _ (bodyL_len _ _ _ _ _ _ _) hown.range
    have hst4 := store_old _ _ _ hres (bodyL (.slice a n.pieces.length ca) (.slice sh n.joints.length csh) (.slice st n.pieces.length cst) s long sp xs) (bodyL_len _ _ _ _ _ _ _) (unhide HONE _ _)
    have hldv := loadVar_body _ _ _ (bodyL_len _ _ _ _ _ _ _) (own_put hres rfl (k0 := .slice a n.pieces.length ca) (k1 := .slice sh n.joints.length csh) (k2 := .slice st n.pieces.length cst) (s := s) (long := long) (sp := sp) (xs := xs)).range
    have HOK : Hid (LayOk Nx n (behind n s - long) s0 xs sp) := ⟨t, unhide HLAYS, unhide HSP, by omega⟩
    have hend := ho.on (below_puts (B := w.heap.size + 1 + 1) (Below.refl w.heap.size wr) (by omega) (bodyL (.slice a n.pieces.length ca) (.slice sh n.joints.length csh) (.slice st n.pieces.length cst) s long sp xs))
    have HRG := hide hown.range
    have HTH2 : Hid (wr.there (w.heap.size + 1 + 1) 0 (bodyL (.slice a n.pieces.length ca) (.slice sh n.joints.length csh) (.slice st n.pieces.length cst) s long sp xs).toArray.size) := by
     have h := hres.there
     unfold Hid
     rw [bodyL_size]
     exact h
    clear hld hown hres hBk hst4
    go_wp2_with fail
    refine wp_load_mid 72 (.tmp 10) rfl B 0 rfl (bodyL (.slice a n.pieces.length ca) (.slice sh n.joints.length csh) (.slice st n.pieces.length cst) s long sp xs) _ (unhide HRG) Tryz.underlying72 rfl (by rw [info_size, bodyL_len]) ?_
    rename_i hKK
    refine hKK _ _ ?_
    simp only [Act.put, List.setIfInBounds_toArray, List.set_cons_zero, List.set_cons_succ]
    refine wpList_store_mid rfl 72 (.tmp 8) (.tmp 53) rfl (w.heap.size + 1 + 1) 0 (bodyL (.slice a n.pieces.length ca) (.slice sh n.joints.length csh) (.slice st n.pieces.length cst) s long sp xs).toArray rfl rfl (unhide HTH2) (by rw [info_size, bodyL_size]) (all_oneCell_toArray (unhide HONE _ _)) ?_
    clear hKK
    go_wp2
    exact bodyPost_ret (v := .tuple #[.agg (bodyL (.slice a n.pieces.length ca) (.slice sh n.joints.length csh) (.slice st n.pieces.length cst) s long sp xs).toArray, .bool true]) (by rw [results_cell_tmp rfl]; simp [asAddr, Result.andThen, hldv]) rfl ⟨Or.inl ⟨xs, sp, unhide HOK, rfl⟩, hend⟩

end Go.Proofs.YtjacbppeebnjfaaGreat

