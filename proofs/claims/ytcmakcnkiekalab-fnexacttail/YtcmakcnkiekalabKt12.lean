import Derived.Test.YtcmakcnkiekalabKt11
import Derived.Test.YtcmakcnkiekalabSpec9
namespace Go.Proofs.Ytcmakcnkiekalab
open Go.RowKit

set_option maxRecDepth 100000 in
set_option maxHeartbeats 2000000 in
theorem ringAt_any (B i : Nat) (k0 k1 k2 : Value) (s : Sp) (long sp : Int) (xs : List St) (w : World) (h : OwnC w B 0 412 (bodyF k0 k1 k2 s long sp xs)) (hi : i < 201) :
    Calls Try.prog 124 #[.pointer (some ⟨B, 8, none⟩), .int .i64 i] w fun e w' => e = .returned (.agg #[.int .i64 (xs.getD i ⟨0, 0⟩).piece, .int .i64 (xs.getD i ⟨0, 0⟩).way]) ∧ Below w.heap.size w w' := by
  have hB := h.1
  have c0 : w.cell? ⟨B, 410, none⟩ = some (.int .i64 (0 : Nat)) := by simpa [bodyF] using (h.2 410 (by omega)).1
  have d0 := (h.2 (8 + i * 2) (by omega)).1
  have d1 := (h.2 (8 + i * 2 + 1) (by omega)).1
  rw [Nat.zero_add, (bodyF_ring k0 k1 k2 s long sp xs hi).1] at d0
  rw [Nat.zero_add, (bodyF_ring k0 k1 k2 s long sp xs hi).2] at d1
  have hm : (0 + i) % 201 = i := by omega
  have hix : (i : Int) < 201 := by omega
  have f1 : ¬ B = w.heap.size := by omega
  have f2 : ¬ w.heap.size = B := by omega
  have HC : Hid ((w.alloc (.cells #[.int .i64 0, .int .i64 0] 93)).drew.cell? ⟨B, 8 + 402, none⟩ = some (.int .i64 (0 : Nat))) := by
    unfold Hid
    rw [(Below.drew (Below.alloc (Below.refl w.heap.size w) (Nat.le_refl _) _)).cell hB]
    exact c0
  clear h
  generalize xs.getD i ⟨0, 0⟩ = x at *
  go_enter Try.func124, Try.ntmps124
  go_wp2_with fail
  go_region_held3 (fun w' => w'.cell? ⟨B, 8 + i * 2, none⟩ = some (.int .i64 x.piece) ∧ w'.cell? ⟨B, 8 + i * 2 + 1, none⟩ = some (.int .i64 x.way)) (((try dsimp only); (repeat' apply And.intro)) <;> (go_keep; done))
    (first
      | (go_at_call 142; refine (place_any B 8 0 i _ (unhide HC) (by omega) (by omega)).mono ?_; rintro e w1 ⟨rfl, rfl⟩; rw [hm]))
  go_wp2
  exact bodyPost_ret (v := .agg #[.int .i64 x.piece, .int .i64 x.way]) (by simp [results, Try.results124, go_sem]) rfl ⟨rfl, (by repeat (first | with_reducible exact Below.refl _ _ | refine Below.setCell ?_ (by first | omega | (simp <;> omega) | (simp [World.setCell] <;> omega)) _ | refine Below.alloc ?_ (by first | omega | (simp <;> omega) | (simp [World.setCell] <;> omega)) _ | refine Below.drew ?_ | refine below_draws ?_ _ | exact Below.refl _ _))⟩

/-- The steps of a body, the front's first. -/
def stepOf (s : Sp) (xs : List St) (i : Nat) : St := if i = 0 then ⟨s.piece, s.way⟩ else xs.getD (i - 1) ⟨0, 0⟩

set_option maxRecDepth 100000 in
set_option maxHeartbeats 2000000 in
theorem stepAt_any (B i : Nat) (k0 k1 k2 : Value) (s : Sp) (long sp : Int) (xs : List St) (w : World) (h : OwnC w B 0 412 (bodyF k0 k1 k2 s long sp xs)) (hi : i < 202) :
    Calls Try.prog 89 #[.pointer (some ⟨B, 0, none⟩), .int .i64 i] w fun e w' => e = .returned (.agg #[.int .i64 (stepOf s xs i).piece, .int .i64 (stepOf s xs i).way]) ∧ Below w.heap.size w w' := by
  have hB := h.1
  have c0 : w.cell? ⟨B, 0, none⟩ = some (.int .i64 s.piece) := by simpa [bodyF] using (h.2 0 (by omega)).1
  have c1 : w.cell? ⟨B, 1, none⟩ = some (.int .i64 s.at_) := by simpa [bodyF] using (h.2 1 (by omega)).1
  have c2 : w.cell? ⟨B, 2, none⟩ = some (.int .i64 s.way) := by simpa [bodyF] using (h.2 2 (by omega)).1
  have hB1 : B < w.heap.size + 1 := by omega
  rcases Nat.eq_zero_or_pos i with rfl | hpos
  · have HS : Hid (stepOf s xs 0 = ⟨s.piece, s.way⟩) := rfl
    clear h
    go_enter Try.func89, Try.ntmps89
    go_wp2_with fail
    refine (step_any s _).mono ?_
    rintro e w1 ⟨rfl, hb1⟩
    have hR : Boxed w1 w.heap.size [.int .i64 0, .int .i64 0] := (boxed_alloc _ _ _).below hb1
    have hbw : Below w.heap.size w w1 := below_then (by repeat (first | with_reducible exact Below.refl _ _ | refine Below.setCell ?_ (by first | omega | (simp <;> omega) | (simp [World.setCell] <;> omega)) _ | refine Below.alloc ?_ (by first | omega | (simp <;> omega) | (simp [World.setCell] <;> omega)) _ | refine Below.drew ?_ | refine below_draws ?_ _ | exact Below.refl _ _)) hb1
    have r0 := hR.2.1 0 _ rfl
    have r1 := hR.2.1 1 _ rfl
    have rz := hR.2.2
    have rl := hR.1
    go_wp2
    exact bodyPost_ret (v := .agg #[.int .i64 s.piece, .int .i64 s.way]) (by simp [results, Try.results89, go_sem, r0, r1]) rfl ⟨by rw [unhide HS], (by repeat (first | with_reducible exact Below.refl _ _ | with_reducible exact hbw | refine Below.setCell ?_ (by first | omega | (simp <;> omega) | (simp [World.setCell] <;> omega)) _ | refine Below.alloc ?_ (by first | omega | (simp <;> omega) | (simp [World.setCell] <;> omega)) _ | refine Below.drew ?_ | refine below_draws ?_ _ | exact hbw | exact Below.refl _ _))⟩
  · obtain ⟨j, rfl⟩ : ∃ j, i = j + 1 := ⟨i - 1, by omega⟩
    have hne : (((j + 1 : Nat) : Int) == 0) = false := by rw [beq_eq_false_iff_ne]; omega
    have HS : Hid (stepOf s xs (j + 1) = xs.getD j ⟨0, 0⟩) := by simp [stepOf, Hid]
    have H := hide h
    clear h
    go_enter Try.func89, Try.ntmps89
    go_wp2_with fail
    refine (ringAt_any B j k0 k1 k2 s long sp xs _ ((unhide H).below ?_) (by omega)).mono ?_
    · exact (by repeat (first | with_reducible exact Below.refl _ _ | refine Below.setCell ?_ (by first | omega | (simp <;> omega) | (simp [World.setCell] <;> omega)) _ | refine Below.alloc ?_ (by first | omega | (simp <;> omega) | (simp [World.setCell] <;> omega)) _ | refine Below.drew ?_ | refine below_draws ?_ _ | exact Below.refl _ _))
    rintro e w1 ⟨rfl, hb1⟩
    have hR : Boxed w1 w.heap.size [.int .i64 0, .int .i64 0] := (boxed_alloc _ _ _).below hb1
    have hbw : Below w.heap.size w w1 := below_then (by repeat (first | with_reducible exact Below.refl _ _ | refine Below.setCell ?_ (by first | omega | (simp <;> omega) | (simp [World.setCell] <;> omega)) _ | refine Below.alloc ?_ (by first | omega | (simp <;> omega) | (simp [World.setCell] <;> omega)) _ | refine Below.drew ?_ | refine below_draws ?_ _ | exact Below.refl _ _)) hb1
    have r0 := hR.2.1 0 _ rfl
    have r1 := hR.2.1 1 _ rfl
    have rz := hR.2.2
    have rl := hR.1
    generalize xs.getD j ⟨0, 0⟩ = y at *
    go_wp2
    exact bodyPost_ret (v := .agg #[.int .i64 y.piece, .int .i64 y.way]) (by simp [results, Try.results89, go_sem, r0, r1]) rfl ⟨by rw [unhide HS], (by repeat (first | with_reducible exact Below.refl _ _ | with_reducible exact hbw | refine Below.setCell ?_ (by first | omega | (simp <;> omega) | (simp [World.setCell] <;> omega)) _ | refine Below.alloc ?_ (by first | omega | (simp <;> omega) | (simp [World.setCell] <;> omega)) _ | refine Below.drew ?_ | refine below_draws ?_ _ | exact hbw | exact Below.refl _ _))⟩

theorem stepOf_last (s : Sp) (xs : List St) : stepOf s xs xs.length = lastOf ⟨s.piece, s.way⟩ xs := by
  rcases Nat.eq_zero_or_pos xs.length with h | h
  · have : xs = [] := List.eq_nil_of_length_eq_zero h
    subst this
    rfl
  · obtain ⟨j, hj⟩ : ∃ j, xs.length = j + 1 := ⟨xs.length - 1, by omega⟩
    have h1 := lastOf_take ⟨s.piece, s.way⟩ xs j (by omega)
    rw [List.take_of_length_le (by omega)] at h1
    have h2 : xs.getD j ⟨0, 0⟩ = xs[j] := by simp [List.getD, List.getElem?_eq_getElem (show j < xs.length by omega)]
    have h3 : stepOf s xs (j + 1) = xs.getD j ⟨0, 0⟩ := by simp [stepOf]
    rw [h1, ← h2, ← h3, ← hj]

set_option maxRecDepth 100000 in
set_option maxHeartbeats 2000000 in
theorem tail_any (B : Nat) (n : Nt) (ka : Option Addr) (kca : Nat) (k1 k2 : Value) (s : Sp) (long sp : Int) (xs : List St) (w : World) {L : Nat} (h : OwnC w B 0 412 (bodyF (.slice ka n.pieces.length kca) k1 k2 s long sp xs)) (hp : PcsAt L w ka n.pieces) (hx : xs.length ≤ 200)
    (hok : StepOk n (lastOf ⟨s.piece, s.way⟩ xs)) (hlen : lenOf n (lastOf ⟨s.piece, s.way⟩ xs).piece ≤ 10000000) (hlen0 : 0 ≤ lenOf n (lastOf ⟨s.piece, s.way⟩ xs).piece) (hsp : -100000 ≤ sp ∧ sp ≤ 10000000) :
    Calls Try.prog 54 #[.pointer (some ⟨B, 0, none⟩)] w fun e w' => e = .returned (.agg #[.int .i64 (lastOf ⟨s.piece, s.way⟩ xs).piece, .int .i64 (if (lastOf ⟨s.piece, s.way⟩ xs).way = -1 then lenOf n (lastOf ⟨s.piece, s.way⟩ xs).piece - sp else sp), .int .i64 (lastOf ⟨s.piece, s.way⟩ xs).way]) ∧ Below w.heap.size w w' := by
  have hB := h.1
  have hB1 : B < w.heap.size + 1 := by omega
  have c7 : w.cell? ⟨B, 7, none⟩ = some (.int .i64 sp) := by simpa [bodyF] using (h.2 7 (by omega)).1
  have c3 : w.cell? ⟨B, 3, none⟩ = some (.slice ka n.pieces.length kca) := by simpa [bodyF] using (h.2 3 (by omega)).1
  have c411 : w.cell? ⟨B, 411, none⟩ = some (.int .i64 xs.length) := by simpa [bodyF] using (h.2 411 (by omega)).1
  have H := hide h
  have hL := stepOf_last s xs
  have HL := hide hL
  clear h hL
  generalize lastOf ⟨s.piece, s.way⟩ xs = last at *
  obtain ⟨lp, ly⟩ := last
  obtain ⟨⟨h0, h1⟩, hy⟩ := hok
  dsimp only at h0 h1 hy hlen hlen0 ⊢
  obtain ⟨pn, rfl⟩ := Int.eq_ofNat_of_zero_le h0
  go_enter Try.func54, Try.ntmps54
  go_wp2_with fail
  refine (stepAt_any B xs.length _ _ _ s long sp xs _ ((unhide H).below ?_) (by omega)).mono ?_
  · exact (by repeat (first | with_reducible exact Below.refl _ _ | refine Below.setCell ?_ (by first | omega | (simp <;> omega) | (simp [World.setCell] <;> omega)) _ | refine Below.alloc ?_ (by first | omega | (simp <;> omega) | (simp [World.setCell] <;> omega)) _ | refine Below.drew ?_ | refine below_draws ?_ _ | exact Below.refl _ _))
  rintro e w1 ⟨rfl, hb1⟩
  rw [unhide HL]
  have hbw1 : Below w.heap.size w w1 := below_then (by repeat (first | with_reducible exact Below.refl _ _ | refine Below.setCell ?_ (by first | omega | (simp <;> omega) | (simp [World.setCell] <;> omega)) _ | refine Below.alloc ?_ (by first | omega | (simp <;> omega) | (simp [World.setCell] <;> omega)) _ | refine Below.drew ?_ | refine below_draws ?_ _ | exact Below.refl _ _)) hb1
  have hR : Boxed w1 w.heap.size [.int .i64 0, .int .i64 0, .int .i64 0] := (boxed_alloc _ _ _).below hb1
  have r0 := hR.2.1 0 _ rfl
  have r1 := hR.2.1 1 _ rfl
  have r2 := hR.2.1 2 _ rfl
  have rz := hR.2.2
  have rl := hR.1
  have d7 : w1.cell? ⟨B, 7, none⟩ = some (.int .i64 sp) := by rw [hbw1.cell hB]; exact c7
  have d3 : w1.cell? ⟨B, 3, none⟩ = some (.slice ka n.pieces.length kca) := by rw [hbw1.cell hB]; exact c3
  have hBw1 : B < w1.heap.size := Nat.lt_of_lt_of_le hB hbw1.size
  obtain ⟨pb, poff, rfl, hpb, c1⟩ := (hp.below hbw1).len h0 h1
  simp only [Int.toNat_natCast] at c1
  have hsz1 := hbw1.size
  rcases hy with rfl | rfl
  · go_wp2
    exact bodyPost_ret (v := .agg #[.int .i64 pn, .int .i64 sp, .int .i64 1]) (by simp [results, Try.results54, go_sem, r0, r1, r2, rl]) rfl ⟨by simp, (by repeat (first | with_reducible exact Below.refl _ _ | with_reducible exact hbw1 | refine Below.setCell ?_ (by first | omega | (simp <;> omega) | (simp [World.setCell] <;> omega)) _ | refine Below.alloc ?_ (by first | omega | (simp <;> omega) | (simp [World.setCell] <;> omega)) _ | refine Below.drew ?_ | refine below_draws ?_ _ | exact hbw1 | exact Below.refl _ _))⟩
  · have hwr := wrap_small (x := lenOf n pn - sp) (by omega) (by omega)
    go_wp2_with fail
    go_quiet (fail)
    go_wp2
    exact bodyPost_ret (v := .agg #[.int .i64 pn, .int .i64 (lenOf n pn - sp), .int .i64 (-1)]) (by simp [results, Try.results54, go_sem, r0, r1, r2, rl]) rfl ⟨by simp, (by repeat (first | with_reducible exact Below.refl _ _ | with_reducible exact hbw1 | refine Below.setCell ?_ (by first | omega | (simp <;> omega) | (simp [World.setCell] <;> omega)) _ | refine Below.alloc ?_ (by first | omega | (simp <;> omega) | (simp [World.setCell] <;> omega)) _ | refine Below.drew ?_ | refine below_draws ?_ _ | exact hbw1 | exact Below.refl _ _))⟩

end Go.Proofs.Ytcmakcnkiekalab
