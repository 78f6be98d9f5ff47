import Derived.Test.YtcmakcnkiekalabTr1
import Derived.Test.YtcmakcnkiekalabSpec3
import Derived.BigQuiet
import Derived.BigRegion
import Derived.Deep.QuietTactic
import Derived.Deep.RegionWith
namespace Go.Proofs.Ytcmakcnkiekalab
open Go.RowKit

theorem l1in_B (x a b : Int) (w : World) :
    Calls Try.prog 69 #[.int .i64 x, .int .i64 a, .int .i64 b] w fun e w' => e = .returned (.bool (inB x a b)) ∧ w' = w :=
  (l1in_any x a b w).mono fun e w' ⟨he, hw⟩ => ⟨by
    rcases he with ⟨rfl, h⟩ | ⟨rfl, h⟩
    · rw [inB_true h]
    · rw [inB_false h], hw⟩

theorem l1in_T (x a b : Int) (w : World) (h : inB x a b = true) :
    Calls Try.prog 69 #[.int .i64 x, .int .i64 a, .int .i64 b] w fun e w' => e = .returned (.bool true) ∧ w' = w :=
  (l1in_B x a b w).mono fun e w' ⟨he, hw⟩ => ⟨by rw [he, h], hw⟩
theorem l1in_F (x a b : Int) (w : World) (h : inB x a b = false) :
    Calls Try.prog 69 #[.int .i64 x, .int .i64 a, .int .i64 b] w fun e w' => e = .returned (.bool false) ∧ w' = w :=
  (l1in_B x a b w).mono fun e w' ⟨he, hw⟩ => ⟨by rw [he, h], hw⟩

/-- A piece of a net in memory, by its number. -/
theorem PcsAt.len {L : Nat} {w : World} {a : Option Addr} {n : Nt} (h : PcsAt L w a n.pieces) {p : Int} (h0 : 0 ≤ p) (h1 : p < n.pieces.length) :
    ∃ b off, a = some ⟨b, off, none⟩ ∧ b < w.heap.size ∧ w.cell? ⟨b, off + p.toNat * 4 + 1, none⟩ = some (.int .i64 (lenOf n p)) := by
  obtain ⟨b, off, ha, hb, _, c1, _, _⟩ := h p.toNat (by omega)
  refine ⟨b, off, ha, hb.2, ?_⟩
  rw [c1]
  simp [lenOf, List.getElem?_eq_getElem (show p.toNat < n.pieces.length by omega)]

theorem wrap_small {x : Int} (h0 : -1000000000000000 ≤ x) (h1 : x ≤ 1000000000000000) : IntKind.i64.wrap x = x := by
  rw [IntKind.wrap_i64]
  omega

set_option maxHeartbeats 2000000 in
theorem l2spot_any (v : Value) (n : Nt) (s : Sp) (w : World) {L : Nat} (hv : NetAt L w v n) (hl : n.pieces.length ≤ 1048576) :
    Calls Try.prog 94 #[v, .agg #[.int .i64 s.piece, .int .i64 s.at_, .int .i64 s.way]] w fun e w' => RetB (SpotOk n s) e ∧ Below w.heap.size w w' := by
  obtain ⟨a, c, ca, cc, rfl, hp, hj⟩ := hv
  obtain ⟨p, q, y⟩ := s
  dsimp only
  have hwr := wrap_small (x := (n.pieces.length : Int) - 1) (by omega) (by omega)
  by_cases h1 : 0 ≤ p ∧ p ≤ (n.pieces.length : Int) - 1
  · have e1 := inB_true h1
    obtain ⟨b, off, rfl, hb, c1⟩ := hp.len h1.1 (by omega)
    obtain ⟨pn, rfl⟩ := Int.eq_ofNat_of_zero_le h1.1
    simp only [Int.toNat_natCast] at c1
    have hlt : (pn : Int) < (n.pieces.length : Int) := by omega
    have hnn : (0 : Int) ≤ (pn : Int) := by omega
    by_cases hy : y = 1 ∨ y = -1
    · rcases hy with rfl | rfl
      all_goals
        by_cases h3 : 0 ≤ q ∧ q ≤ lenOf n pn
        · have e3 := inB_true h3
          go_enter Try.func94, Try.ntmps94
          go_wp2_with fail
          go_quiet ((go_at_call 69; first | exact Calls.quiet_of_same (l1in_T _ _ _ _ (by assumption)) | exact Calls.quiet_of_same (l1in_F _ _ _ _ (by assumption))))
          go_wp2
          go_ret
          exact ⟨retB_true ⟨⟨hnn, hlt⟩, by simp, h3⟩, (by repeat (first | with_reducible exact Below.refl _ _ | refine Below.setCell ?_ (by first | omega | (simp <;> omega) | (simp [World.setCell] <;> omega)) _ | refine Below.alloc ?_ (by first | omega | (simp <;> omega) | (simp [World.setCell] <;> omega)) _ | refine Below.drew ?_ | refine below_draws ?_ _ | exact Below.refl _ _))⟩
        · have e3 := inB_false h3
          go_enter Try.func94, Try.ntmps94
          go_wp2_with fail
          go_quiet ((go_at_call 69; first | exact Calls.quiet_of_same (l1in_T _ _ _ _ (by assumption)) | exact Calls.quiet_of_same (l1in_F _ _ _ _ (by assumption))))
          go_wp2
          go_ret
          exact ⟨retB_false fun h => h3 h.2.2, (by repeat (first | with_reducible exact Below.refl _ _ | refine Below.setCell ?_ (by first | omega | (simp <;> omega) | (simp [World.setCell] <;> omega)) _ | refine Below.alloc ?_ (by first | omega | (simp <;> omega) | (simp [World.setCell] <;> omega)) _ | refine Below.drew ?_ | refine below_draws ?_ _ | exact Below.refl _ _))⟩
    · have y1 : (y == 1) = false := by simp; omega
      have y2 : (y == -1) = false := by simp; omega
      have HY := hide hy
      clear hy
      go_enter Try.func94, Try.ntmps94
      go_wp2_with fail
      go_quiet ((go_at_call 69; first | exact Calls.quiet_of_same (l1in_T _ _ _ _ (by assumption)) | exact Calls.quiet_of_same (l1in_F _ _ _ _ (by assumption))))
      go_wp2
      go_ret
      exact ⟨retB_false fun h => unhide HY h.2.1, (by repeat (first | with_reducible exact Below.refl _ _ | refine Below.setCell ?_ (by first | omega | (simp <;> omega) | (simp [World.setCell] <;> omega)) _ | refine Below.alloc ?_ (by first | omega | (simp <;> omega) | (simp [World.setCell] <;> omega)) _ | refine Below.drew ?_ | refine below_draws ?_ _ | exact Below.refl _ _))⟩
  · have e1 := inB_false h1
    go_enter Try.func94, Try.ntmps94
    go_wp2_with fail
    go_quiet ((go_at_call 69; first | exact Calls.quiet_of_same (l1in_T _ _ _ _ (by assumption)) | exact Calls.quiet_of_same (l1in_F _ _ _ _ (by assumption))))
    go_wp2
    go_ret
    exact ⟨retB_false fun h => h1 ⟨h.1.1, by have := h.1.2; dsimp only at this; omega⟩, (by repeat (first | with_reducible exact Below.refl _ _ | refine Below.setCell ?_ (by first | omega | (simp <;> omega) | (simp [World.setCell] <;> omega)) _ | refine Below.alloc ?_ (by first | omega | (simp <;> omega) | (simp [World.setCell] <;> omega)) _ | refine Below.drew ?_ | refine below_draws ?_ _ | exact Below.refl _ _))⟩

set_option maxHeartbeats 400000 in
theorem l2head_any (p y : Int) (w : World) :
    Calls Try.prog 97 #[.int .i64 p, .int .i64 y] w fun e w' => e = .returned (.agg #[.int .i64 (hd p y).piece, .int .i64 (hd p y).side]) ∧ Below w.heap.size w w' := by
  by_cases hy : y = 1
  · subst hy
    go_enter Try.func97, Try.ntmps97
    go_wp2
    exact bodyPost_ret (v := .agg #[.int .i64 p, .int .i64 1]) (by simp [results, Try.results97, go_sem]) rfl ⟨by simp [hd], (by repeat (first | with_reducible exact Below.refl _ _ | refine Below.setCell ?_ (by first | omega | (simp <;> omega) | (simp [World.setCell] <;> omega)) _ | refine Below.alloc ?_ (by first | omega | (simp <;> omega) | (simp [World.setCell] <;> omega)) _ | refine Below.drew ?_ | refine below_draws ?_ _ | exact Below.refl _ _))⟩
  · have y1 : (y == 1) = false := by simp; omega
    have HY := hide hy
    clear hy
    go_enter Try.func97, Try.ntmps97
    go_wp2
    exact bodyPost_ret (v := .agg #[.int .i64 p, .int .i64 0]) (by simp [results, Try.results97, go_sem]) rfl ⟨by simp [hd, unhide HY], (by repeat (first | with_reducible exact Below.refl _ _ | refine Below.setCell ?_ (by first | omega | (simp <;> omega) | (simp [World.setCell] <;> omega)) _ | refine Below.alloc ?_ (by first | omega | (simp <;> omega) | (simp [World.setCell] <;> omega)) _ | refine Below.drew ?_ | refine below_draws ?_ _ | exact Below.refl _ _))⟩

set_option maxHeartbeats 1000000 in
theorem l2room_any (v : Value) (n : Nt) (s : Sp) (w : World) {L : Nat} (hv : NetAt L w v n) (hs : SpotOk n s) (hlen : lenOf n s.piece ≤ 10000000) :
    Calls Try.prog 112 #[v, .agg #[.int .i64 s.piece, .int .i64 s.at_, .int .i64 s.way]] w fun e w' => e = .returned (.int .i64 (room n s)) ∧ Below w.heap.size w w' := by
  obtain ⟨a, c, ca, cc, rfl, hp, hj⟩ := hv
  obtain ⟨p, q, y⟩ := s
  obtain ⟨⟨h0, h1⟩, hy, h2, h3⟩ := hs
  dsimp only at h0 h1 hy h2 h3 hlen ⊢
  obtain ⟨b, off, rfl, hb, c1⟩ := hp.len h0 h1
  obtain ⟨pn, rfl⟩ := Int.eq_ofNat_of_zero_le h0
  simp only [Int.toNat_natCast] at c1
  have hwr := wrap_small (x := lenOf n pn - q) (by omega) (by omega)
  rcases hy with rfl | rfl
  · go_enter Try.func112, Try.ntmps112
    go_wp2_with fail
    go_quiet (fail)
    go_wp2
    go_ret
    exact ⟨by simp [room], (by repeat (first | with_reducible exact Below.refl _ _ | refine Below.setCell ?_ (by first | omega | (simp <;> omega) | (simp [World.setCell] <;> omega)) _ | refine Below.alloc ?_ (by first | omega | (simp <;> omega) | (simp [World.setCell] <;> omega)) _ | refine Below.drew ?_ | refine below_draws ?_ _ | exact Below.refl _ _))⟩
  · go_enter Try.func112, Try.ntmps112
    go_wp2
    go_ret
    exact ⟨by simp [room], (by repeat (first | with_reducible exact Below.refl _ _ | refine Below.setCell ?_ (by first | omega | (simp <;> omega) | (simp [World.setCell] <;> omega)) _ | refine Below.alloc ?_ (by first | omega | (simp <;> omega) | (simp [World.setCell] <;> omega)) _ | refine Below.drew ?_ | refine below_draws ?_ _ | exact Below.refl _ _))⟩
end Go.Proofs.Ytcmakcnkiekalab
