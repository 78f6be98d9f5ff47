import Derived.Test.YtcmakcnkiekalabKt1
import Derived.Test.YtcmakcnkiekalabPlain3
import Derived.Deep.RegionHeld3
import Derived.Test.YtcmakcnkiekalabGrow
namespace Go.Proofs.Ytcmakcnkiekalab
open Go.RowKit

set_option maxHeartbeats 400000 in
theorem step_any (s : Sp) (w : World) :
    Calls Try.prog 105 #[.agg #[.int .i64 s.piece, .int .i64 s.at_, .int .i64 s.way]] w fun e w' => e = .returned (.agg #[.int .i64 s.piece, .int .i64 s.way]) ∧ Below w.heap.size w w' := by
  go_enter Try.func105, Try.ntmps105
  go_wp2
  all_goals exact bodyPost_ret (v := .agg #[.int .i64 s.piece, .int .i64 s.way]) (by simp [results, Try.results105, go_sem]) rfl ⟨rfl, (by repeat (first | with_reducible exact Below.refl _ _ | refine Below.setCell ?_ (by first | omega | (simp <;> omega) | (simp [World.setCell] <;> omega)) _ | refine Below.alloc ?_ (by first | omega | (simp <;> omega) | (simp [World.setCell] <;> omega)) _ | refine Below.drew ?_ | refine below_draws ?_ _ | exact Below.refl _ _))⟩

set_option maxHeartbeats 400000 in
theorem stepTurned_any (s : St) (w : World) (hy : s.way = 1 ∨ s.way = -1) :
    Calls Try.prog 146 #[.agg #[.int .i64 s.piece, .int .i64 s.way]] w fun e w' => e = .returned (.agg #[.int .i64 s.piece, .int .i64 (-s.way)]) ∧ Below w.heap.size w w' := by
  have hw : IntKind.i64.wrap (-s.way) = -s.way := wrap_small (by omega) (by omega)
  go_enter Try.func146, Try.ntmps146
  go_wp2
  all_goals exact bodyPost_ret (v := .agg #[.int .i64 s.piece, .int .i64 (-s.way)]) (by simp [results, Try.results146, go_sem]) rfl ⟨rfl, (by repeat (first | with_reducible exact Below.refl _ _ | refine Below.setCell ?_ (by first | omega | (simp <;> omega) | (simp [World.setCell] <;> omega)) _ | refine Below.alloc ?_ (by first | omega | (simp <;> omega) | (simp [World.setCell] <;> omega)) _ | refine Below.drew ?_ | refine below_draws ?_ _ | exact Below.refl _ _))⟩

set_option maxHeartbeats 400000 in
theorem endAhead_any (s : St) (w : World) :
    Calls Try.prog 101 #[.agg #[.int .i64 s.piece, .int .i64 s.way]] w fun e w' => e = .returned (hd s.piece s.way).val ∧ Below w.heap.size w w' := by
  by_cases hy : s.way = 1
  · have hyb : (s.way == 1) = true := by simpa using hy
    have HY := hide hy
    clear hy
    go_enter Try.func101, Try.ntmps101
    go_wp2
    all_goals exact bodyPost_ret (v := .agg #[.int .i64 s.piece, .int .i64 1]) (by simp [results, Try.results101, go_sem]) rfl ⟨by rw [unhide HY]; rfl, (by repeat (first | with_reducible exact Below.refl _ _ | refine Below.setCell ?_ (by first | omega | (simp <;> omega) | (simp [World.setCell] <;> omega)) _ | refine Below.alloc ?_ (by first | omega | (simp <;> omega) | (simp [World.setCell] <;> omega)) _ | refine Below.drew ?_ | refine below_draws ?_ _ | exact Below.refl _ _))⟩
  · have hyb : (s.way == 1) = false := ne_beq hy
    have HY := hide hy
    clear hy
    go_enter Try.func101, Try.ntmps101
    go_wp2
    all_goals exact bodyPost_ret (v := .agg #[.int .i64 s.piece, .int .i64 0]) (by simp [results, Try.results101, go_sem]) rfl ⟨by simp [hd, Ed.val, unhide HY], (by repeat (first | with_reducible exact Below.refl _ _ | refine Below.setCell ?_ (by first | omega | (simp <;> omega) | (simp [World.setCell] <;> omega)) _ | refine Below.alloc ?_ (by first | omega | (simp <;> omega) | (simp [World.setCell] <;> omega)) _ | refine Below.drew ?_ | refine below_draws ?_ _ | exact Below.refl _ _))⟩

set_option maxHeartbeats 400000 in
theorem endBehind_any (s : St) (w : World) (hy : s.way = 1 ∨ s.way = -1) :
    Calls Try.prog 129 #[.agg #[.int .i64 s.piece, .int .i64 s.way]] w fun e w' => e = .returned (hd s.piece (-s.way)).val ∧ Below w.heap.size w w' := by
  go_enter Try.func129, Try.ntmps129
  go_wp2_with fail
  refine (stepTurned_any s _ hy).mono ?_
  rintro e w1 ⟨rfl, hb1⟩
  have hB : Boxed w1 (w.heap.size + 1) [.int .i64 0, .int .i64 0] := (boxedN _ _ _ (by simp)).below hb1
  go_wp2_with fail
  refine (endAhead_any ⟨s.piece, -s.way⟩ _).mono ?_
  rintro e w2 ⟨rfl, hb2⟩
  have hB2 := hB.below hb2
  have b0 := hB2.2.1 0 _ rfl
  have b1 := hB2.2.1 1 _ rfl
  have z1 := hB2.2.2
  have hbw := below_then (below_then ((by repeat (first | with_reducible exact Below.refl _ _ | refine Below.setCell ?_ (by first | omega | (simp <;> omega) | (simp [World.setCell] <;> omega)) _ | refine Below.alloc ?_ (by first | omega | (simp <;> omega) | (simp [World.setCell] <;> omega)) _ | refine Below.drew ?_ | refine below_draws ?_ _ | exact Below.refl _ _)) : Below w.heap.size w _) hb1) hb2
  unfold Ed.val
  go_wp2
  exact bodyPost_ret (v := (hd s.piece (-s.way)).val) (by simp [results, Try.results129, go_sem, b0, b1, Ed.val]) rfl ⟨rfl, (by repeat (first | with_reducible exact Below.refl _ _ | with_reducible exact hbw | refine Below.setCell ?_ (by first | omega | (simp <;> omega) | (simp [World.setCell] <;> omega)) _ | refine Below.alloc ?_ (by first | omega | (simp <;> omega) | (simp [World.setCell] <;> omega)) _ | refine Below.drew ?_ | refine below_draws ?_ _ | exact hbw | exact Below.refl _ _))⟩

/-- A piece on which one looks to this end of it. -/
def twd (e : Ed) : St := ⟨e.piece, if e.side = 1 then 1 else -1⟩



set_option maxHeartbeats 1000000 in
theorem isStep_any (kv : Value) (n : Nt) (s : St) (w : World) {L : Nat} (hk : TrkAt L w kv n) :
    Calls Try.prog 130 #[kv, .agg #[.int .i64 s.piece, .int .i64 s.way]] w fun e w' => RetB (StepOk n s) e ∧ Below w.heap.size w w' := by
  obtain ⟨a, ca, sh, csh, st, cst, rfl, hp, hsh, hsd⟩ := hk
  obtain ⟨p, y⟩ := s
  dsimp only
  by_cases h0 : 0 ≤ p
  rotate_left
  · have HN := hide h0
    have h0b : decide (0 ≤ p) = false := by simpa using h0
    clear h0
    go_enter Try.func130, Try.ntmps130
    go_wp2
    go_ret
    exact ⟨retB_false fun h => by have := h.1.1; dsimp only at this; have h2 := unhide HN; omega, (by repeat (first | with_reducible exact Below.refl _ _ | refine Below.setCell ?_ (by first | omega | (simp <;> omega) | (simp [World.setCell] <;> omega)) _ | refine Below.alloc ?_ (by first | omega | (simp <;> omega) | (simp [World.setCell] <;> omega)) _ | refine Below.drew ?_ | refine below_draws ?_ _ | exact Below.refl _ _))⟩
  by_cases h1 : p < n.pieces.length
  rotate_left
  · have HN := hide h1
    have h1b : decide (p < (n.pieces.length : Int)) = false := by simpa using h1
    clear h1
    go_enter Try.func130, Try.ntmps130
    go_wp2
    go_ret
    exact ⟨retB_false fun h => by have := h.1.2; dsimp only at this; have h2 := unhide HN; omega, (by repeat (first | with_reducible exact Below.refl _ _ | refine Below.setCell ?_ (by first | omega | (simp <;> omega) | (simp [World.setCell] <;> omega)) _ | refine Below.alloc ?_ (by first | omega | (simp <;> omega) | (simp [World.setCell] <;> omega)) _ | refine Below.drew ?_ | refine below_draws ?_ _ | exact Below.refl _ _))⟩
  by_cases h2 : y = 1
  · have HN := hide h2
    have h2b : (y == 1) = true := by simpa using h2
    clear h2
    go_enter Try.func130, Try.ntmps130
    go_wp2
    go_ret
    exact ⟨retB_true ⟨⟨h0, h1⟩, Or.inl (unhide HN)⟩, (by repeat (first | with_reducible exact Below.refl _ _ | refine Below.setCell ?_ (by first | omega | (simp <;> omega) | (simp [World.setCell] <;> omega)) _ | refine Below.alloc ?_ (by first | omega | (simp <;> omega) | (simp [World.setCell] <;> omega)) _ | refine Below.drew ?_ | refine below_draws ?_ _ | exact Below.refl _ _))⟩
  · have HN := hide h2
    have h2b : (y == 1) = false := ne_beq h2
    clear h2
    go_enter Try.func130, Try.ntmps130
    go_wp2
    go_ret
    refine ⟨retB_of ⟨fun h => ⟨⟨h0, h1⟩, Or.inr (by simpa using h)⟩, fun h => ?_⟩, (by repeat (first | with_reducible exact Below.refl _ _ | refine Below.setCell ?_ (by first | omega | (simp <;> omega) | (simp [World.setCell] <;> omega)) _ | refine Below.alloc ?_ (by first | omega | (simp <;> omega) | (simp [World.setCell] <;> omega)) _ | refine Below.drew ?_ | refine below_draws ?_ _ | exact Below.refl _ _))⟩
    rcases h.2 with h | h
    · exact absurd h (unhide HN)
    · simpa using h

theorem isStep_T (kv : Value) (n : Nt) (s : St) (w : World) {L : Nat} (hk : TrkAt L w kv n) (h : StepOk n s) :
    Calls Try.prog 130 #[kv, .agg #[.int .i64 s.piece, .int .i64 s.way]] w fun e w' => e = .returned (.bool true) ∧ Below w.heap.size w w' :=
  (isStep_any kv n s w hk).mono fun e w' ⟨he, hw⟩ => ⟨by rcases he with ⟨he, _⟩ | ⟨_, hn⟩; exact he; exact absurd h hn, hw⟩
theorem isStep_F (kv : Value) (n : Nt) (s : St) (w : World) {L : Nat} (hk : TrkAt L w kv n) (h : ¬ StepOk n s) :
    Calls Try.prog 130 #[kv, .agg #[.int .i64 s.piece, .int .i64 s.way]] w fun e w' => e = .returned (.bool false) ∧ Below w.heap.size w w' :=
  (isStep_any kv n s w hk).mono fun e w' ⟨he, hw⟩ => ⟨by rcases he with ⟨_, hn⟩ | ⟨he, _⟩; exact absurd hn h; exact he, hw⟩

set_option maxHeartbeats 2000000 in
theorem isSpot_any (kv : Value) (n : Nt) (s : Sp) (w : World) {L : Nat} (hk : TrkAt L w kv n) :
    Calls Try.prog 103 #[kv, .agg #[.int .i64 s.piece, .int .i64 s.at_, .int .i64 s.way]] w fun e w' => RetB (SpotOk n s) e ∧ Below w.heap.size w w' := by
  have hkk := hk
  obtain ⟨a, ca, sh, csh, st, cst, rfl, hp, hsh, hsd⟩ := hk
  obtain ⟨p, q, y⟩ := s
  dsimp only
  by_cases hS : StepOk n ⟨p, y⟩
  rotate_left
  · have HN := hide hS
    clear hS
    go_enter Try.func103, Try.ntmps103
    go_wp2_with fail
    refine wp_region_grown (by kernel_rfl) (by kernel_rfl) (fun hgn hgc => ?_)
    repeat (go_big_quiet_step (first
      | (go_at_call 105; rename_i g; exact g.call (step_any ⟨p, q, y⟩ _))
      | (go_at_call 130; rename_i g; exact g.call (isStep_F _ n ⟨p, y⟩ _ (hkk.below (below_then (by repeat (first | with_reducible exact Below.refl _ _ | refine Below.setCell ?_ (by first | omega | (simp <;> omega) | (simp [World.setCell] <;> omega)) _ | refine Below.alloc ?_ (by first | omega | (simp <;> omega) | (simp [World.setCell] <;> omega)) _ | refine Below.drew ?_ | refine below_draws ?_ _ | exact Below.refl _ _)) g.below)) (unhide HN)))))
    refine wpQuiet_nil ?_
    intro wq hwq
    have hbq : Below w.heap.size w wq := by obtain ⟨g, rfl⟩ := hwq; exact below_then (by repeat (first | with_reducible exact Below.refl _ _ | refine Below.setCell ?_ (by first | omega | (simp <;> omega) | (simp [World.setCell] <;> omega)) _ | refine Below.alloc ?_ (by first | omega | (simp <;> omega) | (simp [World.setCell] <;> omega)) _ | refine Below.drew ?_ | refine below_draws ?_ _ | exact Below.refl _ _)) g.below
    clear hwq hgc hgn
    go_wp2
    go_ret
    exact ⟨retB_false fun h => unhide HN ⟨h.1, h.2.1⟩, hbq⟩
  have HS := hide hS
  have hS' := hS
  obtain ⟨⟨h0, h1⟩, hy⟩ := hS
  dsimp only at h0 h1 hy
  obtain ⟨b, off, rfl, hb, c1⟩ := hp.len h0 h1
  obtain ⟨pn, rfl⟩ := Int.eq_ofNat_of_zero_le h0
  simp only [Int.toNat_natCast] at c1
  have hb2 : b < w.heap.size + 1 + 1 := by omega
  have HY := hide hy
  clear hy hS'
  by_cases h3 : 0 ≤ q
  rotate_left
  · have h3b : decide (0 ≤ q) = false := by simpa using h3
    have HQ := hide h3
    clear h3
    go_enter Try.func103, Try.ntmps103
    go_wp2_with fail
    refine wp_region_grown (by kernel_rfl) (by kernel_rfl) (fun hgn hgc => ?_)
    repeat (go_big_quiet_step (first
      | (go_at_call 105; rename_i g; exact g.call (step_any ⟨pn, q, y⟩ _))
      | (go_at_call 130; rename_i g; exact g.call (isStep_T _ n ⟨pn, y⟩ _ (hkk.below (below_then (by repeat (first | with_reducible exact Below.refl _ _ | refine Below.setCell ?_ (by first | omega | (simp <;> omega) | (simp [World.setCell] <;> omega)) _ | refine Below.alloc ?_ (by first | omega | (simp <;> omega) | (simp [World.setCell] <;> omega)) _ | refine Below.drew ?_ | refine below_draws ?_ _ | exact Below.refl _ _)) g.below)) (unhide HS)))))
    refine wpQuiet_nil ?_
    intro wq hwq
    have hbq : Below w.heap.size w wq := by obtain ⟨g, rfl⟩ := hwq; exact below_then (by repeat (first | with_reducible exact Below.refl _ _ | refine Below.setCell ?_ (by first | omega | (simp <;> omega) | (simp [World.setCell] <;> omega)) _ | refine Below.alloc ?_ (by first | omega | (simp <;> omega) | (simp [World.setCell] <;> omega)) _ | refine Below.drew ?_ | refine below_draws ?_ _ | exact Below.refl _ _)) g.below
    clear hwq hgc hgn
    go_wp2
    go_ret
    exact ⟨retB_false fun h => by have := h.2.2.1; have h2 := unhide HQ; dsimp only at this; omega, hbq⟩
  · have h3b : decide (0 ≤ q) = true := by simpa using h3
    go_enter Try.func103, Try.ntmps103
    go_wp2_with fail
    refine wp_region_grown (by kernel_rfl) (by kernel_rfl) (fun hgn hgc => ?_)
    repeat (go_big_quiet_step (first
      | (go_at_call 105; rename_i g; exact g.call (step_any ⟨pn, q, y⟩ _))
      | (go_at_call 130; rename_i g; exact g.call (isStep_T _ n ⟨pn, y⟩ _ (hkk.below (below_then (by repeat (first | with_reducible exact Below.refl _ _ | refine Below.setCell ?_ (by first | omega | (simp <;> omega) | (simp [World.setCell] <;> omega)) _ | refine Below.alloc ?_ (by first | omega | (simp <;> omega) | (simp [World.setCell] <;> omega)) _ | refine Below.drew ?_ | refine below_draws ?_ _ | exact Below.refl _ _)) g.below)) (unhide HS)))))
    refine wpQuiet_nil ?_
    intro wq hwq
    have hbq : Below w.heap.size w wq := by obtain ⟨g, rfl⟩ := hwq; exact below_then (by repeat (first | with_reducible exact Below.refl _ _ | refine Below.setCell ?_ (by first | omega | (simp <;> omega) | (simp [World.setCell] <;> omega)) _ | refine Below.alloc ?_ (by first | omega | (simp <;> omega) | (simp [World.setCell] <;> omega)) _ | refine Below.drew ?_ | refine below_draws ?_ _ | exact Below.refl _ _)) g.below
    clear hwq hgc hgn
    go_wp2
    go_ret
    exact ⟨retB_of ⟨fun h => ⟨⟨h0, h1⟩, unhide HY, h3, by simpa using h⟩, fun h => by simpa using h.2.2.2⟩, hbq⟩

set_option maxHeartbeats 1000000 in
theorem kbehind_any (kv : Value) (n : Nt) (s : Sp) (w : World) {L : Nat} (hk : TrkAt L w kv n) (hs : SpotOk n s) (hlen : lenOf n s.piece ≤ 10000000) :
    Calls Try.prog 131 #[kv, .agg #[.int .i64 s.piece, .int .i64 s.at_, .int .i64 s.way]] w fun e w' => e = .returned (.int .i64 (behind n s)) ∧ Below w.heap.size w w' := by
  obtain ⟨a, ca, sh, csh, st, cst, rfl, hp, hsh, hsd⟩ := hk
  obtain ⟨p, q, y⟩ := s
  obtain ⟨⟨h0, h1⟩, hy, h2, h3⟩ := hs
  dsimp only at h0 h1 hy h2 h3 hlen ⊢
  obtain ⟨b, off, rfl, hb, c1⟩ := hp.len h0 h1
  obtain ⟨pn, rfl⟩ := Int.eq_ofNat_of_zero_le h0
  simp only [Int.toNat_natCast] at c1
  have hb2 : b < w.heap.size + 1 + 1 := by omega
  rcases hy with rfl | rfl
  · go_enter Try.func131, Try.ntmps131
    go_wp2
    go_ret
    exact ⟨by simp [behind, room]; omega, (by repeat (first | with_reducible exact Below.refl _ _ | refine Below.setCell ?_ (by first | omega | (simp <;> omega) | (simp [World.setCell] <;> omega)) _ | refine Below.alloc ?_ (by first | omega | (simp <;> omega) | (simp [World.setCell] <;> omega)) _ | refine Below.drew ?_ | refine below_draws ?_ _ | exact Below.refl _ _))⟩
  · have hwr := wrap_small (x := lenOf n pn - q) (by omega) (by omega)
    go_enter Try.func131, Try.ntmps131
    go_wp2_with fail
    go_quiet (fail)
    go_wp2
    go_ret
    exact ⟨by simp [behind, room], below_draws (by repeat (first | with_reducible exact Below.refl _ _ | refine Below.setCell ?_ (by first | omega | (simp <;> omega) | (simp [World.setCell] <;> omega)) _ | refine Below.alloc ?_ (by first | omega | (simp <;> omega) | (simp [World.setCell] <;> omega)) _ | refine Below.drew ?_ | refine below_draws ?_ _ | exact Below.refl _ _)) _⟩

set_option maxHeartbeats 1000000 in
theorem jointAt_any (kv : Value) (n : Nt) (e0 : Ed) (i k : Nat) (w : World) {L : Nat} (hk : TrkAt L w kv n) (hG : NetGood n) (he : EdFits n.pieces.length e0) (hst : StandsAt n.joints e0 i k) :
    Calls Try.prog 100 #[kv, .agg #[.int .i64 e0.piece, .int .i64 e0.side]] w fun e w' => e = .returned (.int .i64 i) ∧ Below w.heap.size w w' := by
  obtain ⟨a, ca, sh, csh, st, cst, rfl, hp, hsh, hsd⟩ := hk
  obtain ⟨p, s⟩ := e0
  obtain ⟨⟨h0, h1⟩, h2, h3⟩ := he
  dsimp only at h0 h1 h2 h3 ⊢
  obtain ⟨pn, rfl⟩ := Int.eq_ofNat_of_zero_le h0
  obtain ⟨sn, rfl⟩ := Int.eq_ofNat_of_zero_le h2
  obtain ⟨b, off, rfl, hb, hc⟩ := hsd pn (by omega)
  obtain ⟨i', k', c1, hst'⟩ := hc sn (by omega)
  obtain ⟨rfl, _⟩ := stands_unique (hG.once pn (by omega) sn (by omega)) hst' hst
  have hb2 : b < w.heap.size + 1 + 1 := by omega
  clear hc hst hst'
  go_enter Try.func100, Try.ntmps100
  go_wp2_with fail
  go_quiet (fail)
  go_wp2
  go_ret
  exact ⟨rfl, below_draws (by repeat (first | with_reducible exact Below.refl _ _ | refine Below.setCell ?_ (by first | omega | (simp <;> omega) | (simp [World.setCell] <;> omega)) _ | refine Below.alloc ?_ (by first | omega | (simp <;> omega) | (simp [World.setCell] <;> omega)) _ | refine Below.drew ?_ | refine below_draws ?_ _ | exact Below.refl _ _)) _⟩

end Go.Proofs.Ytcmakcnkiekalab
