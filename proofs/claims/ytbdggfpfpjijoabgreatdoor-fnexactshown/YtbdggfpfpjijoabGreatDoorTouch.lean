import Derived.Test.YtbdggfpfpjijoabGreatDoorG6
import Derived.Test.YtbdggfpfpjijoabGreatDoorG13
namespace Go.Proofs.YtbdggfpfpjijoabGreatDoor
open Go.RowKit

/-- Two parts have a place in common; two bodies. -/
def Touch (x y : Pt) : Prop := x.piece = y.piece ∧ x.fr ≤ y.to ∧ y.fr ≤ x.to
def TouchL (ps qs : List Pt) : Prop := ∃ i j, ∃ (h : i < ps.length) (h' : j < qs.length), Touch ps[i] qs[j]

set_option maxRecDepth 100000 in
set_option maxHeartbeats 2000000 in
theorem touch_any (x y : Pt) (w : World) :
    Calls Tryz.prog 159 #[.agg #[.int .i64 x.piece, .int .i64 x.fr, .int .i64 x.to], .agg #[.int .i64 y.piece, .int .i64 y.fr, .int .i64 y.to]] w fun e w' => RetB (Touch x y) e ∧ Below w.heap.size w w' := by
  obtain ⟨xp, xf, xt⟩ := x
  obtain ⟨yp, yf, yt⟩ := y
  dsimp only
  by_cases h1 : xp = yp
  · subst h1
    by_cases h2 : xf ≤ yt
    · by_cases h3 : yf ≤ xt
      · go_enter Tryz.func159, Tryz.ntmps159
        go_wp2
        go_ret
        exact ⟨retB_true ⟨rfl, h2, h3⟩, (by repeat (first | with_reducible exact Below.refl _ _ | refine Below.setCell ?_ (by first | omega | (simp <;> omega) | (simp [World.setCell] <;> omega)) _ | refine Below.alloc ?_ (by first | omega | (simp <;> omega) | (simp [World.setCell] <;> omega)) _ | refine Below.drew ?_ | refine below_draws ?_ _ | exact Below.refl _ _))⟩
      · go_enter Tryz.func159, Tryz.ntmps159
        go_wp2
        go_ret
        exact ⟨retB_false fun h => by have := h.2.2; dsimp only at this; omega, (by repeat (first | with_reducible exact Below.refl _ _ | refine Below.setCell ?_ (by first | omega | (simp <;> omega) | (simp [World.setCell] <;> omega)) _ | refine Below.alloc ?_ (by first | omega | (simp <;> omega) | (simp [World.setCell] <;> omega)) _ | refine Below.drew ?_ | refine below_draws ?_ _ | exact Below.refl _ _))⟩
    · go_enter Tryz.func159, Tryz.ntmps159
      go_wp2
      go_ret
      exact ⟨retB_false fun h => by have := h.2.1; dsimp only at this; omega, (by repeat (first | with_reducible exact Below.refl _ _ | refine Below.setCell ?_ (by first | omega | (simp <;> omega) | (simp [World.setCell] <;> omega)) _ | refine Below.alloc ?_ (by first | omega | (simp <;> omega) | (simp [World.setCell] <;> omega)) _ | refine Below.drew ?_ | refine below_draws ?_ _ | exact Below.refl _ _))⟩
  · have h1b := ne_beq h1
    have H1 := hide h1
    clear h1
    go_enter Tryz.func159, Tryz.ntmps159
    go_wp2
    go_ret
    exact ⟨retB_false fun h => unhide H1 h.1, (by repeat (first | with_reducible exact Below.refl _ _ | refine Below.setCell ?_ (by first | omega | (simp <;> omega) | (simp [World.setCell] <;> omega)) _ | refine Below.alloc ?_ (by first | omega | (simp <;> omega) | (simp [World.setCell] <;> omega)) _ | refine Below.drew ?_ | refine below_draws ?_ _ | exact Below.refl _ _))⟩



set_option maxRecDepth 100000 in
set_option maxHeartbeats 4000000 in
theorem l2touch_any (a b : Option Addr) (ca cb : Nat) (ps qs : List Pt) (w : World) {L L' : Nat} (hp : PtsAt L w a ps) (hq : PtsAt L' w b qs) (hl : ps.length ≤ 1048576) (hl' : qs.length ≤ 1048576) :
    Calls Tryz.prog 61 #[.slice a ps.length ca, .slice b qs.length cb] w fun e w' => RetB (TouchL ps qs) e ∧ Below w.heap.size w w' := by
  go_enter Tryz.func61, Tryz.ntmps61
  go_wp2_with fail
  go_loopw [11] (fun z wr => ∃ k : Nat, k ≤ ps.length ∧ z = .int .i64 k ∧ (∀ i j (h : i < ps.length) (h' : j < qs.length), i < k → ¬ Touch ps[i] qs[j]) ∧ Below w.heap.size w wr) (fun z _ => ps.length - (intOf z).toNat)
  case atStart => exact ⟨0, Nat.zero_le _, rfl, fun i j h h' h0 => by omega, Below.refl _ _⟩
  case round =>
    obtain ⟨k, hk, rfl, hno, hb⟩ := hrel
    have HNO := hide hno
    clear hno
    by_cases hlt : k < ps.length
    · obtain ⟨pb, poff, rfl, hpb, p0, p1, p2⟩ := hp.below hb k hlt
      have hpb2 := hpb.2
      go_wp2_with fail
      go_loopw [17] (fun z wq => ∃ m : Nat, m ≤ qs.length ∧ z = .int .i64 m ∧ (∀ j (h' : j < qs.length), j < m → ¬ Touch ps[k] qs[j]) ∧ Boxed wq wr.heap.size [.int .i64 ps[k].piece, .int .i64 ps[k].fr, .int .i64 ps[k].to] ∧ Below wr.heap.size wr wq) (fun z _ => qs.length - (intOf z).toNat)
      case atStart => exact ⟨0, Nat.zero_le _, rfl, fun j h' h0 => by omega, boxed_alloc _ _ _, (by repeat (first | with_reducible exact Below.refl _ _ | refine Below.setCell ?_ (by first | omega | (simp <;> omega) | (simp [World.setCell] <;> omega)) _ | refine Below.alloc ?_ (by first | omega | (simp <;> omega) | (simp [World.setCell] <;> omega)) _ | refine Below.drew ?_ | refine below_draws ?_ _ | exact Below.refl _ _))⟩
      case round =>
        clear p0 p1 p2
        obtain ⟨m, hm, rfl, hno2, hBx, hb2⟩ := hrel
        have HNO2 := hide hno2
        clear hno2
        have hbw2 := below_then hb hb2
        by_cases hlt2 : m < qs.length
        · obtain ⟨qb, qoff, rfl, hqb, q0, q1, q2⟩ := hq.below hbw2 m hlt2
          have hqb2 := hqb.2
          have x0 := hBx.2.1 0 _ rfl
          have x1 := hBx.2.1 1 _ rfl
          have x2 := hBx.2.1 2 _ rfl
          have xl := hBx.1
          have hstep : ¬ Touch ps[k] qs[m] → ∀ j (h' : j < qs.length), j < m + 1 → ¬ Touch ps[k] qs[j] := fun hn j h' h0 => by
            by_cases e : j = m
            · subst e
              exact hn
            · exact unhide HNO2 j h' (by omega)
          generalize hX : ps[k] = X at *
          have HX := hide hX
          clear hX
          generalize hY : qs[m] = Y at *
          have HY := hide hY
          clear hY
          obtain ⟨xp, xf, xt⟩ := X
          obtain ⟨yp, yf, yt⟩ := Y
          have HSTEP := hide hstep
          clear hstep HNO2
          dsimp only at x0 x1 x2 q0 q1 q2
          by_cases h1 : xp = yp
          · subst h1
            by_cases h2 : xf ≤ yt
            · by_cases h3 : yf ≤ xt
              · go_wp2
                go_ret
                exact ⟨retB_true ⟨k, m, hlt, hlt2, by rw [unhide HX, unhide HY]; exact ⟨rfl, h2, h3⟩⟩, below_then hbw2 (by repeat (first | with_reducible exact Below.refl _ _ | refine Below.setCell ?_ (by first | omega | (simp <;> omega) | (simp [World.setCell] <;> omega)) _ | refine Below.alloc ?_ (by first | omega | (simp <;> omega) | (simp [World.setCell] <;> omega)) _ | refine Below.drew ?_ | refine below_draws ?_ _ | exact Below.refl _ _))⟩
              · go_wp2
                refine ⟨⟨m + 1, by omega, by go_num, unhide HSTEP fun h => h3 h.2.2, hBx.below (by repeat (first | with_reducible exact Below.refl _ _ | refine Below.setCell ?_ (by first | omega | (simp <;> omega) | (simp [World.setCell] <;> omega)) _ | refine Below.alloc ?_ (by first | omega | (simp <;> omega) | (simp [World.setCell] <;> omega)) _ | refine Below.drew ?_ | refine below_draws ?_ _ | exact Below.refl _ _)), below_then hb2 (by repeat (first | with_reducible exact Below.refl _ _ | refine Below.setCell ?_ (by first | omega | (simp <;> omega) | (simp [World.setCell] <;> omega)) _ | refine Below.alloc ?_ (by first | omega | (simp <;> omega) | (simp [World.setCell] <;> omega)) _ | refine Below.drew ?_ | refine below_draws ?_ _ | exact Below.refl _ _))⟩, by simp [intOf]; omega⟩
            · go_wp2
              refine ⟨⟨m + 1, by omega, by go_num, unhide HSTEP fun h => h2 h.2.1, hBx.below (by repeat (first | with_reducible exact Below.refl _ _ | refine Below.setCell ?_ (by first | omega | (simp <;> omega) | (simp [World.setCell] <;> omega)) _ | refine Below.alloc ?_ (by first | omega | (simp <;> omega) | (simp [World.setCell] <;> omega)) _ | refine Below.drew ?_ | refine below_draws ?_ _ | exact Below.refl _ _)), below_then hb2 (by repeat (first | with_reducible exact Below.refl _ _ | refine Below.setCell ?_ (by first | omega | (simp <;> omega) | (simp [World.setCell] <;> omega)) _ | refine Below.alloc ?_ (by first | omega | (simp <;> omega) | (simp [World.setCell] <;> omega)) _ | refine Below.drew ?_ | refine below_draws ?_ _ | exact Below.refl _ _))⟩, by simp [intOf]; omega⟩
          · have h1b := ne_beq h1
            have H1 := hide h1
            clear h1
            go_wp2
            refine ⟨⟨m + 1, by omega, by go_num, unhide HSTEP fun h => unhide H1 h.1, hBx.below (by repeat (first | with_reducible exact Below.refl _ _ | refine Below.setCell ?_ (by first | omega | (simp <;> omega) | (simp [World.setCell] <;> omega)) _ | refine Below.alloc ?_ (by first | omega | (simp <;> omega) | (simp [World.setCell] <;> omega)) _ | refine Below.drew ?_ | refine below_draws ?_ _ | exact Below.refl _ _)), below_then hb2 (by repeat (first | with_reducible exact Below.refl _ _ | refine Below.setCell ?_ (by first | omega | (simp <;> omega) | (simp [World.setCell] <;> omega)) _ | refine Below.alloc ?_ (by first | omega | (simp <;> omega) | (simp [World.setCell] <;> omega)) _ | refine Below.drew ?_ | refine below_draws ?_ _ | exact Below.refl _ _))⟩, by simp [intOf]; omega⟩
        · go_wp2
          refine ⟨⟨k + 1, by omega, by go_num, fun i j h h' h0 => ?_, hbw2⟩, by simp [intOf]; omega⟩
          by_cases e : i = k
          · subst e
            exact unhide HNO2 j h' (by omega)
          · exact unhide HNO i j h h' (by omega)
    · go_wp2
      go_ret
      exact ⟨retB_false fun ⟨i, j, h, h', ht⟩ => unhide HNO i j h h' (by omega) ht, hb⟩

end Go.Proofs.YtbdggfpfpjijoabGreatDoor

