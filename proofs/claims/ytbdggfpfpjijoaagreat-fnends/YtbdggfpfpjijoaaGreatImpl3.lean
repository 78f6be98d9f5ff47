import Derived.Test.YtbdggfpfpjijoaaGreatG7
namespace Go.Proofs.YtbdggfpfpjijoaaGreat
open Go.RowKit

/-- A method through an interface value, at its operation: the closed table tells which function. -/
theorem upon_method {P : Program} {o : Oper} {a : Act} {K : Act → World → Prop} {Q : Exit → Act → World → Prop} {n u f : Nat} {v : Value} {name : String} {w : World} {g : FuncId × Value → World → Result Next}
    (hm : (method n u v name).run P w = .ok (f, v) w) (h : Oper.upon P o a K Q (g (f, v) w)) : Oper.upon P o a K Q (((method n u v name).run P w).andThen g) := by
  rw [hm]
  exact h

def AllFit (np : Nat) (es : List Ed) : Prop := ∀ i (h : i < es.length), EdFits np es[i]

set_option maxRecDepth 100000 in
set_option maxHeartbeats 1000000 in
theorem endsFit_any (v : Value) (kd : Int) (es : List Ed) (np : Nat) (w : World) (hv : ShV v kd es) :
    Calls Tryz.prog 179 #[v, .int .i64 np] w fun e w' => RetB (AllFit np es) e ∧ Below w.heap.size w w' := by
  rcases hv with ⟨a, rfl, rfl, rfl⟩ | ⟨a, b, rfl, rfl, rfl⟩ | ⟨a, b, c, rfl, rfl, rfl⟩ | ⟨a, b, c, d, rfl, rfl, rfl⟩
  · go_enter Tryz.func179, Tryz.ntmps179
    go_wp2_with fail
    refine upon_method (f := 221) (by kernel_rfl) ?_
    go_wp2_with fail
    refine (ends1_any a _).mono ?_
    rintro e w1 ⟨B, rfl, hE, hb1⟩
    go_wp2_with fail
    go_loopw [10] (fun x wr => ∃ k : Nat, k ≤ 1 ∧ x = .int .i64 k ∧ (∀ j (h : j < ([a] : List Ed).length), j < k → EdFits np ([a] : List Ed)[j]) ∧ Below w1.heap.size w1 wr) (fun x _ => 1 - (intOf x).toNat)
    case atStart => exact ⟨0, Nat.zero_le _, rfl, fun j h h' => by omega, Below.refl _ _⟩
    case round =>
      obtain ⟨k, hk, rfl, hall, hb⟩ := hrel
      have hsz := hb.size
      by_cases hlt : k < 1
      · obtain ⟨B', off', hq, hbs, x0, y0⟩ := hE.below hb k hlt
        obtain ⟨rfl, rfl⟩ : B = B' ∧ 0 = off' := by simpa using hq
        generalize hx : ([a] : List Ed)[k] = ed at *
        have HX := hide hx
        clear hx hq
        simp only [Nat.zero_add] at x0 y0
        by_cases h1 : ed.piece < 0
        · go_wp2
          go_ret
          exact ⟨retB_false fun h => by have := h k hlt; rw [unhide HX] at this; unfold EdFits at this; omega, below_then hb1 (by repeat (first | with_reducible exact Below.refl _ _ | with_reducible exact hb | refine bwS ?_ | refine bwA ?_ | refine Below.drew ?_ | refine below_draws ?_ _ | exact hb | exact Below.refl _ _))⟩
        by_cases h2 : (np : Int) ≤ ed.piece
        · go_wp2
          go_ret
          exact ⟨retB_false fun h => by have := h k hlt; rw [unhide HX] at this; unfold EdFits at this; omega, below_then hb1 (by repeat (first | with_reducible exact Below.refl _ _ | with_reducible exact hb | refine bwS ?_ | refine bwA ?_ | refine Below.drew ?_ | refine below_draws ?_ _ | exact hb | exact Below.refl _ _))⟩
        by_cases h3 : ed.side < 0
        · go_wp2
          go_ret
          exact ⟨retB_false fun h => by have := h k hlt; rw [unhide HX] at this; unfold EdFits at this; omega, below_then hb1 (by repeat (first | with_reducible exact Below.refl _ _ | with_reducible exact hb | refine bwS ?_ | refine bwA ?_ | refine Below.drew ?_ | refine below_draws ?_ _ | exact hb | exact Below.refl _ _))⟩
        by_cases h4 : 1 < ed.side
        · go_wp2
          go_ret
          exact ⟨retB_false fun h => by have := h k hlt; rw [unhide HX] at this; unfold EdFits at this; omega, below_then hb1 (by repeat (first | with_reducible exact Below.refl _ _ | with_reducible exact hb | refine bwS ?_ | refine bwA ?_ | refine Below.drew ?_ | refine below_draws ?_ _ | exact hb | exact Below.refl _ _))⟩
        go_wp2
        refine ⟨⟨k + 1, by omega, by go_num, fun j h h' => ?_, (by repeat (first | with_reducible exact Below.refl _ _ | with_reducible exact hb | refine bwS ?_ | refine bwA ?_ | refine Below.drew ?_ | refine below_draws ?_ _ | exact hb | exact Below.refl _ _))⟩, by simp [intOf]; omega⟩
        by_cases e : j = k
        · subst e
          rw [unhide HX]
          exact ⟨⟨by omega, by omega⟩, by omega, by omega⟩
        · exact hall j h (by omega)
      · go_wp2
        go_ret
        exact ⟨retB_true fun i h => hall i h (by simp at h; omega), below_then hb1 hb⟩
  · go_enter Tryz.func179, Tryz.ntmps179
    go_wp2_with fail
    refine upon_method (f := 222) (by kernel_rfl) ?_
    go_wp2_with fail
    refine (ends2_any a b _).mono ?_
    rintro e w1 ⟨B, rfl, hE, hb1⟩
    go_wp2_with fail
    go_loopw [10] (fun x wr => ∃ k : Nat, k ≤ 2 ∧ x = .int .i64 k ∧ (∀ j (h : j < ([a, b] : List Ed).length), j < k → EdFits np ([a, b] : List Ed)[j]) ∧ Below w1.heap.size w1 wr) (fun x _ => 2 - (intOf x).toNat)
    case atStart => exact ⟨0, Nat.zero_le _, rfl, fun j h h' => by omega, Below.refl _ _⟩
    case round =>
      obtain ⟨k, hk, rfl, hall, hb⟩ := hrel
      have hsz := hb.size
      by_cases hlt : k < 2
      · obtain ⟨B', off', hq, hbs, x0, y0⟩ := hE.below hb k hlt
        obtain ⟨rfl, rfl⟩ : B = B' ∧ 0 = off' := by simpa using hq
        generalize hx : ([a, b] : List Ed)[k] = ed at *
        have HX := hide hx
        clear hx hq
        simp only [Nat.zero_add] at x0 y0
        by_cases h1 : ed.piece < 0
        · go_wp2
          go_ret
          exact ⟨retB_false fun h => by have := h k hlt; rw [unhide HX] at this; unfold EdFits at this; omega, below_then hb1 (by repeat (first | with_reducible exact Below.refl _ _ | with_reducible exact hb | refine bwS ?_ | refine bwA ?_ | refine Below.drew ?_ | refine below_draws ?_ _ | exact hb | exact Below.refl _ _))⟩
        by_cases h2 : (np : Int) ≤ ed.piece
        · go_wp2
          go_ret
          exact ⟨retB_false fun h => by have := h k hlt; rw [unhide HX] at this; unfold EdFits at this; omega, below_then hb1 (by repeat (first | with_reducible exact Below.refl _ _ | with_reducible exact hb | refine bwS ?_ | refine bwA ?_ | refine Below.drew ?_ | refine below_draws ?_ _ | exact hb | exact Below.refl _ _))⟩
        by_cases h3 : ed.side < 0
        · go_wp2
          go_ret
          exact ⟨retB_false fun h => by have := h k hlt; rw [unhide HX] at this; unfold EdFits at this; omega, below_then hb1 (by repeat (first | with_reducible exact Below.refl _ _ | with_reducible exact hb | refine bwS ?_ | refine bwA ?_ | refine Below.drew ?_ | refine below_draws ?_ _ | exact hb | exact Below.refl _ _))⟩
        by_cases h4 : 1 < ed.side
        · go_wp2
          go_ret
          exact ⟨retB_false fun h => by have := h k hlt; rw [unhide HX] at this; unfold EdFits at this; omega, below_then hb1 (by repeat (first | with_reducible exact Below.refl _ _ | with_reducible exact hb | refine bwS ?_ | refine bwA ?_ | refine Below.drew ?_ | refine below_draws ?_ _ | exact hb | exact Below.refl _ _))⟩
        go_wp2
        refine ⟨⟨k + 1, by omega, by go_num, fun j h h' => ?_, (by repeat (first | with_reducible exact Below.refl _ _ | with_reducible exact hb | refine bwS ?_ | refine bwA ?_ | refine Below.drew ?_ | refine below_draws ?_ _ | exact hb | exact Below.refl _ _))⟩, by simp [intOf]; omega⟩
        by_cases e : j = k
        · subst e
          rw [unhide HX]
          exact ⟨⟨by omega, by omega⟩, by omega, by omega⟩
        · exact hall j h (by omega)
      · go_wp2
        go_ret
        exact ⟨retB_true fun i h => hall i h (by simp at h; omega), below_then hb1 hb⟩
  · go_enter Tryz.func179, Tryz.ntmps179
    go_wp2_with fail
    refine upon_method (f := 220) (by kernel_rfl) ?_
    go_wp2_with fail
    refine (ends3_any a b c _).mono ?_
    rintro e w1 ⟨B, rfl, hE, hb1⟩
    go_wp2_with fail
    go_loopw [10] (fun x wr => ∃ k : Nat, k ≤ 3 ∧ x = .int .i64 k ∧ (∀ j (h : j < ([a, b, c] : List Ed).length), j < k → EdFits np ([a, b, c] : List Ed)[j]) ∧ Below w1.heap.size w1 wr) (fun x _ => 3 - (intOf x).toNat)
    case atStart => exact ⟨0, Nat.zero_le _, rfl, fun j h h' => by omega, Below.refl _ _⟩
    case round =>
      obtain ⟨k, hk, rfl, hall, hb⟩ := hrel
      have hsz := hb.size
      by_cases hlt : k < 3
      · obtain ⟨B', off', hq, hbs, x0, y0⟩ := hE.below hb k hlt
        obtain ⟨rfl, rfl⟩ : B = B' ∧ 0 = off' := by simpa using hq
        generalize hx : ([a, b, c] : List Ed)[k] = ed at *
        have HX := hide hx
        clear hx hq
        simp only [Nat.zero_add] at x0 y0
        by_cases h1 : ed.piece < 0
        · go_wp2
          go_ret
          exact ⟨retB_false fun h => by have := h k hlt; rw [unhide HX] at this; unfold EdFits at this; omega, below_then hb1 (by repeat (first | with_reducible exact Below.refl _ _ | with_reducible exact hb | refine bwS ?_ | refine bwA ?_ | refine Below.drew ?_ | refine below_draws ?_ _ | exact hb | exact Below.refl _ _))⟩
        by_cases h2 : (np : Int) ≤ ed.piece
        · go_wp2
          go_ret
          exact ⟨retB_false fun h => by have := h k hlt; rw [unhide HX] at this; unfold EdFits at this; omega, below_then hb1 (by repeat (first | with_reducible exact Below.refl _ _ | with_reducible exact hb | refine bwS ?_ | refine bwA ?_ | refine Below.drew ?_ | refine below_draws ?_ _ | exact hb | exact Below.refl _ _))⟩
        by_cases h3 : ed.side < 0
        · go_wp2
          go_ret
          exact ⟨retB_false fun h => by have := h k hlt; rw [unhide HX] at this; unfold EdFits at this; omega, below_then hb1 (by repeat (first | with_reducible exact Below.refl _ _ | with_reducible exact hb | refine bwS ?_ | refine bwA ?_ | refine Below.drew ?_ | refine below_draws ?_ _ | exact hb | exact Below.refl _ _))⟩
        by_cases h4 : 1 < ed.side
        · go_wp2
          go_ret
          exact ⟨retB_false fun h => by have := h k hlt; rw [unhide HX] at this; unfold EdFits at this; omega, below_then hb1 (by repeat (first | with_reducible exact Below.refl _ _ | with_reducible exact hb | refine bwS ?_ | refine bwA ?_ | refine Below.drew ?_ | refine below_draws ?_ _ | exact hb | exact Below.refl _ _))⟩
        go_wp2
        refine ⟨⟨k + 1, by omega, by go_num, fun j h h' => ?_, (by repeat (first | with_reducible exact Below.refl _ _ | with_reducible exact hb | refine bwS ?_ | refine bwA ?_ | refine Below.drew ?_ | refine below_draws ?_ _ | exact hb | exact Below.refl _ _))⟩, by simp [intOf]; omega⟩
        by_cases e : j = k
        · subst e
          rw [unhide HX]
          exact ⟨⟨by omega, by omega⟩, by omega, by omega⟩
        · exact hall j h (by omega)
      · go_wp2
        go_ret
        exact ⟨retB_true fun i h => hall i h (by simp at h; omega), below_then hb1 hb⟩
  · go_enter Tryz.func179, Tryz.ntmps179
    go_wp2_with fail
    refine upon_method (f := 223) (by kernel_rfl) ?_
    go_wp2_with fail
    refine (ends4_any a b c d _).mono ?_
    rintro e w1 ⟨B, rfl, hE, hb1⟩
    go_wp2_with fail
    go_loopw [10] (fun x wr => ∃ k : Nat, k ≤ 4 ∧ x = .int .i64 k ∧ (∀ j (h : j < ([a, b, c, d] : List Ed).length), j < k → EdFits np ([a, b, c, d] : List Ed)[j]) ∧ Below w1.heap.size w1 wr) (fun x _ => 4 - (intOf x).toNat)
    case atStart => exact ⟨0, Nat.zero_le _, rfl, fun j h h' => by omega, Below.refl _ _⟩
    case round =>
      obtain ⟨k, hk, rfl, hall, hb⟩ := hrel
      have hsz := hb.size
      by_cases hlt : k < 4
      · obtain ⟨B', off', hq, hbs, x0, y0⟩ := hE.below hb k hlt
        obtain ⟨rfl, rfl⟩ : B = B' ∧ 0 = off' := by simpa using hq
        generalize hx : ([a, b, c, d] : List Ed)[k] = ed at *
        have HX := hide hx
        clear hx hq
        simp only [Nat.zero_add] at x0 y0
        by_cases h1 : ed.piece < 0
        · go_wp2
          go_ret
          exact ⟨retB_false fun h => by have := h k hlt; rw [unhide HX] at this; unfold EdFits at this; omega, below_then hb1 (by repeat (first | with_reducible exact Below.refl _ _ | with_reducible exact hb | refine bwS ?_ | refine bwA ?_ | refine Below.drew ?_ | refine below_draws ?_ _ | exact hb | exact Below.refl _ _))⟩
        by_cases h2 : (np : Int) ≤ ed.piece
        · go_wp2
          go_ret
          exact ⟨retB_false fun h => by have := h k hlt; rw [unhide HX] at this; unfold EdFits at this; omega, below_then hb1 (by repeat (first | with_reducible exact Below.refl _ _ | with_reducible exact hb | refine bwS ?_ | refine bwA ?_ | refine Below.drew ?_ | refine below_draws ?_ _ | exact hb | exact Below.refl _ _))⟩
        by_cases h3 : ed.side < 0
        · go_wp2
          go_ret
          exact ⟨retB_false fun h => by have := h k hlt; rw [unhide HX] at this; unfold EdFits at this; omega, below_then hb1 (by repeat (first | with_reducible exact Below.refl _ _ | with_reducible exact hb | refine bwS ?_ | refine bwA ?_ | refine Below.drew ?_ | refine below_draws ?_ _ | exact hb | exact Below.refl _ _))⟩
        by_cases h4 : 1 < ed.side
        · go_wp2
          go_ret
          exact ⟨retB_false fun h => by have := h k hlt; rw [unhide HX] at this; unfold EdFits at this; omega, below_then hb1 (by repeat (first | with_reducible exact Below.refl _ _ | with_reducible exact hb | refine bwS ?_ | refine bwA ?_ | refine Below.drew ?_ | refine below_draws ?_ _ | exact hb | exact Below.refl _ _))⟩
        go_wp2
        refine ⟨⟨k + 1, by omega, by go_num, fun j h h' => ?_, (by repeat (first | with_reducible exact Below.refl _ _ | with_reducible exact hb | refine bwS ?_ | refine bwA ?_ | refine Below.drew ?_ | refine below_draws ?_ _ | exact hb | exact Below.refl _ _))⟩, by simp [intOf]; omega⟩
        by_cases e : j = k
        · subst e
          rw [unhide HX]
          exact ⟨⟨by omega, by omega⟩, by omega, by omega⟩
        · exact hall j h (by omega)
      · go_wp2
        go_ret
        exact ⟨retB_true fun i h => hall i h (by simp at h; omega), below_then hb1 hb⟩
end Go.Proofs.YtbdggfpfpjijoaaGreat

