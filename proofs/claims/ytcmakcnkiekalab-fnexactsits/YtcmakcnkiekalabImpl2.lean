import Derived.Test.YtcmakcnkiekalabImpl1
namespace Go.Proofs.Ytcmakcnkiekalab
open Go.RowKit

/-- A joint as a value behind the interface: which kind, and its ends. -/
def ShV (v : Value) (kind : Int) (es : List Ed) : Prop :=
  (∃ a, es = [a] ∧ kind = 1 ∧ v = .iface 215 (.agg #[.int .i64 a.piece, .int .i64 a.side]))
  ∨ (∃ a b, es = [a, b] ∧ kind = 2 ∧ v = .iface 217 (.agg #[.int .i64 a.piece, .int .i64 a.side, .int .i64 b.piece, .int .i64 b.side]))
  ∨ (∃ a b c, es = [a, b, c] ∧ kind = 3 ∧ v = .iface 196 (.agg #[.int .i64 a.piece, .int .i64 a.side, .int .i64 b.piece, .int .i64 b.side, .int .i64 c.piece, .int .i64 c.side]))
  ∨ (∃ a b c d, es = [a, b, c, d] ∧ kind = 4 ∧ v = .iface 219 (.agg #[.int .i64 a.piece, .int .i64 a.side, .int .i64 b.piece, .int .i64 b.side, .int .i64 c.piece, .int .i64 c.side, .int .i64 d.piece, .int .i64 d.side]))

def KindOk (kind : Int) (es : List Ed) : Prop := (1 ≤ kind ∧ kind ≤ 4) ∧ (es.length : Int) = kind

theorem eds_boxed {w : World} {N L : Nat} {vs : List Value} {es : List Ed} (h : Boxed w N vs) (hv : ∀ i (h : i < es.length), vs[i * 2]? = some (.int .i64 es[i].piece) ∧ vs[i * 2 + 1]? = some (.int .i64 es[i].side)) (hL : L ≤ N) : EdsAt L w (some ⟨N, 0, none⟩) es := by
  intro i hi
  exact ⟨N, 0, rfl, ⟨hL, h.1⟩, by simpa using h.2.1 _ _ (hv i hi).1, by simpa using h.2.1 _ _ (hv i hi).2⟩

set_option maxHeartbeats 1000000 in
theorem ends1_any (a : Ed) (w : World) :
    Calls Try.prog 170 #[.agg #[.int .i64 a.piece, .int .i64 a.side]] w fun e w' => ∃ B, e = .returned (.slice (some ⟨B, 0, none⟩) 1 1) ∧ EdsAt w.heap.size w' (some ⟨B, 0, none⟩) [a] ∧ Below w.heap.size w w' := by
  go_enter Try.func170, Try.ntmps170
  go_wp2
  go_ret
  refine ⟨w.heap.size + 1, rfl, eds_boxed (boxedN _ _ _ (by simp)) (fun i hi => ?_) (by omega), (by repeat (first | with_reducible exact Below.refl _ _ | refine Below.setCell ?_ (by first | omega | (simp <;> omega) | (simp [World.setCell] <;> omega)) _ | refine Below.alloc ?_ (by first | omega | (simp <;> omega) | (simp [World.setCell] <;> omega)) _ | refine Below.drew ?_ | refine below_draws ?_ _ | exact Below.refl _ _))⟩
  have hi' : i = 0 := by simp at hi; omega
  subst hi'; simp

set_option maxHeartbeats 1000000 in
theorem ends2_any (a b : Ed) (w : World) :
    Calls Try.prog 171 #[.agg #[.int .i64 a.piece, .int .i64 a.side, .int .i64 b.piece, .int .i64 b.side]] w fun e w' => ∃ B, e = .returned (.slice (some ⟨B, 0, none⟩) 2 2) ∧ EdsAt w.heap.size w' (some ⟨B, 0, none⟩) [a, b] ∧ Below w.heap.size w w' := by
  go_enter Try.func171, Try.ntmps171
  go_wp2
  go_ret
  refine ⟨w.heap.size + 1, rfl, eds_boxed (boxedN _ _ _ (by simp)) (fun i hi => ?_) (by omega), (by repeat (first | with_reducible exact Below.refl _ _ | refine Below.setCell ?_ (by first | omega | (simp <;> omega) | (simp [World.setCell] <;> omega)) _ | refine Below.alloc ?_ (by first | omega | (simp <;> omega) | (simp [World.setCell] <;> omega)) _ | refine Below.drew ?_ | refine below_draws ?_ _ | exact Below.refl _ _))⟩
  have hi' : i = 0 ∨ i = 1 := by simp at hi; omega
  rcases hi' with rfl | rfl <;> simp

set_option maxHeartbeats 1000000 in
theorem ends3_any (a b c : Ed) (w : World) :
    Calls Try.prog 169 #[.agg #[.int .i64 a.piece, .int .i64 a.side, .int .i64 b.piece, .int .i64 b.side, .int .i64 c.piece, .int .i64 c.side]] w fun e w' => ∃ B, e = .returned (.slice (some ⟨B, 0, none⟩) 3 3) ∧ EdsAt w.heap.size w' (some ⟨B, 0, none⟩) [a, b, c] ∧ Below w.heap.size w w' := by
  go_enter Try.func169, Try.ntmps169
  go_wp2
  go_ret
  refine ⟨w.heap.size + 1, rfl, eds_boxed (boxedN _ _ _ (by simp)) (fun i hi => ?_) (by omega), (by repeat (first | with_reducible exact Below.refl _ _ | refine Below.setCell ?_ (by first | omega | (simp <;> omega) | (simp [World.setCell] <;> omega)) _ | refine Below.alloc ?_ (by first | omega | (simp <;> omega) | (simp [World.setCell] <;> omega)) _ | refine Below.drew ?_ | refine below_draws ?_ _ | exact Below.refl _ _))⟩
  have hi' : i = 0 ∨ i = 1 ∨ i = 2 := by simp at hi; omega
  rcases hi' with rfl | rfl | rfl <;> simp

set_option maxHeartbeats 1000000 in
theorem ends4_any (a b c d : Ed) (w : World) :
    Calls Try.prog 172 #[.agg #[.int .i64 a.piece, .int .i64 a.side, .int .i64 b.piece, .int .i64 b.side, .int .i64 c.piece, .int .i64 c.side, .int .i64 d.piece, .int .i64 d.side]] w fun e w' => ∃ B, e = .returned (.slice (some ⟨B, 0, none⟩) 4 4) ∧ EdsAt w.heap.size w' (some ⟨B, 0, none⟩) [a, b, c, d] ∧ Below w.heap.size w w' := by
  go_enter Try.func172, Try.ntmps172
  go_wp2
  go_ret
  refine ⟨w.heap.size + 1, rfl, eds_boxed (boxedN _ _ _ (by simp)) (fun i hi => ?_) (by omega), (by repeat (first | with_reducible exact Below.refl _ _ | refine Below.setCell ?_ (by first | omega | (simp <;> omega) | (simp [World.setCell] <;> omega)) _ | refine Below.alloc ?_ (by first | omega | (simp <;> omega) | (simp [World.setCell] <;> omega)) _ | refine Below.drew ?_ | refine below_draws ?_ _ | exact Below.refl _ _))⟩
  have hi' : i = 0 ∨ i = 1 ∨ i = 2 ∨ i = 3 := by simp at hi; omega
  rcases hi' with rfl | rfl | rfl | rfl <;> simp

set_option maxHeartbeats 1000000 in
theorem shapeOf_any (kd : Int) (s : ByteArray) (ea : Option Addr) (es : List Ed) (cap : Nat) (w : World) {L : Nat} (hp : EdsAt L w ea es) (h : KindOk kd es) :
    Calls Try.prog 123 #[.agg #[.int .i64 kd, .string s, .slice ea es.length cap]] w fun e w' => ∃ v, e = .returned (.tuple #[v, .bool true]) ∧ ShV v kd es ∧ Below w.heap.size w w' := by
  obtain ⟨⟨hk1, hk4⟩, hlen⟩ := h
  have h4 : kd = 1 ∨ kd = 2 ∨ kd = 3 ∨ kd = 4 := by omega
  clear hk1 hk4
  rcases h4 with rfl | rfl | rfl | rfl
  · match es, hlen, hp with
    | [a], _, hp =>
      clear hlen
      obtain ⟨B, off, rfl, hbs, x0, y0⟩ := hp 0 (by simp)
      simp at x0 y0
      go_enter Try.func123, Try.ntmps123
      go_wp2
      go_ret2
      exact ⟨_, rfl, Or.inl ⟨_, rfl, rfl, rfl⟩, (by repeat (first | with_reducible exact Below.refl _ _ | refine Below.setCell ?_ (by first | omega | (simp <;> omega) | (simp [World.setCell] <;> omega)) _ | refine Below.alloc ?_ (by first | omega | (simp <;> omega) | (simp [World.setCell] <;> omega)) _ | refine Below.drew ?_ | refine below_draws ?_ _ | exact Below.refl _ _))⟩
  · match es, hlen, hp with
    | [a, b], _, hp =>
      clear hlen
      obtain ⟨B, off, rfl, hbs, x0, y0⟩ := hp 0 (by simp)
      obtain ⟨B1, off1, hq1, hbs1, x1, y1⟩ := hp 1 (by simp)
      obtain ⟨rfl, rfl⟩ : B = B1 ∧ off = off1 := by simpa using hq1
      clear hq1
      simp at x0 y0 x1 y1
      go_enter Try.func123, Try.ntmps123
      go_wp2
      go_quiet (fail)
      go_wp2
      go_ret2
      exact ⟨_, rfl, Or.inr (Or.inl ⟨_, _, rfl, rfl, rfl⟩), (by repeat (first | with_reducible exact Below.refl _ _ | refine Below.setCell ?_ (by first | omega | (simp <;> omega) | (simp [World.setCell] <;> omega)) _ | refine Below.alloc ?_ (by first | omega | (simp <;> omega) | (simp [World.setCell] <;> omega)) _ | refine Below.drew ?_ | refine below_draws ?_ _ | exact Below.refl _ _))⟩
  · match es, hlen, hp with
    | [a, b, c], _, hp =>
      clear hlen
      obtain ⟨B, off, rfl, hbs, x0, y0⟩ := hp 0 (by simp)
      obtain ⟨B1, off1, hq1, hbs1, x1, y1⟩ := hp 1 (by simp)
      obtain ⟨rfl, rfl⟩ : B = B1 ∧ off = off1 := by simpa using hq1
      clear hq1
      obtain ⟨B2, off2, hq2, hbs2, x2, y2⟩ := hp 2 (by simp)
      obtain ⟨rfl, rfl⟩ : B = B2 ∧ off = off2 := by simpa using hq2
      clear hq2
      simp at x0 y0 x1 y1 x2 y2
      go_enter Try.func123, Try.ntmps123
      go_wp2
      go_quiet (fail)
      go_wp2
      go_ret2
      exact ⟨_, rfl, Or.inr (Or.inr (Or.inl ⟨_, _, _, rfl, rfl, rfl⟩)), (by repeat (first | with_reducible exact Below.refl _ _ | refine Below.setCell ?_ (by first | omega | (simp <;> omega) | (simp [World.setCell] <;> omega)) _ | refine Below.alloc ?_ (by first | omega | (simp <;> omega) | (simp [World.setCell] <;> omega)) _ | refine Below.drew ?_ | refine below_draws ?_ _ | exact Below.refl _ _))⟩
  · match es, hlen, hp with
    | [a, b, c, d], _, hp =>
      clear hlen
      obtain ⟨B, off, rfl, hbs, x0, y0⟩ := hp 0 (by simp)
      obtain ⟨B1, off1, hq1, hbs1, x1, y1⟩ := hp 1 (by simp)
      obtain ⟨rfl, rfl⟩ : B = B1 ∧ off = off1 := by simpa using hq1
      clear hq1
      obtain ⟨B2, off2, hq2, hbs2, x2, y2⟩ := hp 2 (by simp)
      obtain ⟨rfl, rfl⟩ : B = B2 ∧ off = off2 := by simpa using hq2
      clear hq2
      obtain ⟨B3, off3, hq3, hbs3, x3, y3⟩ := hp 3 (by simp)
      obtain ⟨rfl, rfl⟩ : B = B3 ∧ off = off3 := by simpa using hq3
      clear hq3
      simp at x0 y0 x1 y1 x2 y2 x3 y3
      go_enter Try.func123, Try.ntmps123
      go_wp2
      go_quiet (fail)
      go_wp2
      go_ret2
      exact ⟨_, rfl, Or.inr (Or.inr (Or.inr ⟨_, _, _, _, rfl, rfl, rfl⟩)), (by repeat (first | with_reducible exact Below.refl _ _ | refine Below.setCell ?_ (by first | omega | (simp <;> omega) | (simp [World.setCell] <;> omega)) _ | refine Below.alloc ?_ (by first | omega | (simp <;> omega) | (simp [World.setCell] <;> omega)) _ | refine Below.drew ?_ | refine below_draws ?_ _ | exact Below.refl _ _))⟩

theorem ne_beq {a b : Int} (h : a ≠ b) : (a == b) = false := beq_eq_false_iff_ne.2 h

set_option maxHeartbeats 1000000 in
theorem shapeOf_no (kd : Int) (s : ByteArray) (ea : Option Addr) (es : List Ed) (cap : Nat) (w : World) (h : ¬ KindOk kd es) :
    Calls Try.prog 123 #[.agg #[.int .i64 kd, .string s, .slice ea es.length cap]] w fun e w' => e = .returned (.tuple #[.nilIface, .bool false]) ∧ Below w.heap.size w w' := by
  have h5 : (kd = 1 ∨ kd = 2 ∨ kd = 3 ∨ kd = 4) ∨ (kd ≠ 1 ∧ kd ≠ 2 ∧ kd ≠ 3 ∧ kd ≠ 4) := by omega
  rcases h5 with (rfl | rfl | rfl | rfl) | ⟨n1, n2, n3, n4⟩
  · have hl := ne_beq (a := (es.length : Int)) (b := 1) fun e => h ⟨by omega, e⟩
    clear h
    go_enter Try.func123, Try.ntmps123
    go_wp2
    go_ret2
    exact ⟨rfl, (by repeat (first | with_reducible exact Below.refl _ _ | refine Below.setCell ?_ (by first | omega | (simp <;> omega) | (simp [World.setCell] <;> omega)) _ | refine Below.alloc ?_ (by first | omega | (simp <;> omega) | (simp [World.setCell] <;> omega)) _ | refine Below.drew ?_ | refine below_draws ?_ _ | exact Below.refl _ _))⟩
  · have hl := ne_beq (a := (es.length : Int)) (b := 2) fun e => h ⟨by omega, e⟩
    clear h
    go_enter Try.func123, Try.ntmps123
    go_wp2
    go_ret2
    exact ⟨rfl, (by repeat (first | with_reducible exact Below.refl _ _ | refine Below.setCell ?_ (by first | omega | (simp <;> omega) | (simp [World.setCell] <;> omega)) _ | refine Below.alloc ?_ (by first | omega | (simp <;> omega) | (simp [World.setCell] <;> omega)) _ | refine Below.drew ?_ | refine below_draws ?_ _ | exact Below.refl _ _))⟩
  · have hl := ne_beq (a := (es.length : Int)) (b := 3) fun e => h ⟨by omega, e⟩
    clear h
    go_enter Try.func123, Try.ntmps123
    go_wp2
    go_ret2
    exact ⟨rfl, (by repeat (first | with_reducible exact Below.refl _ _ | refine Below.setCell ?_ (by first | omega | (simp <;> omega) | (simp [World.setCell] <;> omega)) _ | refine Below.alloc ?_ (by first | omega | (simp <;> omega) | (simp [World.setCell] <;> omega)) _ | refine Below.drew ?_ | refine below_draws ?_ _ | exact Below.refl _ _))⟩
  · have hl := ne_beq (a := (es.length : Int)) (b := 4) fun e => h ⟨by omega, e⟩
    clear h
    go_enter Try.func123, Try.ntmps123
    go_wp2
    go_ret2
    exact ⟨rfl, (by repeat (first | with_reducible exact Below.refl _ _ | refine Below.setCell ?_ (by first | omega | (simp <;> omega) | (simp [World.setCell] <;> omega)) _ | refine Below.alloc ?_ (by first | omega | (simp <;> omega) | (simp [World.setCell] <;> omega)) _ | refine Below.drew ?_ | refine below_draws ?_ _ | exact Below.refl _ _))⟩
  · have m1 := ne_beq n1
    have m2 := ne_beq n2
    have m3 := ne_beq n3
    have m4 := ne_beq n4
    clear h n1 n2 n3 n4
    go_enter Try.func123, Try.ntmps123
    go_wp2
    go_ret2
    exact ⟨rfl, (by repeat (first | with_reducible exact Below.refl _ _ | refine Below.setCell ?_ (by first | omega | (simp <;> omega) | (simp [World.setCell] <;> omega)) _ | refine Below.alloc ?_ (by first | omega | (simp <;> omega) | (simp [World.setCell] <;> omega)) _ | refine Below.drew ?_ | refine below_draws ?_ _ | exact Below.refl _ _))⟩

end Go.Proofs.Ytcmakcnkiekalab
