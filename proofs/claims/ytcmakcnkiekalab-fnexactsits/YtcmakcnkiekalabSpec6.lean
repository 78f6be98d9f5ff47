import Derived.Test.YtcmakcnkiekalabSpec5
import Derived.Test.YtcmakcnkiekalabImpl2
namespace Go.Proofs.Ytcmakcnkiekalab
open Go.RowKit

/-- What l1across gives. -/
def RetEs (N : Nat) (es : List Ed) (e : Ending) (w' : World) : Prop := ∃ a cap, e = .returned (.slice a (List.length es) cap) ∧ EdsAt N w' a es

set_option maxRecDepth 100000 in
set_option maxHeartbeats 4000000 in
theorem l1across_any (j : Jt) (k : Nat) (ea : Option Addr) (cap : Nat) (w : World) {L : Nat} (hp : EdsAt L w ea j.ends) (hK : KindOk j.kind j.ends) (hk : k < j.ends.length) :
    Calls Try.prog 127 #[.agg #[.int .i64 j.kind, .string j.name, .slice ea j.ends.length cap], .int .i64 k] w fun e w' => RetEs w.heap.size (across j k) e w' ∧ Below w.heap.size w w' := by
  obtain ⟨kd, nm, es⟩ := j
  obtain ⟨⟨hk1, hk4⟩, hlen⟩ := hK
  dsimp only at hk1 hk4 hlen hp hk ⊢
  have h4 : kd = 1 ∨ kd = 2 ∨ kd = 3 ∨ kd = 4 := by omega
  clear hk1 hk4
  rcases h4 with rfl | rfl | rfl | rfl
  · match es, hlen, hp, hk with
    | [a], _, hp, hk =>
      clear hlen
      obtain ⟨B, off, rfl, hbs, x0, y0⟩ := hp 0 (by simp)
      simp at x0 y0 hk
      obtain rfl : k = 0 := by omega
      go_enter Try.func127, Try.ntmps127
      go_wp2
      go_ret
      exact ⟨⟨none, 0, by simp [across], fun i hi => by simp [across] at hi⟩, (by repeat (first | with_reducible exact Below.refl _ _ | refine Below.setCell ?_ (by first | omega | (simp <;> omega) | (simp [World.setCell] <;> omega)) _ | refine Below.alloc ?_ (by first | omega | (simp <;> omega) | (simp [World.setCell] <;> omega)) _ | refine Below.drew ?_ | refine below_draws ?_ _ | exact Below.refl _ _))⟩
  · match es, hlen, hp, hk with
    | [a, b], _, hp, hk =>
      clear hlen
      obtain ⟨B, off, rfl, hbs, x0, y0⟩ := hp 0 (by simp)
      obtain ⟨B1, off1, hq1, hbs1, x1, y1⟩ := hp 1 (by simp)
      obtain ⟨rfl, rfl⟩ : B = B1 ∧ off = off1 := by simpa using hq1
      clear hq1
      simp at x0 y0 x1 y1 hk
      have hk' : k = 0 ∨ k = 1 := by omega
      rcases hk' with rfl | rfl
      all_goals
        go_enter Try.func127, Try.ntmps127
        go_wp2
        go_ret
        refine ⟨⟨some ⟨w.heap.size + 1, 0, none⟩, 1, by simp [across], fun i hi => ?_⟩, (by repeat (first | with_reducible exact Below.refl _ _ | refine Below.setCell ?_ (by first | omega | (simp <;> omega) | (simp [World.setCell] <;> omega)) _ | refine Below.alloc ?_ (by first | omega | (simp <;> omega) | (simp [World.setCell] <;> omega)) _ | refine Below.drew ?_ | refine below_draws ?_ _ | exact Below.refl _ _))⟩
        have hi' : i = 0 := by simp [across] at hi; omega
        subst hi'; refine ⟨w.heap.size + 1, 0, rfl, ⟨by omega, by simp⟩, ?_, ?_⟩ <;> simp [across, endOf]
  · match es, hlen, hp, hk with
    | [a, b, c], _, hp, hk =>
      clear hlen
      obtain ⟨B, off, rfl, hbs, x0, y0⟩ := hp 0 (by simp)
      obtain ⟨B1, off1, hq1, hbs1, x1, y1⟩ := hp 1 (by simp)
      obtain ⟨rfl, rfl⟩ : B = B1 ∧ off = off1 := by simpa using hq1
      clear hq1
      obtain ⟨B2, off2, hq2, hbs2, x2, y2⟩ := hp 2 (by simp)
      obtain ⟨rfl, rfl⟩ : B = B2 ∧ off = off2 := by simpa using hq2
      clear hq2
      simp at x0 y0 x1 y1 x2 y2 hk
      have hk' : k = 0 ∨ k = 1 ∨ k = 2 := by omega
      rcases hk' with rfl | rfl | rfl
      · go_enter Try.func127, Try.ntmps127
        go_wp2
        go_region
        go_wp2
        go_ret
        refine ⟨⟨some ⟨w.heap.size + 1, 0, none⟩, 2, by simp [across], fun i hi => ?_⟩, (by repeat (first | with_reducible exact Below.refl _ _ | refine Below.setCell ?_ (by first | omega | (simp <;> omega) | (simp [World.setCell] <;> omega)) _ | refine Below.alloc ?_ (by first | omega | (simp <;> omega) | (simp [World.setCell] <;> omega)) _ | refine Below.drew ?_ | refine below_draws ?_ _ | exact Below.refl _ _))⟩
        have hi' : i = 0 ∨ i = 1 := by simp [across] at hi; omega
        rcases hi' with rfl | rfl <;> refine ⟨w.heap.size + 1, 0, rfl, ⟨by omega, by simp⟩, ?_, ?_⟩ <;> simp [across, endOf]
      all_goals
        go_enter Try.func127, Try.ntmps127
        go_wp2
        go_ret
        refine ⟨⟨some ⟨w.heap.size + 1, 0, none⟩, 1, by simp [across], fun i hi => ?_⟩, (by repeat (first | with_reducible exact Below.refl _ _ | refine Below.setCell ?_ (by first | omega | (simp <;> omega) | (simp [World.setCell] <;> omega)) _ | refine Below.alloc ?_ (by first | omega | (simp <;> omega) | (simp [World.setCell] <;> omega)) _ | refine Below.drew ?_ | refine below_draws ?_ _ | exact Below.refl _ _))⟩
        have hi' : i = 0 := by simp [across] at hi; omega
        subst hi'; refine ⟨w.heap.size + 1, 0, rfl, ⟨by omega, by simp⟩, ?_, ?_⟩ <;> simp [across, endOf]
  · match es, hlen, hp, hk with
    | [a, b, c, d], _, hp, hk =>
      clear hlen
      obtain ⟨B, off, rfl, hbs, x0, y0⟩ := hp 0 (by simp)
      obtain ⟨B1, off1, hq1, hbs1, x1, y1⟩ := hp 1 (by simp)
      obtain ⟨rfl, rfl⟩ : B = B1 ∧ off = off1 := by simpa using hq1
      clear hq1
      obtain ⟨B2, off2, hq2, hbs2, x2, y2⟩ := hp 2 (by simp)
      obtain ⟨rfl, rfl⟩ : B = B2 ∧ off = off2 := by simpa using hq2
      clear hq2
      obtain ⟨B3, off3, hq3, hbs3, x3, y3⟩ := hp 3 (by simp)
      obtain ⟨rfl, rfl⟩ : B = B3 ∧ off = off3 := by simpa using hq3
      clear hq3
      simp at x0 y0 x1 y1 x2 y2 x3 y3 hk
      have hk' : k = 0 ∨ k = 1 ∨ k = 2 ∨ k = 3 := by omega
      rcases hk' with rfl | rfl | rfl | rfl
      all_goals
        go_enter Try.func127, Try.ntmps127
        go_wp2
        go_region
        go_wp2
        go_ret
        refine ⟨⟨some ⟨w.heap.size + 1 + 1, 0, none⟩, 1, by simp [across], fun i hi => ?_⟩, (by repeat (first | with_reducible exact Below.refl _ _ | refine Below.setCell ?_ (by first | omega | (simp <;> omega) | (simp [World.setCell] <;> omega)) _ | refine Below.alloc ?_ (by first | omega | (simp <;> omega) | (simp [World.setCell] <;> omega)) _ | refine Below.drew ?_ | refine below_draws ?_ _ | exact Below.refl _ _))⟩
        have hi' : i = 0 := by simp [across] at hi; omega
        subst hi'; refine ⟨w.heap.size + 1 + 1, 0, rfl, ⟨by omega, by simp⟩, ?_, ?_⟩ <;> simp [across, endOf] <;> first | exact (boxedN _ _ _ (by simp)).2.1 0 _ rfl | exact (boxedN _ _ _ (by simp)).2.1 1 _ rfl

end Go.Proofs.Ytcmakcnkiekalab
