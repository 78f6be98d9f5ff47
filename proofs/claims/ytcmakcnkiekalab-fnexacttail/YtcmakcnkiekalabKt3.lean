import Derived.Test.YtcmakcnkiekalabKt2
namespace Go.Proofs.Ytcmakcnkiekalab
open Go.RowKit

theorem ta14 (x : Value) (w : World) : (Instr.typeAssert (.iface 215 x) 162 219 true).run Try.prog w = .ok (.tuple #[.agg #[.int .i64 0, .int .i64 0, .int .i64 0, .int .i64 0, .int .i64 0, .int .i64 0, .int .i64 0, .int .i64 0], .bool false]) w := by kernel_rfl
theorem ta44 (x : Value) (w : World) : (Instr.typeAssert (.iface 219 x) 162 219 true).run Try.prog w = .ok (.tuple #[x, .bool true]) w := by kernel_rfl

theorem Ed.same {a b : Ed} (h : a.piece = b.piece ∧ a.side = b.side) : a = b := by cases a; cases b; simp_all

set_option maxHeartbeats 400000 in
theorem opposite_eq (f x y : Ed) (w : World) (h : f = x) :
    Calls Try.prog 144 #[.agg #[.int .i64 f.piece, .int .i64 f.side], .agg #[.int .i64 x.piece, .int .i64 x.side], .agg #[.int .i64 y.piece, .int .i64 y.side]] w fun e w' => e = .returned (.agg #[.int .i64 y.piece, .int .i64 y.side]) ∧ Below w.heap.size w w' := by
  subst h
  go_enter Try.func144, Try.ntmps144
  go_wp2
  all_goals exact bodyPost_ret (v := .agg #[.int .i64 y.piece, .int .i64 y.side]) (by simp [results, Try.results144, go_sem]) rfl ⟨rfl, (by repeat (first | with_reducible exact Below.refl _ _ | refine Below.setCell ?_ (by first | omega | (simp <;> omega) | (simp [World.setCell] <;> omega)) _ | refine Below.alloc ?_ (by first | omega | (simp <;> omega) | (simp [World.setCell] <;> omega)) _ | refine Below.drew ?_ | refine below_draws ?_ _ | exact Below.refl _ _))⟩

set_option maxHeartbeats 400000 in
theorem opposite_ne (f x y : Ed) (w : World) (h : f ≠ x) :
    Calls Try.prog 144 #[.agg #[.int .i64 f.piece, .int .i64 f.side], .agg #[.int .i64 x.piece, .int .i64 x.side], .agg #[.int .i64 y.piece, .int .i64 y.side]] w fun e w' => e = .returned (.agg #[.int .i64 x.piece, .int .i64 x.side]) ∧ Below w.heap.size w w' := by
  have H : Hid (¬ (f.piece = x.piece ∧ f.side = x.side)) := fun e => h (Ed.same e)
  clear h
  go_enter Try.func144, Try.ntmps144
  go_wp2
  all_goals first
    | (exfalso; exact unhide H ⟨by assumption, by assumption⟩)
    | exact bodyPost_ret (v := .agg #[.int .i64 x.piece, .int .i64 x.side]) (by simp [results, Try.results144, go_sem]) rfl ⟨rfl, (by repeat (first | with_reducible exact Below.refl _ _ | refine Below.setCell ?_ (by first | omega | (simp <;> omega) | (simp [World.setCell] <;> omega)) _ | refine Below.alloc ?_ (by first | omega | (simp <;> omega) | (simp [World.setCell] <;> omega)) _ | refine Below.drew ?_ | refine below_draws ?_ _ | exact Below.refl _ _))⟩

/-- Over a switch. -/
def OverT (a b c f : Ed) (lie : Int) (r : Ed) (q : Int) : Prop :=
  (lie = 0 ∧ r = ⟨0, 0⟩ ∧ q = 2) ∨ (lie ≠ 0 ∧ ∃ br, (lie = 2 ∧ br = c ∨ lie ≠ 2 ∧ br = b) ∧ ((f = a ∧ r = br ∧ q = 0) ∨ (f ≠ a ∧ f = br ∧ r = a ∧ q = 0) ∨ (f ≠ a ∧ f ≠ br ∧ r = ⟨0, 0⟩ ∧ q = 3)))

set_option maxHeartbeats 2000000 in
theorem turnoutOver_any (a b c f : Ed) (lie : Int) (r : Ed) (q : Int) (w : World) (h : OverT a b c f lie r q) :
    Calls Try.prog 145 #[.agg #[.int .i64 a.piece, .int .i64 a.side, .int .i64 b.piece, .int .i64 b.side, .int .i64 c.piece, .int .i64 c.side], .agg #[.int .i64 f.piece, .int .i64 f.side], .int .i64 lie] w
      fun e w' => e = .returned (.tuple #[.agg #[.int .i64 r.piece, .int .i64 r.side], .int .i64 q]) ∧ Below w.heap.size w w' := by
  rcases h with ⟨rfl, rfl, rfl⟩ | ⟨h0, br, hbr, hf⟩
  · go_enter Try.func145, Try.ntmps145
    go_wp2
    exact bodyPost_ret (v := .tuple #[.agg #[.int .i64 0, .int .i64 0], .int .i64 2]) (by simp [results, Try.results145, go_sem]) rfl ⟨rfl, (by repeat (first | with_reducible exact Below.refl _ _ | refine Below.setCell ?_ (by first | omega | (simp <;> omega) | (simp [World.setCell] <;> omega)) _ | refine Below.alloc ?_ (by first | omega | (simp <;> omega) | (simp [World.setCell] <;> omega)) _ | refine Below.drew ?_ | refine below_draws ?_ _ | exact Below.refl _ _))⟩
  have h0b := ne_beq h0
  clear h0
  rcases hbr with ⟨rfl, rfl⟩ | ⟨h2, rfl⟩
  · rcases hf with ⟨rfl, rfl, rfl⟩ | ⟨hne, rfl, rfl, rfl⟩ | ⟨hne, hne2, rfl, rfl⟩
    · go_enter Try.func145, Try.ntmps145
      go_wp2
      all_goals exact bodyPost_ret (v := .tuple #[.agg #[.int .i64 r.piece, .int .i64 r.side], .int .i64 0]) (by simp [results, Try.results145, go_sem]) rfl ⟨rfl, (by repeat (first | with_reducible exact Below.refl _ _ | refine Below.setCell ?_ (by first | omega | (simp <;> omega) | (simp [World.setCell] <;> omega)) _ | refine Below.alloc ?_ (by first | omega | (simp <;> omega) | (simp [World.setCell] <;> omega)) _ | refine Below.drew ?_ | refine below_draws ?_ _ | exact Below.refl _ _))⟩
    · have H : Hid (¬ (f.piece = r.piece ∧ f.side = r.side)) := fun e => hne (Ed.same e)
      clear hne
      go_enter Try.func145, Try.ntmps145
      go_wp2
      all_goals first
        | (exfalso; exact unhide H ⟨by assumption, by assumption⟩)
        | exact bodyPost_ret (v := .tuple #[.agg #[.int .i64 r.piece, .int .i64 r.side], .int .i64 0]) (by simp [results, Try.results145, go_sem]) rfl ⟨rfl, (by repeat (first | with_reducible exact Below.refl _ _ | refine Below.setCell ?_ (by first | omega | (simp <;> omega) | (simp [World.setCell] <;> omega)) _ | refine Below.alloc ?_ (by first | omega | (simp <;> omega) | (simp [World.setCell] <;> omega)) _ | refine Below.drew ?_ | refine below_draws ?_ _ | exact Below.refl _ _))⟩
    · have H : Hid (¬ (f.piece = a.piece ∧ f.side = a.side)) := fun e => hne (Ed.same e)
      have H2 : Hid (¬ (f.piece = br.piece ∧ f.side = br.side)) := fun e => hne2 (Ed.same e)
      clear hne hne2
      go_enter Try.func145, Try.ntmps145
      go_wp2
      all_goals first
        | (exfalso; exact unhide H ⟨by assumption, by assumption⟩)
        | (exfalso; exact unhide H2 ⟨by omega, by omega⟩)
        | exact bodyPost_ret (v := .tuple #[.agg #[.int .i64 0, .int .i64 0], .int .i64 3]) (by simp [results, Try.results145, go_sem]) rfl ⟨rfl, (by repeat (first | with_reducible exact Below.refl _ _ | refine Below.setCell ?_ (by first | omega | (simp <;> omega) | (simp [World.setCell] <;> omega)) _ | refine Below.alloc ?_ (by first | omega | (simp <;> omega) | (simp [World.setCell] <;> omega)) _ | refine Below.drew ?_ | refine below_draws ?_ _ | exact Below.refl _ _))⟩
  · have h2b := ne_beq h2
    clear h2
    rcases hf with ⟨rfl, rfl, rfl⟩ | ⟨hne, rfl, rfl, rfl⟩ | ⟨hne, hne2, rfl, rfl⟩
    · go_enter Try.func145, Try.ntmps145
      go_wp2
      all_goals exact bodyPost_ret (v := .tuple #[.agg #[.int .i64 r.piece, .int .i64 r.side], .int .i64 0]) (by simp [results, Try.results145, go_sem]) rfl ⟨rfl, (by repeat (first | with_reducible exact Below.refl _ _ | refine Below.setCell ?_ (by first | omega | (simp <;> omega) | (simp [World.setCell] <;> omega)) _ | refine Below.alloc ?_ (by first | omega | (simp <;> omega) | (simp [World.setCell] <;> omega)) _ | refine Below.drew ?_ | refine below_draws ?_ _ | exact Below.refl _ _))⟩
    · have H : Hid (¬ (f.piece = r.piece ∧ f.side = r.side)) := fun e => hne (Ed.same e)
      clear hne
      go_enter Try.func145, Try.ntmps145
      go_wp2
      all_goals first
        | (exfalso; exact unhide H ⟨by assumption, by assumption⟩)
        | exact bodyPost_ret (v := .tuple #[.agg #[.int .i64 r.piece, .int .i64 r.side], .int .i64 0]) (by simp [results, Try.results145, go_sem]) rfl ⟨rfl, (by repeat (first | with_reducible exact Below.refl _ _ | refine Below.setCell ?_ (by first | omega | (simp <;> omega) | (simp [World.setCell] <;> omega)) _ | refine Below.alloc ?_ (by first | omega | (simp <;> omega) | (simp [World.setCell] <;> omega)) _ | refine Below.drew ?_ | refine below_draws ?_ _ | exact Below.refl _ _))⟩
    · have H : Hid (¬ (f.piece = a.piece ∧ f.side = a.side)) := fun e => hne (Ed.same e)
      have H2 : Hid (¬ (f.piece = br.piece ∧ f.side = br.side)) := fun e => hne2 (Ed.same e)
      clear hne hne2
      go_enter Try.func145, Try.ntmps145
      go_wp2
      all_goals first
        | (exfalso; exact unhide H ⟨by assumption, by assumption⟩)
        | (exfalso; exact unhide H2 ⟨by omega, by omega⟩)
        | exact bodyPost_ret (v := .tuple #[.agg #[.int .i64 0, .int .i64 0], .int .i64 3]) (by simp [results, Try.results145, go_sem]) rfl ⟨rfl, (by repeat (first | with_reducible exact Below.refl _ _ | refine Below.setCell ?_ (by first | omega | (simp <;> omega) | (simp [World.setCell] <;> omega)) _ | refine Below.alloc ?_ (by first | omega | (simp <;> omega) | (simp [World.setCell] <;> omega)) _ | refine Below.drew ?_ | refine below_draws ?_ _ | exact Below.refl _ _))⟩

theorem overT_of {a b c f : Ed} {j : Jt} {k : Nat} {lie : Int} (hes : j.ends = [a, b, c]) (hkd : j.kind = 3) (hk : k < j.ends.length) (hf : j.ends[k] = f) (hu : ∀ k' (h : k' < j.ends.length), j.ends[k'] = f → k' = k) :
    OverT a b c f lie (overJ j k lie).1 (overJ j k lie).2 := by
  have e0 : endOf j 0 = a := by simp [endOf, hes]
  have e1 : endOf j 1 = b := by simp [endOf, hes]
  have e2 : endOf j 2 = c := by simp [endOf, hes]
  have hl : j.ends.length = 3 := by simp [hes]
  have g0 : f = a → k = 0 := fun e => (hu 0 (by omega) (by simp [hes, e])).symm
  have g1 : f = b → k = 1 := fun e => (hu 1 (by omega) (by simp [hes, e])).symm
  have g2 : f = c → k = 2 := fun e => (hu 2 (by omega) (by simp [hes, e])).symm
  unfold OverT overJ
  rw [if_neg (by omega), if_pos hkd]
  by_cases h0 : lie = 0
  · rw [if_pos h0]
    exact Or.inl ⟨h0, rfl, rfl⟩
  · rw [if_neg h0]
    refine Or.inr ⟨h0, if lie = 2 then c else b, ?_, ?_⟩
    · by_cases h2 : lie = 2
      · exact Or.inl ⟨h2, by rw [if_pos h2]⟩
      · exact Or.inr ⟨h2, by rw [if_neg h2]⟩
    · have hk3 : k = 0 ∨ k = 1 ∨ k = 2 := by omega
      by_cases h2 : lie = 2
      · simp only [if_pos h2, e0, e2]
        rcases hk3 with rfl | rfl | rfl
        · exact Or.inl ⟨by rw [← hf]; simp [hes], by simp, by simp⟩
        · exact Or.inr (Or.inr ⟨fun e => by have := g0 e; omega, fun e => by have := g2 e; omega, by simp, by simp⟩)
        · exact Or.inr (Or.inl ⟨fun e => by have := g0 e; omega, by rw [← hf]; simp [hes], by simp, by simp⟩)
      · simp only [if_neg h2, e0, e1]
        rcases hk3 with rfl | rfl | rfl
        · exact Or.inl ⟨by rw [← hf]; simp [hes], by simp, by simp⟩
        · exact Or.inr (Or.inl ⟨fun e => by have := g0 e; omega, by rw [← hf]; simp [hes], by simp, by simp⟩)
        · exact Or.inr (Or.inr ⟨fun e => by have := g0 e; omega, fun e => by have := g1 e; omega, by simp, by simp⟩)

/-- The ends of a right net's joint are different ones. -/
theorem NetGood.apart {n : Nt} (h : NetGood n) {f : Ed} {i k : Nat} (hf : EdFits n.pieces.length f) (hst : StandsAt n.joints f i k) : ∀ k' (hk' : k' < (n.joints[i]'hst.1).ends.length), (n.joints[i]'hst.1).ends[k'] = f → k' = k := by
  intro k' hk' he
  obtain ⟨⟨h0, h1⟩, h2, h3⟩ := hf
  obtain ⟨p, s⟩ := f
  dsimp only at h0 h1 h2 h3
  obtain ⟨pn, rfl⟩ := Int.eq_ofNat_of_zero_le h0
  exact (stands_unique (e := ⟨pn, s⟩) (h.once pn (by omega) s (by omega)) ⟨hst.1, hk', he⟩ hst).2

/-- Over a joint, by its shape. -/
def OverV (sv : Value) (f : Ed) (lie : Int) (r : Ed) (q : Int) : Prop :=
  (∃ a : Ed, sv = .iface 215 (.agg #[.int .i64 a.piece, .int .i64 a.side]) ∧ r = ⟨0, 0⟩ ∧ q = 1)
  ∨ (∃ a b : Ed, sv = .iface 217 (.agg #[.int .i64 a.piece, .int .i64 a.side, .int .i64 b.piece, .int .i64 b.side]) ∧ (f = a ∧ r = b ∨ f ≠ a ∧ r = a) ∧ q = 0)
  ∨ (∃ a b c : Ed, sv = .iface 196 (.agg #[.int .i64 a.piece, .int .i64 a.side, .int .i64 b.piece, .int .i64 b.side, .int .i64 c.piece, .int .i64 c.side]) ∧ OverT a b c f lie r q)
  ∨ (∃ a b c d : Ed, sv = .iface 219 (.agg #[.int .i64 a.piece, .int .i64 a.side, .int .i64 b.piece, .int .i64 b.side, .int .i64 c.piece, .int .i64 c.side, .int .i64 d.piece, .int .i64 d.side])
      ∧ (f = a ∧ r = b ∨ f ≠ a ∧ f = b ∧ r = a ∨ f ≠ a ∧ f ≠ b ∧ f = c ∧ r = d ∨ f ≠ a ∧ f ≠ b ∧ f ≠ c ∧ r = c) ∧ q = 0)

theorem overV_of {j : Jt} {sv : Value} {f : Ed} {k : Nat} (lie : Int) (hsv : ShV sv j.kind j.ends) (hk : k < j.ends.length) (hf : j.ends[k] = f) (hu : ∀ k' (h : k' < j.ends.length), j.ends[k'] = f → k' = k) :
    OverV sv f lie (overJ j k lie).1 (overJ j k lie).2 := by
  rcases hsv with ⟨x0, hes, hkd, rfl⟩ | ⟨x0, x1, hes, hkd, rfl⟩ | ⟨x0, x1, x2, hes, hkd, rfl⟩ | ⟨x0, x1, x2, x3, hes, hkd, rfl⟩
  · exact Or.inl ⟨x0, rfl, by simp [overJ, hkd], by simp [overJ, hkd]⟩
  · refine Or.inr (Or.inl ⟨x0, x1, rfl, ?_, by simp [overJ, hkd]⟩)
    have e0 : endOf j 0 = x0 := by simp [endOf, hes]
    have e1 : endOf j 1 = x1 := by simp [endOf, hes]
    have hl : j.ends.length = 2 := by simp [hes]
    have hk2 : k = 0 ∨ k = 1 := by omega
    rcases hk2 with rfl | rfl
    · exact Or.inl ⟨by rw [← hf]; simp [hes], by simp [overJ, hkd, e1]⟩
    · exact Or.inr ⟨fun e => by have := hu 0 (by omega) (by simp [hes, e]); omega, by simp [overJ, hkd, e0]⟩
  · exact Or.inr (Or.inr (Or.inl ⟨x0, x1, x2, rfl, overT_of hes hkd hk hf hu⟩))
  · refine Or.inr (Or.inr (Or.inr ⟨x0, x1, x2, x3, rfl, ?_, by simp [overJ, hkd]⟩))
    have e0 : endOf j 0 = x0 := by simp [endOf, hes]
    have e1 : endOf j 1 = x1 := by simp [endOf, hes]
    have e2 : endOf j 2 = x2 := by simp [endOf, hes]
    have e3 : endOf j 3 = x3 := by simp [endOf, hes]
    have hl : j.ends.length = 4 := by simp [hes]
    have g0 : f = x0 → k = 0 := fun e => (hu 0 (by omega) (by simp [hes, e])).symm
    have g1 : f = x1 → k = 1 := fun e => (hu 1 (by omega) (by simp [hes, e])).symm
    have g2 : f = x2 → k = 2 := fun e => (hu 2 (by omega) (by simp [hes, e])).symm
    have hk4 : k = 0 ∨ k = 1 ∨ k = 2 ∨ k = 3 := by omega
    rcases hk4 with rfl | rfl | rfl | rfl
    · exact Or.inl ⟨by rw [← hf]; simp [hes], by simp [overJ, hkd, e1]⟩
    · exact Or.inr (Or.inl ⟨fun e => by have := g0 e; omega, by rw [← hf]; simp [hes], by simp [overJ, hkd, e0]⟩)
    · exact Or.inr (Or.inr (Or.inl ⟨fun e => by have := g0 e; omega, fun e => by have := g1 e; omega, by rw [← hf]; simp [hes], by simp [overJ, hkd, e3]⟩))
    · exact Or.inr (Or.inr (Or.inr ⟨fun e => by have := g0 e; omega, fun e => by have := g1 e; omega, fun e => by have := g2 e; omega, by simp [overJ, hkd, e2]⟩))

end Go.Proofs.Ytcmakcnkiekalab
