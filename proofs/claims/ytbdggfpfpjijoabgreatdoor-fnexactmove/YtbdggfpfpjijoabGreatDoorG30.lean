import Derived.Test.YtbdggfpfpjijoabGreatDoorG29
import Derived.Test.YtbdggfpfpjijoabGreatDoorG26
namespace Go.Proofs.YtbdggfpfpjijoabGreatDoor
open Go.RowKit

set_option maxRecDepth 100000 in
set_option maxHeartbeats 4000000 in
theorem enter_full (B : Nat) (k0 k1 k2 : Value) (s : Sp) (long sp : Int) (xs : List St) (x : St) (w : World) (h : GB w B k0 k1 k2 s long sp xs) (hx : xs.length = 200) :
    Calls Tryz.prog 100 #[.pointer (some ⟨B, 0, none⟩), .agg #[.int .i64 x.piece, .int .i64 x.way]] w fun e w' => e = .returned (.bool false) ∧ Below w.heap.size w w' := by
  have hB := h.lt
  obtain ⟨_, _, _, _, _, _, _, _, c411⟩ := h.cells
  rw [hx] at c411
  clear h hx
  go_enter Tryz.func100, Tryz.ntmps100
  go_wp2
  go_ret
  exact ⟨rfl, (by repeat (first | with_reducible exact Below.refl _ _ | refine Below.setCell ?_ (by first | omega | (simp <;> omega) | (simp [World.setCell] <;> omega)) _ | refine Below.alloc ?_ (by first | omega | (simp <;> omega) | (simp [World.setCell] <;> omega)) _ | refine Below.drew ?_ | refine below_draws ?_ _ | exact Below.refl _ _))⟩

set_option maxRecDepth 100000 in
set_option maxHeartbeats 4000000 in
theorem enter_any (B : Nat) (n : Nt) (ka ksh kst : Option Addr) (kca kcsh kcst : Nat) (s : Sp) (long sp : Int) (xs : List St) (x : St) (w : World) (h : GB w B (.slice ka n.pieces.length kca) (.slice ksh n.joints.length kcsh) (.slice kst n.pieces.length kcst) s long sp xs)
    (hkO : ∀ wb, Only (fun k => k = B) w wb → PcsAt 0 wb ka n.pieces) (hkB : ∀ b off, ka = some ⟨b, off, none⟩ → b ≠ B) (hx : xs.length < 200) (hxo : StepOk n x) :
    Calls Tryz.prog 100 #[.pointer (some ⟨B, 0, none⟩), .agg #[.int .i64 x.piece, .int .i64 x.way]] w fun e w' => e = .returned (.bool true) ∧ GB w' B (.slice ka n.pieces.length kca) (.slice ksh n.joints.length kcsh) (.slice kst n.pieces.length kcst) ⟨x.piece, if x.way = -1 then lenOf n x.piece else 0, x.way⟩ long sp (⟨s.piece, s.way⟩ :: xs) ∧ Only (fun k => k = B) w w' := by
  have hB := h.lt
  obtain ⟨c0, c1, c2, c3, _, _, _, _, c411⟩ := h.cells
  have hne : ((xs.length : Int) == 200) = false := by rw [beq_eq_false_iff_ne]; omega
  have H := hide h
  have HKO := hide hkO
  have HXO := hide hxo
  have HKB := hide hkB
  obtain ⟨xp, xy⟩ := x
  have hBA : Below w.heap.size w (w.alloc (.cells #[.int .i64 xp, .int .i64 xy] 86)) := (by repeat (first | with_reducible exact Below.refl _ _ | refine Below.setCell ?_ (by first | omega | (simp <;> omega) | (simp [World.setCell] <;> omega)) _ | refine Below.alloc ?_ (by first | omega | (simp <;> omega) | (simp [World.setCell] <;> omega)) _ | refine Below.drew ?_ | refine below_draws ?_ _ | exact Below.refl _ _))
  have nB1 : ¬ w.heap.size = B := by omega
  have nB2 : ¬ B = w.heap.size := by omega
  clear h hkO hxo hkB
  dsimp only
  go_enter Tryz.func100, Tryz.ntmps100
  go_wp2_with fail
  go_region_held3 (fun w' => w'.cell? ⟨B, 0, none⟩ = some (.int .i64 s.piece) ∧ w'.cell? ⟨B, 1, none⟩ = some (.int .i64 s.at_) ∧ w'.cell? ⟨B, 2, none⟩ = some (.int .i64 s.way)) (((try dsimp only); (repeat' apply And.intro)) <;> (go_keep; done))
    (first
      | (go_at_call 98; refine (step_any s _).mono ?_; rintro e w1 ⟨rfl, hb1⟩; obtain ⟨hc1, hf1⟩ := bcell hb1; have q0 := hc1 (B) (0) (by first | (simp; done) | (simp; omega) | omega); have q1 := hc1 (B) (1) (by first | (simp; done) | (simp; omega) | omega); have q2 := hc1 (B) (2) (by first | (simp; done) | (simp; omega) | omega))
      | (go_at_call 137; refine (gAddNear_any B _ _ _ s long sp xs ⟨s.piece, s.way⟩ _ ((unhide H).below (below_then (by repeat (first | with_reducible exact Below.refl _ _ | refine Below.setCell ?_ (by first | omega | (simp <;> omega) | (simp [World.setCell] <;> omega)) _ | refine Below.alloc ?_ (by first | omega | (simp <;> omega) | (simp [World.setCell] <;> omega)) _ | refine Below.drew ?_ | refine below_draws ?_ _ | exact Below.refl _ _)) hb1)) (by omega)).mono ?_; rintro e w2 ⟨⟨v2, rfl⟩, hg2, ho2⟩; obtain ⟨d0, d1, d2, d3, _⟩ := hg2.cells))
  have hb1' : Below w.heap.size w w1 := below_then (by repeat (first | with_reducible exact Below.refl _ _ | refine Below.setCell ?_ (by first | omega | (simp <;> omega) | (simp [World.setCell] <;> omega)) _ | refine Below.alloc ?_ (by first | omega | (simp <;> omega) | (simp [World.setCell] <;> omega)) _ | refine Below.drew ?_ | refine below_draws ?_ _ | exact Below.refl _ _)) hb1
  have hO2 : Only (fun k => k = B) w w2 := (only_of_below hb1').trans ho2
  have hX2 : Boxed w2 w.heap.size [.int .i64 xp, .int .i64 xy] := by
    have h1 : Boxed w1 w.heap.size [.int .i64 xp, .int .i64 xy] := ((boxed_alloc _ _ _).drew).below hb1
    exact h1.only ho2 (by omega)
  have hz2 : ∀ j, j < 412 → w2.frozen? ⟨B, j, none⟩ = false := by
    obtain ⟨f, fs, ho, _⟩ := hg2
    exact fun j hj => by simpa using (ho.2 j hj).2
  have z0 := hz2 0 (by omega)
  have z1 := hz2 1 (by omega)
  have z2 := hz2 2 (by omega)
  have x0 := hX2.2.1 0 _ rfl
  have x1 := hX2.2.1 1 _ rfl
  have hB2 := hg2.lt
  have hXl := hX2.1
  have hg3 := (((hg2.set.1 xp).set.2.1 0).set.2.2.1 xy)
  have HG3 := hide hg3
  have HO2 := hide hO2
  have hxo := unhide HXO
  have hx0 := hxo.1
  have hy := hxo.2
  dsimp only at hx0 hy
  obtain ⟨pb, poff, hka, hpb, p1⟩ := (unhide HKO w2 hO2).len hx0.1 hx0.2
  subst hka
  obtain ⟨xn, rfl⟩ := Int.eq_ofNat_of_zero_le hx0.1
  simp only [Int.toNat_natCast] at p1
  have hO3 : Only (fun k => k = B) w (((w2.setCell ⟨B, 0, none⟩ (.int .i64 xn)).setCell ⟨B, 1, none⟩ (.int .i64 0)).setCell ⟨B, 2, none⟩ (.int .i64 xy)) :=
    ((hO2.trans (only_setCell (S := fun k => k = B) _ (p := ⟨B, 0, none⟩) rfl _)).trans (only_setCell (S := fun k => k = B) _ (p := ⟨B, 1, none⟩) rfl _)).trans (only_setCell (S := fun k => k = B) _ (p := ⟨B, 2, none⟩) rfl _)
  have HO3 := hide hO3
  clear hg2 hg3 hO2 hO3 hz2 hxo c0 c1 c2 c3 c411 ho2
  rcases hy with rfl | rfl
  · go_wp2
    go_ret
    refine ⟨rfl, ?_, unhide HO3⟩
    simpa using unhide HG3
  · have HG4 := hide ((unhide HG3).set.2.1 (lenOf n xn))
    have HO4 := hide ((unhide HO3).trans (only_setCell (S := fun k => k = B) _ (p := ⟨B, 1, none⟩) rfl (.int .i64 (lenOf n xn))))
    have npB : ¬ pb = B := unhide HKB pb poff rfl
    have npB2 : ¬ B = pb := fun h => npB h.symm
    go_wp2_with fail
    go_region
    go_wp2
    go_ret
    refine ⟨rfl, ?_, (unhide HO4).on (by repeat (first | with_reducible exact Below.refl _ _ | refine Below.setCell ?_ (by first | omega | (simp <;> omega) | (simp [World.setCell] <;> omega)) _ | refine Below.alloc ?_ (by first | omega | (simp <;> omega) | (simp [World.setCell] <;> omega)) _ | refine Below.drew ?_ | refine below_draws ?_ _ | exact Below.refl _ _))⟩
    have := (unhide HG4).below (w' := ((((w2.setCell ⟨B, 0, none⟩ (.int .i64 xn)).setCell ⟨B, 1, none⟩ (.int .i64 0)).setCell ⟨B, 2, none⟩ (.int .i64 (-1))).setCell ⟨B, 1, none⟩ (.int .i64 (lenOf n xn))).drew) (Below.drew (Below.refl _ _))
    simpa using this

end Go.Proofs.YtbdggfpfpjijoabGreatDoor

namespace Go.Proofs.YtbdggfpfpjijoabGreatDoor
open Go.RowKit

/-- How far a front rolls on its piece. -/
def rollTo (n : Nt) (s : Sp) (far : Int) : Int := if behind n s + far ≤ lenOf n s.piece then behind n s + far else lenOf n s.piece

set_option maxRecDepth 100000 in
set_option maxHeartbeats 4000000 in
theorem roll_any (B : Nat) (n : Nt) (ka ksh kst : Option Addr) (kca kcsh kcst : Nat) (s : Sp) (long sp far : Int) (xs : List St) (w : World) (h : GB w B (.slice ka n.pieces.length kca) (.slice ksh n.joints.length kcsh) (.slice kst n.pieces.length kcst) s long sp xs)
    (hkO : ∀ wb, Only (fun k => k = B) w wb → TrkAt 0 wb (.agg #[.slice ka n.pieces.length kca, .slice ksh n.joints.length kcsh, .slice kst n.pieces.length kcst]) n) (hkB : ∀ b off, ka = some ⟨b, off, none⟩ → b ≠ B) (hG : NetGood n) (hs : SpotOk n s) (hxs : ∀ x ∈ xs, StepOk n x) (hsp : 0 ≤ sp ∧ sp ≤ 10000000) (hfar : 0 ≤ far ∧ far ≤ 10000) :
    Calls Tryz.prog 101 #[.pointer (some ⟨B, 0, none⟩), .int .i64 far] w fun e w' =>
      e = .returned (.agg #[.int .i64 s.piece, .int .i64 s.way, .int .i64 (behind n s), .int .i64 (rollTo n s far)])
      ∧ GB w' B (.slice ka n.pieces.length kca) (.slice ksh n.joints.length kcsh) (.slice kst n.pieces.length kcst) ⟨s.piece, s.at_ + s.way * (rollTo n s far - behind n s), s.way⟩ long (leaveR n (sp + (rollTo n s far - behind n s)) xs.reverse).1 (leaveR n (sp + (rollTo n s far - behind n s)) xs.reverse).2.reverse ∧ Only (fun k => k = B) w w' := by
  obtain ⟨fp, fa, fy⟩ := s
  obtain ⟨fn, rfl⟩ : ∃ fn : Nat, fp = fn := Int.eq_ofNat_of_zero_le hs.1.1
  have hB := h.lt
  obtain ⟨c0, c1, c2, c3, c4, c5, _, c7, _⟩ := h.cells
  have hlen := hG.len hs.1.1 hs.1.2
  have hbe := spot_behind hG hs
  have hble : behind n ⟨fn, fa, fy⟩ ≤ lenOf n fn := by
    have h3 := hs.2.2
    unfold behind room
    dsimp only at h3 ⊢
    split <;> omega
  dsimp only at hlen c0 c1 c2
  have hyy := hs.2.1
  have haa := hs.2.2
  dsimp only at hyy haa
  have H := hide h
  have HKO := hide hkO
  have HXS := hide hxs
  have HS := hide hs
  have HKB := hide hkB
  clear h hkO hxs hkB
  go_enter Tryz.func101, Tryz.ntmps101
  go_wp2_with fail
  go_region_held3 (fun w' => w'.cell? ⟨B, 0, none⟩ = some (.int .i64 fn) ∧ w'.cell? ⟨B, 1, none⟩ = some (.int .i64 fa) ∧ w'.cell? ⟨B, 2, none⟩ = some (.int .i64 fy) ∧ w'.cell? ⟨B, 3, none⟩ = some (.slice ka n.pieces.length kca) ∧ w'.cell? ⟨B, 4, none⟩ = some (.slice ksh n.joints.length kcsh) ∧ w'.cell? ⟨B, 5, none⟩ = some (.slice kst n.pieces.length kcst)) (((try dsimp only); (repeat' apply And.intro)) <;> (go_keep; done))
    (first
      | (go_at_call 138; refine (kbehind_any _ n ⟨fn, fa, fy⟩ _ ((unhide HKO w (only_refl _ _)).below (by repeat (first | with_reducible exact Below.refl _ _ | refine Below.setCell ?_ (by first | omega | (simp <;> omega) | (simp [World.setCell] <;> omega)) _ | refine Below.alloc ?_ (by first | omega | (simp <;> omega) | (simp [World.setCell] <;> omega)) _ | refine Below.drew ?_ | refine below_draws ?_ _ | exact Below.refl _ _))) (unhide HS) hlen.2).mono ?_; rintro e w1 ⟨rfl, hb1⟩; obtain ⟨hc1, hf1⟩ := bcell hb1; have q0 := hc1 (B) (0) (by first | (simp; done) | (simp; omega) | omega); have q1 := hc1 (B) (1) (by first | (simp; done) | (simp; omega) | omega); have q2 := hc1 (B) (2) (by first | (simp; done) | (simp; omega) | omega); have q3 := hc1 (B) (3) (by first | (simp; done) | (simp; omega) | omega); have q4 := hc1 (B) (4) (by first | (simp; done) | (simp; omega) | omega); have q5 := hc1 (B) (5) (by first | (simp; done) | (simp; omega) | omega)))
  have hbw1 : Below w.heap.size w w1 := below_then (by repeat (first | with_reducible exact Below.refl _ _ | refine Below.setCell ?_ (by first | omega | (simp <;> omega) | (simp [World.setCell] <;> omega)) _ | refine Below.alloc ?_ (by first | omega | (simp <;> omega) | (simp [World.setCell] <;> omega)) _ | refine Below.drew ?_ | refine below_draws ?_ _ | exact Below.refl _ _)) hb1
  have hR1 : Boxed w1 w.heap.size [.int .i64 0, .int .i64 0, .int .i64 0, .int .i64 0] := ((boxed_alloc _ _ _).drew).below hb1
  have hg1 := (unhide H).below hbw1
  obtain ⟨d0, d1, d2, d3, d4, d5, _, d7, _⟩ := hg1.cells
  have HG1 := hide hg1
  have hz1 : ∀ j, j < 412 → w1.frozen? ⟨B, j, none⟩ = false := by
    obtain ⟨f, fs, ho, _⟩ := hg1
    exact fun j hj => by simpa using (ho.2 j hj).2
  have z1 := hz1 1 (by omega)
  have z7 := hz1 7 (by omega)
  have hB1 := hg1.lt
  clear hg1 hz1 c0 c1 c2 c3 c4 c5 c7 q0 q1 q2 q3 q4 q5 hc1 hf1
  obtain ⟨pb, poff, hka, hpb, p1⟩ := ((unhide HKO w1 (only_of_below hbw1)).pcs).len hs.1.1 hs.1.2
  subst hka
  have npB : ¬ pb = B := unhide HKB pb poff rfl
  have npB2 : ¬ B = pb := fun h => npB h.symm
  dsimp only at p1 d0 d1 d2
  simp only [Int.toNat_natCast] at p1
  have hs0 := hs.1
  dsimp only at hs0
  obtain ⟨beh, hbeq⟩ : ∃ beh, behind n ⟨fn, fa, fy⟩ = beh := ⟨_, rfl⟩
  obtain ⟨hi, hhi⟩ : ∃ hi, rollTo n ⟨fn, fa, fy⟩ far = hi := ⟨_, rfl⟩
  have hmin : hi = if beh + far ≤ lenOf n fn then beh + far else lenOf n fn := by rw [← hhi, ← hbeq]; rfl
  rw [hbeq] at hbe hble ⊢
  have HBE := hide hbeq
  have HHI := hide hhi
  have hhib : beh ≤ hi ∧ hi ≤ lenOf n fn ∧ hi ≤ beh + far := by rw [hmin]; split <;> omega
  have HMIN := hide hmin
  clear hbeq hhi hmin
  go_wp2_with fail
  go_quiet (fail)
  have hif : (if lenOf n fn < beh + far then lenOf n fn else beh + far) = hi := by rw [unhide HMIN]; split <;> split <;> omega
  rw [hif]
  clear hif
  rcases hyy with rfl | rfl
  · have wa := wrap_small (x := hi - beh) (by omega) (by omega)
    have wb := wrap_small (x := 1 * (hi - beh)) (by omega) (by omega)
    have wd := wrap_small (x := fa + (hi - beh)) (by omega) (by omega)
    go_wp2_with fail
    go_region
    go_wp2_with fail
    have hbD : Below w1.heap.size w1 (w1.drewN (nq + 1)) := (by repeat (first | with_reducible exact Below.refl _ _ | refine Below.setCell ?_ (by first | omega | (simp <;> omega) | (simp [World.setCell] <;> omega)) _ | refine Below.alloc ?_ (by first | omega | (simp <;> omega) | (simp [World.setCell] <;> omega)) _ | refine Below.drew ?_ | refine below_draws ?_ _ | exact Below.refl _ _))
    have hgX := ((((unhide HG1).below hbD).set.2.1 (fa + (hi - beh))).set.2.2.2 (sp + (hi - beh)))
    have hOX : Only (fun k => k = B) w (((w1.drewN (nq + 1)).setCell ⟨B, 1, none⟩ (.int .i64 (fa + (hi - beh)))).setCell ⟨B, 7, none⟩ (.int .i64 (sp + (hi - beh)))) := ((only_of_below (below_then hbw1 hbD)).trans (only_setCell (S := fun k => k = B) _ (p := ⟨B, 1, none⟩) rfl _)).trans (only_setCell (S := fun k => k = B) _ (p := ⟨B, 7, none⟩) rfl _)
    have hRX := ((hR1.below hbD).apart (p := ⟨B, 1, none⟩) (show w.heap.size ≠ B by omega) (.int .i64 (fa + (hi - beh)))).apart (p := ⟨B, 7, none⟩) (show w.heap.size ≠ B by omega) (.int .i64 (sp + (hi - beh)))
    refine (leaveBehind_any B n _ ksh kst kca kcsh kcst ⟨fn, fa + (hi - beh), 1⟩ long (sp + (hi - beh)) xs _ hgX (fun wb ho => (unhide HKO wb (hOX.trans ho)).pcs) hG (unhide HXS) ⟨by omega, by omega⟩).mono ?_
    rintro e w2 ⟨⟨v2, rfl⟩, hg2, ho2⟩
    obtain ⟨g0, g1, g2, _⟩ := hg2.cells
    have hR2 := hRX.only ho2 (by omega)
    have HG2 := hide hg2
    have HO2 := hide (hOX.trans ho2)
    have hB2 := hg2.lt
    clear hg2 hgX hOX hRX d0 d1 d2 d3 d4 d5 d7 wa wb wd
    dsimp only at g0 g1 g2
    go_wp2_with fail
    refine (step_any ⟨fn, fa + (hi - beh), 1⟩ _).mono ?_
    rintro e w3 ⟨rfl, hb3⟩
    have hR3 := hR2.below hb3
    have r0 := hR3.2.1 0 _ rfl
    have r1 := hR3.2.1 1 _ rfl
    have r2 := hR3.2.1 2 _ rfl
    have r3 := hR3.2.1 3 _ rfl
    have rz := hR3.2.2
    have rl := hR3.1
    go_wp2
    refine bodyPost_ret (v := .agg #[.int .i64 fn, .int .i64 1, .int .i64 beh, .int .i64 hi]) (by simp [results, Tryz.results101, go_sem, r0, r1, r2, r3]) rfl ⟨by rw [unhide HHI, unhide HBE], ?_, ((unhide HO2).trans (only_of_below hb3)).on (by repeat (first | with_reducible exact Below.refl _ _ | refine Below.setCell ?_ (by first | omega | (simp <;> omega) | (simp [World.setCell] <;> omega)) _ | refine Below.alloc ?_ (by first | omega | (simp <;> omega) | (simp [World.setCell] <;> omega)) _ | refine Below.drew ?_ | refine below_draws ?_ _ | exact Below.refl _ _))⟩
    rw [unhide HHI, unhide HBE]
    obtain ⟨f, fs, ho, hbi⟩ := (unhide HG2).below hb3
    refine ⟨f, fs, ho.of_block ?_ (by simp [World.setCell]), ?_⟩
    · rw [Below.heap_setCell _ _ _ B (by simp; omega), Below.heap_setCell _ _ _ B (by simp; omega), Below.heap_setCell _ _ _ B (by simp; omega), Below.heap_setCell _ _ _ B (by simp; omega)]
    · simpa using hbi
  · have wa := wrap_small (x := hi - beh) (by omega) (by omega)
    have wb := wrap_small (x := (-1) * (hi - beh)) (by omega) (by omega)
    have wd := wrap_small (x := fa + (-(hi - beh))) (by omega) (by omega)
    go_wp2_with fail
    go_region
    go_wp2_with fail
    have hbD : Below w1.heap.size w1 (w1.drewN (nq + 1)) := (by repeat (first | with_reducible exact Below.refl _ _ | refine Below.setCell ?_ (by first | omega | (simp <;> omega) | (simp [World.setCell] <;> omega)) _ | refine Below.alloc ?_ (by first | omega | (simp <;> omega) | (simp [World.setCell] <;> omega)) _ | refine Below.drew ?_ | refine below_draws ?_ _ | exact Below.refl _ _))
    have hgX := ((((unhide HG1).below hbD).set.2.1 (fa + (-(hi - beh)))).set.2.2.2 (sp + (hi - beh)))
    have hOX : Only (fun k => k = B) w (((w1.drewN (nq + 1)).setCell ⟨B, 1, none⟩ (.int .i64 (fa + (-(hi - beh))))).setCell ⟨B, 7, none⟩ (.int .i64 (sp + (hi - beh)))) := ((only_of_below (below_then hbw1 hbD)).trans (only_setCell (S := fun k => k = B) _ (p := ⟨B, 1, none⟩) rfl _)).trans (only_setCell (S := fun k => k = B) _ (p := ⟨B, 7, none⟩) rfl _)
    have hRX := ((hR1.below hbD).apart (p := ⟨B, 1, none⟩) (show w.heap.size ≠ B by omega) (.int .i64 (fa + (-(hi - beh))))).apart (p := ⟨B, 7, none⟩) (show w.heap.size ≠ B by omega) (.int .i64 (sp + (hi - beh)))
    refine (leaveBehind_any B n _ ksh kst kca kcsh kcst ⟨fn, fa + (-(hi - beh)), (-1)⟩ long (sp + (hi - beh)) xs _ hgX (fun wb ho => (unhide HKO wb (hOX.trans ho)).pcs) hG (unhide HXS) ⟨by omega, by omega⟩).mono ?_
    rintro e w2 ⟨⟨v2, rfl⟩, hg2, ho2⟩
    obtain ⟨g0, g1, g2, _⟩ := hg2.cells
    have hR2 := hRX.only ho2 (by omega)
    have HG2 := hide hg2
    have HO2 := hide (hOX.trans ho2)
    have hB2 := hg2.lt
    clear hg2 hgX hOX hRX d0 d1 d2 d3 d4 d5 d7 wa wb wd
    dsimp only at g0 g1 g2
    go_wp2_with fail
    refine (step_any ⟨fn, fa + (-(hi - beh)), (-1)⟩ _).mono ?_
    rintro e w3 ⟨rfl, hb3⟩
    have hR3 := hR2.below hb3
    have r0 := hR3.2.1 0 _ rfl
    have r1 := hR3.2.1 1 _ rfl
    have r2 := hR3.2.1 2 _ rfl
    have r3 := hR3.2.1 3 _ rfl
    have rz := hR3.2.2
    have rl := hR3.1
    go_wp2
    refine bodyPost_ret (v := .agg #[.int .i64 fn, .int .i64 (-1), .int .i64 beh, .int .i64 hi]) (by simp [results, Tryz.results101, go_sem, r0, r1, r2, r3]) rfl ⟨by rw [unhide HHI, unhide HBE], ?_, ((unhide HO2).trans (only_of_below hb3)).on (by repeat (first | with_reducible exact Below.refl _ _ | refine Below.setCell ?_ (by first | omega | (simp <;> omega) | (simp [World.setCell] <;> omega)) _ | refine Below.alloc ?_ (by first | omega | (simp <;> omega) | (simp [World.setCell] <;> omega)) _ | refine Below.drew ?_ | refine below_draws ?_ _ | exact Below.refl _ _))⟩
    rw [unhide HHI, unhide HBE]
    obtain ⟨f, fs, ho, hbi⟩ := (unhide HG2).below hb3
    refine ⟨f, fs, ho.of_block ?_ (by simp [World.setCell]), ?_⟩
    · rw [Below.heap_setCell _ _ _ B (by simp; omega), Below.heap_setCell _ _ _ B (by simp; omega), Below.heap_setCell _ _ _ B (by simp; omega), Below.heap_setCell _ _ _ B (by simp; omega)]
    · simpa using hbi

end Go.Proofs.YtbdggfpfpjijoabGreatDoor

