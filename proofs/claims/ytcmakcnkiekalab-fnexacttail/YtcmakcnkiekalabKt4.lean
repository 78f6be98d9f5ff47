import Derived.Test.YtcmakcnkiekalabKt3
namespace Go.Proofs.Ytcmakcnkiekalab
open Go.RowKit

theorem opposite_eqv (a b e g : Int) (w : World) :
    Calls Try.prog 144 #[.agg #[.int .i64 a, .int .i64 b], .agg #[.int .i64 a, .int .i64 b], .agg #[.int .i64 e, .int .i64 g]] w fun e' w' => e' = .returned (.agg #[.int .i64 e, .int .i64 g]) ∧ Below w.heap.size w w' :=
  opposite_eq ⟨a, b⟩ ⟨a, b⟩ ⟨e, g⟩ w rfl
theorem opposite_nev (a b c d e g : Int) (w : World) (h : ¬ (a = c ∧ b = d)) :
    Calls Try.prog 144 #[.agg #[.int .i64 a, .int .i64 b], .agg #[.int .i64 c, .int .i64 d], .agg #[.int .i64 e, .int .i64 g]] w fun e' w' => e' = .returned (.agg #[.int .i64 c, .int .i64 d]) ∧ Below w.heap.size w w' :=
  opposite_ne ⟨a, b⟩ ⟨c, d⟩ ⟨e, g⟩ w (fun h' => h (by simpa using h'))

set_option maxRecDepth 100000 in
set_option maxHeartbeats 2000000 in
theorem over_any (kv : Value) (n : Nt) (f : Ed) (i k : Nat) (lie : Int) (r : Ed) (q : Int) (w : World) {L : Nat} (hk : TrkAt L w kv n) (hG : NetGood n) (hf : EdFits n.pieces.length f) (hst : StandsAt n.joints f i k) (hr : overJ (n.joints[i]'hst.1) k lie = (r, q)) :
    Calls Try.prog 128 #[kv, .agg #[.int .i64 f.piece, .int .i64 f.side], .int .i64 lie] w fun e w' => e = .returned (.tuple #[.agg #[.int .i64 r.piece, .int .i64 r.side], .int .i64 q]) ∧ Below w.heap.size w w' := by
  have hkk := hk
  have hap := hG.apart hf hst
  have hi := hst.1
  obtain ⟨a, ca, sh, csh, st, cst, rfl, hp, hsh, hsd⟩ := hk
  obtain ⟨b, off, sv, rfl, hb, c1, hsv⟩ := hsh i hi
  have hv : OverV sv f lie r q := by
    obtain ⟨_, hke, hfe⟩ := hst
    have := overV_of lie hsv hke hfe hap
    rw [hr] at this
    exact this
  clear hsv hap hr
  have hb1 := hb.2
  have hb2 : b < w.heap.size + 1 + 1 + 1 := by omega
  have hb3' : b < w.heap.size + 1 + 1 := by omega
  have hb4' : b < w.heap.size + 1 := by omega
  have hii : (i : Int) < (n.joints.length : Int) := by omega
  have HST := hide hst
  clear hst
  rcases hv with ⟨x0, rfl, rfl, rfl⟩ | ⟨x0, x1, rfl, hv, rfl⟩ | ⟨x0, x1, x2, rfl, hv⟩ | ⟨x0, x1, x2, x3, rfl, hv, rfl⟩
  · have t1 := ta12
    have t2 := ta13
    have t3 := ta14
    go_enter Try.func128, Try.ntmps128
    go_wp2_with fail
    refine wp_region_grown (by kernel_rfl) (by kernel_rfl) (fun hgn hgc => ?_)
    repeat (go_big_quiet_step ((go_at_call 100; rename_i g; exact g.call (jointAt_any _ n f i k _ (hkk.below (below_then (by repeat (first | with_reducible exact Below.refl _ _ | refine Below.setCell ?_ (by first | omega | (simp <;> omega) | (simp [World.setCell] <;> omega)) _ | refine Below.alloc ?_ (by first | omega | (simp <;> omega) | (simp [World.setCell] <;> omega)) _ | refine Below.drew ?_ | refine below_draws ?_ _ | exact Below.refl _ _)) g.below)) hG hf (unhide HST)))))
    refine wpQuiet_nil ?_
    intro wq hwq
    obtain ⟨hbq, hF, hR⟩ : Below w.heap.size w wq ∧ Boxed wq (w.heap.size + 1) [.int .i64 f.piece, .int .i64 f.side] ∧ Boxed wq (w.heap.size + 1 + 1) [.int .i64 0, .int .i64 0] := by
      obtain ⟨g, rfl⟩ := hwq
      exact ⟨below_then (by repeat (first | with_reducible exact Below.refl _ _ | refine Below.setCell ?_ (by first | omega | (simp <;> omega) | (simp [World.setCell] <;> omega)) _ | refine Below.alloc ?_ (by first | omega | (simp <;> omega) | (simp [World.setCell] <;> omega)) _ | refine Below.drew ?_ | refine below_draws ?_ _ | exact Below.refl _ _)) g.below, ((boxedN _ _ _ (by simp)).alloc _).below g.below, (boxedN _ _ _ (by simp)).below g.below⟩
    clear hwq hgc hgn
    have r0 := hR.2.1 0 _ rfl
    have r1 := hR.2.1 1 _ rfl
    have rz := hR.2.2
    have rl := hR.1
    have hsz := hbq.size
    go_wp2
    exact bodyPost_ret (v := .tuple #[.agg #[.int .i64 0, .int .i64 0], .int .i64 1]) (by simp [results, Try.results128, go_sem, r0, r1]) rfl ⟨rfl, (by repeat (first | with_reducible exact Below.refl _ _ | with_reducible exact hbq | refine Below.setCell ?_ (by first | omega | (simp <;> omega) | (simp [World.setCell] <;> omega)) _ | refine Below.alloc ?_ (by first | omega | (simp <;> omega) | (simp [World.setCell] <;> omega)) _ | refine Below.drew ?_ | refine below_draws ?_ _ | exact hbq | exact Below.refl _ _))⟩
  · have t1 := ta22
    rcases hv with ⟨hv1, rfl⟩ | ⟨hv1, rfl⟩
    · have HV := hide hv1
      clear hv1
      go_enter Try.func128, Try.ntmps128
      go_wp2_with fail
      refine wp_region_grown (by kernel_rfl) (by kernel_rfl) (fun hgn hgc => ?_)
      repeat (go_big_quiet_step ((go_at_call 100; rename_i g; exact g.call (jointAt_any _ n f i k _ (hkk.below (below_then (by repeat (first | with_reducible exact Below.refl _ _ | refine Below.setCell ?_ (by first | omega | (simp <;> omega) | (simp [World.setCell] <;> omega)) _ | refine Below.alloc ?_ (by first | omega | (simp <;> omega) | (simp [World.setCell] <;> omega)) _ | refine Below.drew ?_ | refine below_draws ?_ _ | exact Below.refl _ _)) g.below)) hG hf (unhide HST)))))
      refine wpQuiet_nil ?_
      intro wq hwq
      obtain ⟨hbq, hF, hR⟩ : Below w.heap.size w wq ∧ Boxed wq (w.heap.size + 1) [.int .i64 f.piece, .int .i64 f.side] ∧ Boxed wq (w.heap.size + 1 + 1) [.int .i64 0, .int .i64 0] := by
        obtain ⟨g, rfl⟩ := hwq
        exact ⟨below_then (by repeat (first | with_reducible exact Below.refl _ _ | refine Below.setCell ?_ (by first | omega | (simp <;> omega) | (simp [World.setCell] <;> omega)) _ | refine Below.alloc ?_ (by first | omega | (simp <;> omega) | (simp [World.setCell] <;> omega)) _ | refine Below.drew ?_ | refine below_draws ?_ _ | exact Below.refl _ _)) g.below, ((boxedN _ _ _ (by simp)).alloc _).below g.below, (boxedN _ _ _ (by simp)).below g.below⟩
      clear hwq hgc hgn
      have r0 := hR.2.1 0 _ rfl
      have r1 := hR.2.1 1 _ rfl
      have rz := hR.2.2
      have rl := hR.1
      have f0 := hF.2.1 0 _ rfl
      have f1 := hF.2.1 1 _ rfl
      have fl := hF.1
      have hsz := hbq.size
      go_wp2_with fail
      refine (opposite_eq f x0 r _ (unhide HV)).mono ?_
      rintro e w3 ⟨rfl, hb3⟩
      have hR3 := (hR.alloc _).below hb3
      have r0' := hR3.2.1 0 _ rfl
      have r1' := hR3.2.1 1 _ rfl
      have rz' := hR3.2.2
      have rl' := hR3.1
      have hbq3 := below_then (below_then hbq (by repeat (first | with_reducible exact Below.refl _ _ | refine Below.setCell ?_ (by first | omega | (simp <;> omega) | (simp [World.setCell] <;> omega)) _ | refine Below.alloc ?_ (by first | omega | (simp <;> omega) | (simp [World.setCell] <;> omega)) _ | refine Below.drew ?_ | refine below_draws ?_ _ | exact Below.refl _ _))) hb3
      have hsz3 := hbq3.size
      go_wp2
      exact bodyPost_ret (v := .tuple #[.agg #[.int .i64 r.piece, .int .i64 r.side], .int .i64 0]) (by simp [results, Try.results128, go_sem, r0', r1']) rfl ⟨rfl, (by repeat (first | with_reducible exact Below.refl _ _ | with_reducible exact hbq3 | refine Below.setCell ?_ (by first | omega | (simp <;> omega) | (simp [World.setCell] <;> omega)) _ | refine Below.alloc ?_ (by first | omega | (simp <;> omega) | (simp [World.setCell] <;> omega)) _ | refine Below.drew ?_ | refine below_draws ?_ _ | exact hbq3 | exact Below.refl _ _))⟩
    · have HV := hide hv1
      clear hv1
      go_enter Try.func128, Try.ntmps128
      go_wp2_with fail
      refine wp_region_grown (by kernel_rfl) (by kernel_rfl) (fun hgn hgc => ?_)
      repeat (go_big_quiet_step ((go_at_call 100; rename_i g; exact g.call (jointAt_any _ n f i k _ (hkk.below (below_then (by repeat (first | with_reducible exact Below.refl _ _ | refine Below.setCell ?_ (by first | omega | (simp <;> omega) | (simp [World.setCell] <;> omega)) _ | refine Below.alloc ?_ (by first | omega | (simp <;> omega) | (simp [World.setCell] <;> omega)) _ | refine Below.drew ?_ | refine below_draws ?_ _ | exact Below.refl _ _)) g.below)) hG hf (unhide HST)))))
      refine wpQuiet_nil ?_
      intro wq hwq
      obtain ⟨hbq, hF, hR⟩ : Below w.heap.size w wq ∧ Boxed wq (w.heap.size + 1) [.int .i64 f.piece, .int .i64 f.side] ∧ Boxed wq (w.heap.size + 1 + 1) [.int .i64 0, .int .i64 0] := by
        obtain ⟨g, rfl⟩ := hwq
        exact ⟨below_then (by repeat (first | with_reducible exact Below.refl _ _ | refine Below.setCell ?_ (by first | omega | (simp <;> omega) | (simp [World.setCell] <;> omega)) _ | refine Below.alloc ?_ (by first | omega | (simp <;> omega) | (simp [World.setCell] <;> omega)) _ | refine Below.drew ?_ | refine below_draws ?_ _ | exact Below.refl _ _)) g.below, ((boxedN _ _ _ (by simp)).alloc _).below g.below, (boxedN _ _ _ (by simp)).below g.below⟩
      clear hwq hgc hgn
      have r0 := hR.2.1 0 _ rfl
      have r1 := hR.2.1 1 _ rfl
      have rz := hR.2.2
      have rl := hR.1
      have f0 := hF.2.1 0 _ rfl
      have f1 := hF.2.1 1 _ rfl
      have fl := hF.1
      have hsz := hbq.size
      go_wp2_with fail
      refine (opposite_ne f r x1 _ (unhide HV)).mono ?_
      rintro e w3 ⟨rfl, hb3⟩
      have hR3 := (hR.alloc _).below hb3
      have r0' := hR3.2.1 0 _ rfl
      have r1' := hR3.2.1 1 _ rfl
      have rz' := hR3.2.2
      have rl' := hR3.1
      have hbq3 := below_then (below_then hbq (by repeat (first | with_reducible exact Below.refl _ _ | refine Below.setCell ?_ (by first | omega | (simp <;> omega) | (simp [World.setCell] <;> omega)) _ | refine Below.alloc ?_ (by first | omega | (simp <;> omega) | (simp [World.setCell] <;> omega)) _ | refine Below.drew ?_ | refine below_draws ?_ _ | exact Below.refl _ _))) hb3
      have hsz3 := hbq3.size
      go_wp2
      exact bodyPost_ret (v := .tuple #[.agg #[.int .i64 r.piece, .int .i64 r.side], .int .i64 0]) (by simp [results, Try.results128, go_sem, r0', r1']) rfl ⟨rfl, (by repeat (first | with_reducible exact Below.refl _ _ | with_reducible exact hbq3 | refine Below.setCell ?_ (by first | omega | (simp <;> omega) | (simp [World.setCell] <;> omega)) _ | refine Below.alloc ?_ (by first | omega | (simp <;> omega) | (simp [World.setCell] <;> omega)) _ | refine Below.drew ?_ | refine below_draws ?_ _ | exact hbq3 | exact Below.refl _ _))⟩
  · have t1 := ta32
    have t2 := ta33
    have HV := hide hv
    clear hv
    go_enter Try.func128, Try.ntmps128
    go_wp2_with fail
    refine wp_region_grown (by kernel_rfl) (by kernel_rfl) (fun hgn hgc => ?_)
    repeat (go_big_quiet_step ((go_at_call 100; rename_i g; exact g.call (jointAt_any _ n f i k _ (hkk.below (below_then (by repeat (first | with_reducible exact Below.refl _ _ | refine Below.setCell ?_ (by first | omega | (simp <;> omega) | (simp [World.setCell] <;> omega)) _ | refine Below.alloc ?_ (by first | omega | (simp <;> omega) | (simp [World.setCell] <;> omega)) _ | refine Below.drew ?_ | refine below_draws ?_ _ | exact Below.refl _ _)) g.below)) hG hf (unhide HST)))))
    refine wpQuiet_nil ?_
    intro wq hwq
    obtain ⟨hbq, hF, hR⟩ : Below w.heap.size w wq ∧ Boxed wq (w.heap.size + 1) [.int .i64 f.piece, .int .i64 f.side] ∧ Boxed wq (w.heap.size + 1 + 1) [.int .i64 0, .int .i64 0] := by
      obtain ⟨g, rfl⟩ := hwq
      exact ⟨below_then (by repeat (first | with_reducible exact Below.refl _ _ | refine Below.setCell ?_ (by first | omega | (simp <;> omega) | (simp [World.setCell] <;> omega)) _ | refine Below.alloc ?_ (by first | omega | (simp <;> omega) | (simp [World.setCell] <;> omega)) _ | refine Below.drew ?_ | refine below_draws ?_ _ | exact Below.refl _ _)) g.below, ((boxedN _ _ _ (by simp)).alloc _).below g.below, (boxedN _ _ _ (by simp)).below g.below⟩
    clear hwq hgc hgn
    have r0 := hR.2.1 0 _ rfl
    have r1 := hR.2.1 1 _ rfl
    have rz := hR.2.2
    have rl := hR.1
    have f0 := hF.2.1 0 _ rfl
    have f1 := hF.2.1 1 _ rfl
    have fl := hF.1
    have hsz := hbq.size
    go_wp2_with fail
    refine (turnoutOver_any x0 x1 x2 f lie r q _ (unhide HV)).mono ?_
    rintro e w3 ⟨rfl, hb3⟩
    have hR3 := (hR.alloc _).below hb3
    have r0' := hR3.2.1 0 _ rfl
    have r1' := hR3.2.1 1 _ rfl
    have rz' := hR3.2.2
    have rl' := hR3.1
    have hbq3 := below_then (below_then hbq (by repeat (first | with_reducible exact Below.refl _ _ | refine Below.setCell ?_ (by first | omega | (simp <;> omega) | (simp [World.setCell] <;> omega)) _ | refine Below.alloc ?_ (by first | omega | (simp <;> omega) | (simp [World.setCell] <;> omega)) _ | refine Below.drew ?_ | refine below_draws ?_ _ | exact Below.refl _ _))) hb3
    have hsz3 := hbq3.size
    go_wp2
    exact bodyPost_ret (v := .tuple #[.agg #[.int .i64 r.piece, .int .i64 r.side], .int .i64 q]) (by simp [results, Try.results128, go_sem, r0', r1']) rfl ⟨rfl, (by repeat (first | with_reducible exact Below.refl _ _ | with_reducible exact hbq3 | refine Below.setCell ?_ (by first | omega | (simp <;> omega) | (simp [World.setCell] <;> omega)) _ | refine Below.alloc ?_ (by first | omega | (simp <;> omega) | (simp [World.setCell] <;> omega)) _ | refine Below.drew ?_ | refine below_draws ?_ _ | exact hbq3 | exact Below.refl _ _))⟩
  · have t1 := ta42
    have t2 := ta43
    have t3 := ta44
    rcases hv with ⟨hv1, rfl⟩ | ⟨hv1, hv2, rfl⟩ | ⟨hv1, hv2, hv3, rfl⟩ | ⟨hv1, hv2, hv3, rfl⟩
    · skip
      subst hv1
      go_enter Try.func128, Try.ntmps128
      go_wp2_with fail
      refine wp_region_grown (by kernel_rfl) (by kernel_rfl) (fun hgn hgc => ?_)
      repeat (go_big_quiet_step ((go_at_call 100; rename_i g; exact g.call (jointAt_any _ n f i k _ (hkk.below (below_then (by repeat (first | with_reducible exact Below.refl _ _ | refine Below.setCell ?_ (by first | omega | (simp <;> omega) | (simp [World.setCell] <;> omega)) _ | refine Below.alloc ?_ (by first | omega | (simp <;> omega) | (simp [World.setCell] <;> omega)) _ | refine Below.drew ?_ | refine below_draws ?_ _ | exact Below.refl _ _)) g.below)) hG hf (unhide HST)))))
      refine wpQuiet_nil ?_
      intro wq hwq
      obtain ⟨hbq, hF, hR⟩ : Below w.heap.size w wq ∧ Boxed wq (w.heap.size + 1) [.int .i64 f.piece, .int .i64 f.side] ∧ Boxed wq (w.heap.size + 1 + 1) [.int .i64 0, .int .i64 0] := by
        obtain ⟨g, rfl⟩ := hwq
        exact ⟨below_then (by repeat (first | with_reducible exact Below.refl _ _ | refine Below.setCell ?_ (by first | omega | (simp <;> omega) | (simp [World.setCell] <;> omega)) _ | refine Below.alloc ?_ (by first | omega | (simp <;> omega) | (simp [World.setCell] <;> omega)) _ | refine Below.drew ?_ | refine below_draws ?_ _ | exact Below.refl _ _)) g.below, ((boxedN _ _ _ (by simp)).alloc _).below g.below, (boxedN _ _ _ (by simp)).below g.below⟩
      clear hwq hgc hgn
      have r0 := hR.2.1 0 _ rfl
      have r1 := hR.2.1 1 _ rfl
      have rz := hR.2.2
      have rl := hR.1
      have f0 := hF.2.1 0 _ rfl
      have f1 := hF.2.1 1 _ rfl
      have fl := hF.1
      have hsz := hbq.size
      go_wp2_with fail
      all_goals first
        | (refine (opposite_eqv _ _ _ _ _).mono ?_
           rintro e w3 ⟨rfl, hb3⟩
           have hR3 := (hR.alloc _).below hb3
           have r0' := hR3.2.1 0 _ rfl
           have r1' := hR3.2.1 1 _ rfl
           have rz' := hR3.2.2
           have rl' := hR3.1
           have hbq3 := below_then (below_then hbq (by repeat (first | with_reducible exact Below.refl _ _ | refine Below.setCell ?_ (by first | omega | (simp <;> omega) | (simp [World.setCell] <;> omega)) _ | refine Below.alloc ?_ (by first | omega | (simp <;> omega) | (simp [World.setCell] <;> omega)) _ | refine Below.drew ?_ | refine below_draws ?_ _ | exact Below.refl _ _))) hb3
           have hsz3 := hbq3.size
           go_wp2
           exact bodyPost_ret (v := .tuple #[.agg #[.int .i64 r.piece, .int .i64 r.side], .int .i64 0]) (by simp [results, Try.results128, go_sem, r0', r1']) rfl ⟨rfl, (by repeat (first | with_reducible exact Below.refl _ _ | with_reducible exact hbq3 | refine Below.setCell ?_ (by first | omega | (simp <;> omega) | (simp [World.setCell] <;> omega)) _ | refine Below.alloc ?_ (by first | omega | (simp <;> omega) | (simp [World.setCell] <;> omega)) _ | refine Below.drew ?_ | refine below_draws ?_ _ | exact hbq3 | exact Below.refl _ _))⟩)
    · skip
      have HV1 : Hid (¬ (f.piece = r.piece ∧ f.side = r.side)) := fun e => hv1 (Ed.same e)
      have HV : Hid (f ≠ r) := hv1
      subst hv2
      clear hv1
      go_enter Try.func128, Try.ntmps128
      go_wp2_with fail
      refine wp_region_grown (by kernel_rfl) (by kernel_rfl) (fun hgn hgc => ?_)
      repeat (go_big_quiet_step ((go_at_call 100; rename_i g; exact g.call (jointAt_any _ n f i k _ (hkk.below (below_then (by repeat (first | with_reducible exact Below.refl _ _ | refine Below.setCell ?_ (by first | omega | (simp <;> omega) | (simp [World.setCell] <;> omega)) _ | refine Below.alloc ?_ (by first | omega | (simp <;> omega) | (simp [World.setCell] <;> omega)) _ | refine Below.drew ?_ | refine below_draws ?_ _ | exact Below.refl _ _)) g.below)) hG hf (unhide HST)))))
      refine wpQuiet_nil ?_
      intro wq hwq
      obtain ⟨hbq, hF, hR⟩ : Below w.heap.size w wq ∧ Boxed wq (w.heap.size + 1) [.int .i64 f.piece, .int .i64 f.side] ∧ Boxed wq (w.heap.size + 1 + 1) [.int .i64 0, .int .i64 0] := by
        obtain ⟨g, rfl⟩ := hwq
        exact ⟨below_then (by repeat (first | with_reducible exact Below.refl _ _ | refine Below.setCell ?_ (by first | omega | (simp <;> omega) | (simp [World.setCell] <;> omega)) _ | refine Below.alloc ?_ (by first | omega | (simp <;> omega) | (simp [World.setCell] <;> omega)) _ | refine Below.drew ?_ | refine below_draws ?_ _ | exact Below.refl _ _)) g.below, ((boxedN _ _ _ (by simp)).alloc _).below g.below, (boxedN _ _ _ (by simp)).below g.below⟩
      clear hwq hgc hgn
      have r0 := hR.2.1 0 _ rfl
      have r1 := hR.2.1 1 _ rfl
      have rz := hR.2.2
      have rl := hR.1
      have f0 := hF.2.1 0 _ rfl
      have f1 := hF.2.1 1 _ rfl
      have fl := hF.1
      have hsz := hbq.size
      go_wp2_with fail
      all_goals first
        | (exfalso; exact unhide HV1 ⟨by omega, by omega⟩)
        | (refine (opposite_nev _ _ _ _ _ _ _ (fun e => unhide HV (Ed.same ⟨by omega, by omega⟩))).mono ?_
           rintro e w3 ⟨rfl, hb3⟩
           have hR3 := (hR.alloc _).below hb3
           have r0' := hR3.2.1 0 _ rfl
           have r1' := hR3.2.1 1 _ rfl
           have rz' := hR3.2.2
           have rl' := hR3.1
           have hbq3 := below_then (below_then hbq (by repeat (first | with_reducible exact Below.refl _ _ | refine Below.setCell ?_ (by first | omega | (simp <;> omega) | (simp [World.setCell] <;> omega)) _ | refine Below.alloc ?_ (by first | omega | (simp <;> omega) | (simp [World.setCell] <;> omega)) _ | refine Below.drew ?_ | refine below_draws ?_ _ | exact Below.refl _ _))) hb3
           have hsz3 := hbq3.size
           go_wp2
           exact bodyPost_ret (v := .tuple #[.agg #[.int .i64 r.piece, .int .i64 r.side], .int .i64 0]) (by simp [results, Try.results128, go_sem, r0', r1']) rfl ⟨rfl, (by repeat (first | with_reducible exact Below.refl _ _ | with_reducible exact hbq3 | refine Below.setCell ?_ (by first | omega | (simp <;> omega) | (simp [World.setCell] <;> omega)) _ | refine Below.alloc ?_ (by first | omega | (simp <;> omega) | (simp [World.setCell] <;> omega)) _ | refine Below.drew ?_ | refine below_draws ?_ _ | exact hbq3 | exact Below.refl _ _))⟩)
    · skip
      have HV1 : Hid (¬ (f.piece = x0.piece ∧ f.side = x0.side)) := fun e => hv1 (Ed.same e)
      have HV2 : Hid (¬ (f.piece = x1.piece ∧ f.side = x1.side)) := fun e => hv2 (Ed.same e)
      subst hv3
      clear hv1 hv2
      go_enter Try.func128, Try.ntmps128
      go_wp2_with fail
      refine wp_region_grown (by kernel_rfl) (by kernel_rfl) (fun hgn hgc => ?_)
      repeat (go_big_quiet_step ((go_at_call 100; rename_i g; exact g.call (jointAt_any _ n f i k _ (hkk.below (below_then (by repeat (first | with_reducible exact Below.refl _ _ | refine Below.setCell ?_ (by first | omega | (simp <;> omega) | (simp [World.setCell] <;> omega)) _ | refine Below.alloc ?_ (by first | omega | (simp <;> omega) | (simp [World.setCell] <;> omega)) _ | refine Below.drew ?_ | refine below_draws ?_ _ | exact Below.refl _ _)) g.below)) hG hf (unhide HST)))))
      refine wpQuiet_nil ?_
      intro wq hwq
      obtain ⟨hbq, hF, hR⟩ : Below w.heap.size w wq ∧ Boxed wq (w.heap.size + 1) [.int .i64 f.piece, .int .i64 f.side] ∧ Boxed wq (w.heap.size + 1 + 1) [.int .i64 0, .int .i64 0] := by
        obtain ⟨g, rfl⟩ := hwq
        exact ⟨below_then (by repeat (first | with_reducible exact Below.refl _ _ | refine Below.setCell ?_ (by first | omega | (simp <;> omega) | (simp [World.setCell] <;> omega)) _ | refine Below.alloc ?_ (by first | omega | (simp <;> omega) | (simp [World.setCell] <;> omega)) _ | refine Below.drew ?_ | refine below_draws ?_ _ | exact Below.refl _ _)) g.below, ((boxedN _ _ _ (by simp)).alloc _).below g.below, (boxedN _ _ _ (by simp)).below g.below⟩
      clear hwq hgc hgn
      have r0 := hR.2.1 0 _ rfl
      have r1 := hR.2.1 1 _ rfl
      have rz := hR.2.2
      have rl := hR.1
      have f0 := hF.2.1 0 _ rfl
      have f1 := hF.2.1 1 _ rfl
      have fl := hF.1
      have hsz := hbq.size
      go_wp2_with fail
      all_goals first
        | (exfalso; exact unhide HV1 ⟨by omega, by omega⟩)
        | (exfalso; exact unhide HV2 ⟨by omega, by omega⟩)
        | (refine (opposite_eqv _ _ _ _ _).mono ?_
           rintro e w3 ⟨rfl, hb3⟩
           have hR3 := (hR.alloc _).below hb3
           have r0' := hR3.2.1 0 _ rfl
           have r1' := hR3.2.1 1 _ rfl
           have rz' := hR3.2.2
           have rl' := hR3.1
           have hbq3 := below_then (below_then hbq (by repeat (first | with_reducible exact Below.refl _ _ | refine Below.setCell ?_ (by first | omega | (simp <;> omega) | (simp [World.setCell] <;> omega)) _ | refine Below.alloc ?_ (by first | omega | (simp <;> omega) | (simp [World.setCell] <;> omega)) _ | refine Below.drew ?_ | refine below_draws ?_ _ | exact Below.refl _ _))) hb3
           have hsz3 := hbq3.size
           go_wp2
           exact bodyPost_ret (v := .tuple #[.agg #[.int .i64 r.piece, .int .i64 r.side], .int .i64 0]) (by simp [results, Try.results128, go_sem, r0', r1']) rfl ⟨rfl, (by repeat (first | with_reducible exact Below.refl _ _ | with_reducible exact hbq3 | refine Below.setCell ?_ (by first | omega | (simp <;> omega) | (simp [World.setCell] <;> omega)) _ | refine Below.alloc ?_ (by first | omega | (simp <;> omega) | (simp [World.setCell] <;> omega)) _ | refine Below.drew ?_ | refine below_draws ?_ _ | exact hbq3 | exact Below.refl _ _))⟩)
    · skip
      have HV1 : Hid (¬ (f.piece = x0.piece ∧ f.side = x0.side)) := fun e => hv1 (Ed.same e)
      have HV2 : Hid (¬ (f.piece = x1.piece ∧ f.side = x1.side)) := fun e => hv2 (Ed.same e)
      have HV : Hid (f ≠ r) := hv3
      clear hv1 hv2 hv3
      go_enter Try.func128, Try.ntmps128
      go_wp2_with fail
      refine wp_region_grown (by kernel_rfl) (by kernel_rfl) (fun hgn hgc => ?_)
      repeat (go_big_quiet_step ((go_at_call 100; rename_i g; exact g.call (jointAt_any _ n f i k _ (hkk.below (below_then (by repeat (first | with_reducible exact Below.refl _ _ | refine Below.setCell ?_ (by first | omega | (simp <;> omega) | (simp [World.setCell] <;> omega)) _ | refine Below.alloc ?_ (by first | omega | (simp <;> omega) | (simp [World.setCell] <;> omega)) _ | refine Below.drew ?_ | refine below_draws ?_ _ | exact Below.refl _ _)) g.below)) hG hf (unhide HST)))))
      refine wpQuiet_nil ?_
      intro wq hwq
      obtain ⟨hbq, hF, hR⟩ : Below w.heap.size w wq ∧ Boxed wq (w.heap.size + 1) [.int .i64 f.piece, .int .i64 f.side] ∧ Boxed wq (w.heap.size + 1 + 1) [.int .i64 0, .int .i64 0] := by
        obtain ⟨g, rfl⟩ := hwq
        exact ⟨below_then (by repeat (first | with_reducible exact Below.refl _ _ | refine Below.setCell ?_ (by first | omega | (simp <;> omega) | (simp [World.setCell] <;> omega)) _ | refine Below.alloc ?_ (by first | omega | (simp <;> omega) | (simp [World.setCell] <;> omega)) _ | refine Below.drew ?_ | refine below_draws ?_ _ | exact Below.refl _ _)) g.below, ((boxedN _ _ _ (by simp)).alloc _).below g.below, (boxedN _ _ _ (by simp)).below g.below⟩
      clear hwq hgc hgn
      have r0 := hR.2.1 0 _ rfl
      have r1 := hR.2.1 1 _ rfl
      have rz := hR.2.2
      have rl := hR.1
      have f0 := hF.2.1 0 _ rfl
      have f1 := hF.2.1 1 _ rfl
      have fl := hF.1
      have hsz := hbq.size
      go_wp2_with fail
      all_goals first
        | (exfalso; exact unhide HV1 ⟨by omega, by omega⟩)
        | (exfalso; exact unhide HV2 ⟨by omega, by omega⟩)
        | (refine (opposite_nev _ _ _ _ _ _ _ (fun e => unhide HV (Ed.same ⟨by omega, by omega⟩))).mono ?_
           rintro e w3 ⟨rfl, hb3⟩
           have hR3 := (hR.alloc _).below hb3
           have r0' := hR3.2.1 0 _ rfl
           have r1' := hR3.2.1 1 _ rfl
           have rz' := hR3.2.2
           have rl' := hR3.1
           have hbq3 := below_then (below_then hbq (by repeat (first | with_reducible exact Below.refl _ _ | refine Below.setCell ?_ (by first | omega | (simp <;> omega) | (simp [World.setCell] <;> omega)) _ | refine Below.alloc ?_ (by first | omega | (simp <;> omega) | (simp [World.setCell] <;> omega)) _ | refine Below.drew ?_ | refine below_draws ?_ _ | exact Below.refl _ _))) hb3
           have hsz3 := hbq3.size
           go_wp2
           exact bodyPost_ret (v := .tuple #[.agg #[.int .i64 r.piece, .int .i64 r.side], .int .i64 0]) (by simp [results, Try.results128, go_sem, r0', r1']) rfl ⟨rfl, (by repeat (first | with_reducible exact Below.refl _ _ | with_reducible exact hbq3 | refine Below.setCell ?_ (by first | omega | (simp <;> omega) | (simp [World.setCell] <;> omega)) _ | refine Below.alloc ?_ (by first | omega | (simp <;> omega) | (simp [World.setCell] <;> omega)) _ | refine Below.drew ?_ | refine below_draws ?_ _ | exact hbq3 | exact Below.refl _ _))⟩)

end Go.Proofs.Ytcmakcnkiekalab
