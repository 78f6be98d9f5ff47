import Derived.Test.YtjacbppeebnjfaaGreatMKt2
namespace Go.Proofs.YtjacbppeebnjfaaGreat
open Go.RowKit

theorem opposite_eqv (a b e g : Int) (w : World) :
    Calls Tryz.prog 106 #[.agg #[.int .i64 a, .int .i64 b], .agg #[.int .i64 a, .int .i64 b], .agg #[.int .i64 e, .int .i64 g]] w fun e' w' => e' = .returned (.agg #[.int .i64 e, .int .i64 g]) ∧ Below w.heap.size w w' :=
  opposite_eq ⟨a, b⟩ ⟨a, b⟩ ⟨e, g⟩ w rfl
theorem opposite_nev (a b c d e g : Int) (w : World) (h : ¬ (a = c ∧ b = d)) :
    Calls Tryz.prog 106 #[.agg #[.int .i64 a, .int .i64 b], .agg #[.int .i64 c, .int .i64 d], .agg #[.int .i64 e, .int .i64 g]] w fun e' w' => e' = .returned (.agg #[.int .i64 c, .int .i64 d]) ∧ Below w.heap.size w w' :=
  opposite_ne ⟨a, b⟩ ⟨c, d⟩ ⟨e, g⟩ w (fun h' => h (by simpa using h'))

set_option maxRecDepth 100000 in
set_option maxHeartbeats 2000000 in
theorem over_any (kv : Value) (n : Nt) (f : Ed) (i k : Nat) (lie : Int) (r : Ed) (q : Int) (w : World) {L : Nat} (hk : TrkAt L w kv n) (hG : NetGood n) (hf : EdFits n.pieces.length f) (hst : StandsAt n.joints f i k) (hr : overJ (n.joints[i]'hst.1) k lie = (r, q)) :
    Calls Tryz.prog 81 #[kv, .agg #[.int .i64 f.piece, .int .i64 f.side], .int .i64 lie] w fun e w' => e = .returned (.tuple #[.agg #[.int .i64 r.piece, .int .i64 r.side], .int .i64 q]) ∧ Below w.heap.size w w' := by
  have hkk := hk
  have hap := hG.apart hf hst
  have hi := hst.1
  obtain ⟨a, ca, sh, csh, st, cst, rfl, hp, hsh, hsd⟩ := hk
  obtain ⟨b, off, sv, rfl, hb, c1, hsv⟩ := hsh i hi
  have hv : OverV sv f lie r q := by
    obtain ⟨_, hke, hfe⟩ := hst
    have := overV_of lie hsv hke hfe hap
    rw [hr] at this
    exact this
  clear hsv hap hr
  have hb1 := hb.2
  have hb2 : b < w.heap.size + 1 + 1 + 1 := by omega
  have hb3' : b < w.heap.size + 1 + 1 := by omega
  have hb4' : b < w.heap.size + 1 := by omega
  have hii : (i : Int) < (n.joints.length : Int) := by omega
  have HST := hide hst
  clear hst
  rcases hv with ⟨x0, rfl, rfl, rfl⟩ | ⟨x0, x1, rfl, hv, rfl⟩ | ⟨x0, x1, x2, rfl, hv⟩ | ⟨x0, x1, x2, x3, rfl, hv, rfl⟩
  · have t1 := ta12
    have t2 := ta13
    have t3 := ta14
    go_enter Tryz.func81, Tryz.ntmps81
    go_wp2_with fail
    refine wp_region_grown (by kernel_rfl) (by kernel_rfl) (fun hgn hgc => ?_)
    repeat (go_big_quiet_step ((go_at_call 79; rename_i g; exact g.call (jointAt_any _ n f i k _ (hkk.below (below_then bw0 g.below)) hG hf (unhide HST)))))
    refine wpQuiet_nil ?_
    intro wq hwq
    obtain ⟨hbq, hF, hR⟩ : Below w.heap.size w wq ∧ Boxed wq (w.heap.size + 1) [.int .i64 f.piece, .int .i64 f.side] ∧ Boxed wq (w.heap.size + 1 + 1) [.int .i64 0, .int .i64 0] := by
      obtain ⟨g, rfl⟩ := hwq
      exact ⟨below_then bw0 g.below, ((boxedN _ _ _ (by simp)).alloc _).below g.below, (boxedN _ _ _ (by simp)).below g.below⟩
    clear hwq hgc hgn
    have r0 := hR.2.1 0 _ rfl
    have r1 := hR.2.1 1 _ rfl
    have rz := hR.2.2
    have rl := hR.1
    have hsz := hbq.size
    go_wp2
    exact bodyPost_ret (v := .tuple #[.agg #[.int .i64 0, .int .i64 0], .int .i64 1]) (by simp [results, Tryz.results81, go_sem, r0, r1]) rfl ⟨rfl, (bw1 hbq)⟩
  · have t1 := ta22
    rcases hv with ⟨hv1, rfl⟩ | ⟨hv1, rfl⟩
    · have HV := hide hv1
      clear hv1
      go_enter Tryz.func81, Tryz.ntmps81
      go_wp2_with fail
      refine wp_region_grown (by kernel_rfl) (by kernel_rfl) (fun hgn hgc => ?_)
      repeat (go_big_quiet_step ((go_at_call 79; rename_i g; exact g.call (jointAt_any _ n f i k _ (hkk.below (below_then bw0 g.below)) hG hf (unhide HST)))))
      refine wpQuiet_nil ?_
      intro wq hwq
      obtain ⟨hbq, hF, hR⟩ : Below w.heap.size w wq ∧ Boxed wq (w.heap.size + 1) [.int .i64 f.piece, .int .i64 f.side] ∧ Boxed wq (w.heap.size + 1 + 1) [.int .i64 0, .int .i64 0] := by
        obtain ⟨g, rfl⟩ := hwq
        exact ⟨below_then bw0 g.below, ((boxedN _ _ _ (by simp)).alloc _).below g.below, (boxedN _ _ _ (by simp)).below g.below⟩
      clear hwq hgc hgn
      have r0 := hR.2.1 0 _ rfl
      have r1 := hR.2.1 1 _ rfl
      have rz := hR.2.2
      have rl := hR.1
      have f0 := hF.2.1 0 _ rfl
      have f1 := hF.2.1 1 _ rfl
      have fl := hF.1
      have hsz := hbq.size
      go_wp2_with fail
      refine (opposite_eq f x0 r _ (unhide HV)).mono ?_
      rintro e w3 ⟨rfl, hb3⟩
      have hR3 := (hR.alloc _).below hb3
      have r0' := hR3.2.1 0 _ rfl
      have r1' := hR3.2.1 1 _ rfl
      have rz' := hR3.2.2
      have rl' := hR3.1
      have hbq3 := below_then (below_then hbq bw0) hb3
      have hsz3 := hbq3.size
      go_wp2
      exact bodyPost_ret (v := .tuple #[.agg #[.int .i64 r.piece, .int .i64 r.side], .int .i64 0]) (by simp [results, Tryz.results81, go_sem, r0', r1']) rfl ⟨rfl, (bw1 hbq3)⟩
    · have HV := hide hv1
      clear hv1
      go_enter Tryz.func81, Tryz.ntmps81
      go_wp2_with fail
      refine wp_region_grown (by kernel_rfl) (by kernel_rfl) (fun hgn hgc => ?_)
      repeat (go_big_quiet_step ((go_at_call 79; rename_i g; exact g.call (jointAt_any _ n f i k _ (hkk.below (below_then bw0 g.below)) hG hf (unhide HST)))))
      refine wpQuiet_nil ?_
      intro wq hwq
      obtain ⟨hbq, hF, hR⟩ : Below w.heap.size w wq ∧ Boxed wq (w.heap.size + 1) [.int .i64 f.piece, .int .i64 f.side] ∧ Boxed wq (w.heap.size + 1 + 1) [.int .i64 0, .int .i64 0] := by
        obtain ⟨g, rfl⟩ := hwq
        exact ⟨below_then bw0 g.below, ((boxedN _ _ _ (by simp)).alloc _).below g.below, (boxedN _ _ _ (by simp)).below g.below⟩
      clear hwq hgc hgn
      have r0 := hR.2.1 0 _ rfl
      have r1 := hR.2.1 1 _ rfl
      have rz := hR.2.2
      have rl := hR.1
      have f0 := hF.2.1 0 _ rfl
      have f1 := hF.2.1 1 _ rfl
      have fl := hF.1
      have hsz := hbq.size
      go_wp2_with fail
      refine (opposite_ne f r x1 _ (unhide HV)).mono ?_
      rintro e w3 ⟨rfl, hb3⟩
      have hR3 := (hR.alloc _).below hb3
      have r0' := hR3.2.1 0 _ rfl
      have r1' := hR3.2.1 1 _ rfl
      have rz' := hR3.2.2
      have rl' := hR3.1
      have hbq3 := below_then (below_then hbq bw0) hb3
      have hsz3 := hbq3.size
      go_wp2
      exact bodyPost_ret (v := .tuple #[.agg #[.int .i64 r.piece, .int .i64 r.side], .int .i64 0]) (by simp [results, Tryz.results81, go_sem, r0', r1']) rfl ⟨rfl, (bw1 hbq3)⟩
  · have t1 := ta32
    have t2 := ta33
    have HV := hide hv
    clear hv
    go_enter Tryz.func81, Tryz.ntmps81
    go_wp2_with fail
    refine wp_region_grown (by kernel_rfl) (by kernel_rfl) (fun hgn hgc => ?_)
    repeat (go_big_quiet_step ((go_at_call 79; rename_i g; exact g.call (jointAt_any _ n f i k _ (hkk.below (below_then bw0 g.below)) hG hf (unhide HST)))))
    refine wpQuiet_nil ?_
    intro wq hwq
    obtain ⟨hbq, hF, hR⟩ : Below w.heap.size w wq ∧ Boxed wq (w.heap.size + 1) [.int .i64 f.piece, .int .i64 f.side] ∧ Boxed wq (w.heap.size + 1 + 1) [.int .i64 0, .int .i64 0] := by
      obtain ⟨g, rfl⟩ := hwq
      exact ⟨below_then bw0 g.below, ((boxedN _ _ _ (by simp)).alloc _).below g.below, (boxedN _ _ _ (by simp)).below g.below⟩
    clear hwq hgc hgn
    have r0 := hR.2.1 0 _ rfl
    have r1 := hR.2.1 1 _ rfl
    have rz := hR.2.2
    have rl := hR.1
    have f0 := hF.2.1 0 _ rfl
    have f1 := hF.2.1 1 _ rfl
    have fl := hF.1
    have hsz := hbq.size
    go_wp2_with fail
    refine (turnoutOver_any x0 x1 x2 f lie r q _ (unhide HV)).mono ?_
    rintro e w3 ⟨rfl, hb3⟩
    have hR3 := (hR.alloc _).below hb3
    have r0' := hR3.2.1 0 _ rfl
    have r1' := hR3.2.1 1 _ rfl
    have rz' := hR3.2.2
    have rl' := hR3.1
    have hbq3 := below_then (below_then hbq bw0) hb3
    have hsz3 := hbq3.size
    go_wp2
    exact bodyPost_ret (v := .tuple #[.agg #[.int .i64 r.piece, .int .i64 r.side], .int .i64 q]) (by simp [results, Tryz.results81, go_sem, r0', r1']) rfl ⟨rfl, (bw1 hbq3)⟩
  · have t1 := ta42
    have t2 := ta43
    have t3 := ta44
    rcases hv with ⟨hv1, rfl⟩ | ⟨hv1, hv2, rfl⟩ | ⟨hv1, hv2, hv3, rfl⟩ | ⟨hv1, hv2, hv3, rfl⟩
    · skip
      subst hv1
      go_enter Tryz.func81, Tryz.ntmps81
      go_wp2_with fail
      refine wp_region_grown (by kernel_rfl) (by kernel_rfl) (fun hgn hgc => ?_)
      repeat (go_big_quiet_step ((go_at_call 79; rename_i g; exact g.call (jointAt_any _ n f i k _ (hkk.below (below_then bw0 g.below)) hG hf (unhide HST)))))
      refine wpQuiet_nil ?_
      intro wq hwq
      obtain ⟨hbq, hF, hR⟩ : Below w.heap.size w wq ∧ Boxed wq (w.heap.size + 1) [.int .i64 f.piece, .int .i64 f.side] ∧ Boxed wq (w.heap.size + 1 + 1) [.int .i64 0, .int .i64 0] := by
        obtain ⟨g, rfl⟩ := hwq
        exact ⟨below_then bw0 g.below, ((boxedN _ _ _ (by simp)).alloc _).below g.below, (boxedN _ _ _ (by simp)).below g.below⟩
      clear hwq hgc hgn
      have r0 := hR.2.1 0 _ rfl
      have r1 := hR.2.1 1 _ rfl
      have rz := hR.2.2
      have rl := hR.1
      have f0 := hF.2.1 0 _ rfl
      have f1 := hF.2.1 1 _ rfl
      have fl := hF.1
      have hsz := hbq.size
      go_wp2_with fail
      all_goals first
        | (refine (opposite_eqv _ _ _ _ _).mono ?_
           rintro e w3 ⟨rfl, hb3⟩
           have hR3 := (hR.alloc _).below hb3
           have r0' := hR3.2.1 0 _ rfl
           have r1' := hR3.2.1 1 _ rfl
           have rz' := hR3.2.2
           have rl' := hR3.1
           have hbq3 := below_then (below_then hbq bw0) hb3
           have hsz3 := hbq3.size
           go_wp2
           exact bodyPost_ret (v := .tuple #[.agg #[.int .i64 r.piece, .int .i64 r.side], .int .i64 0]) (by simp [results, Tryz.results81, go_sem, r0', r1']) rfl ⟨rfl, (bw1 hbq3)⟩)
    · skip
      have HV1 : Hid (¬ (f.piece = r.piece ∧ f.side = r.side)) := fun e => hv1 (Ed.same e)
      have HV : Hid (f ≠ r) := hv1
      subst hv2
      clear hv1
      go_enter Tryz.func81, Tryz.ntmps81
      go_wp2_with fail
      refine wp_region_grown (by kernel_rfl) (by kernel_rfl) (fun hgn hgc => ?_)
      repeat (go_big_quiet_step ((go_at_call 79; rename_i g; exact g.call (jointAt_any _ n f i k _ (hkk.below (below_then bw0 g.below)) hG hf (unhide HST)))))
      refine wpQuiet_nil ?_
      intro wq hwq
      obtain ⟨hbq, hF, hR⟩ : Below w.heap.size w wq ∧ Boxed wq (w.heap.size + 1) [.int .i64 f.piece, .int .i64 f.side] ∧ Boxed wq (w.heap.size + 1 + 1) [.int .i64 0, .int .i64 0] := by
        obtain ⟨g, rfl⟩ := hwq
        exact ⟨below_then bw0 g.below, ((boxedN _ _ _ (by simp)).alloc _).below g.below, (boxedN _ _ _ (by simp)).below g.below⟩
      clear hwq hgc hgn
      have r0 := hR.2.1 0 _ rfl
      have r1 := hR.2.1 1 _ rfl
      have rz := hR.2.2
      have rl := hR.1
      have f0 := hF.2.1 0 _ rfl
      have f1 := hF.2.1 1 _ rfl
      have fl := hF.1
      have hsz := hbq.size
      go_wp2_with fail
      all_goals first
        | (exfalso; exact unhide HV1 ⟨by omega, by omega⟩)
        | (refine (opposite_nev _ _ _ _ _ _ _ (fun e => unhide HV (Ed.same ⟨by omega, by omega⟩))).mono ?_
           rintro e w3 ⟨rfl, hb3⟩
           have hR3 := (hR.alloc _).below hb3
           have r0' := hR3.2.1 0 _ rfl
           have r1' := hR3.2.1 1 _ rfl
           have rz' := hR3.2.2
           have rl' := hR3.1
           have hbq3 := below_then (below_then hbq bw0) hb3
           have hsz3 := hbq3.size
           go_wp2
           exact bodyPost_ret (v := .tuple #[.agg #[.int .i64 r.piece, .int .i64 r.side], .int .i64 0]) (by simp [results, Tryz.results81, go_sem, r0', r1']) rfl ⟨rfl, (bw1 hbq3)⟩)
    · skip
      have HV1 : Hid (¬ (f.piece = x0.piece ∧ f.side = x0.side)) := fun e => hv1 (Ed.same e)
      have HV2 : Hid (¬ (f.piece = x1.piece ∧ f.side = x1.side)) := fun e => hv2 (Ed.same e)
      subst hv3
      clear hv1 hv2
      go_enter Tryz.func81, Tryz.ntmps81
      go_wp2_with fail
      refine wp_region_grown (by kernel_rfl) (by kernel_rfl) (fun hgn hgc => ?_)
      repeat (go_big_quiet_step ((go_at_call 79; rename_i g; exact g.call (jointAt_any _ n f i k _ (hkk.below (below_then bw0 g.below)) hG hf (unhide HST)))))
      refine wpQuiet_nil ?_
      intro wq hwq
      obtain ⟨hbq, hF, hR⟩ : Below w.heap.size w wq ∧ Boxed wq (w.heap.size + 1) [.int .i64 f.piece, .int .i64 f.side] ∧ Boxed wq (w.heap.size + 1 + 1) [.int .i64 0, .int .i64 0] := by
        obtain ⟨g, rfl⟩ := hwq
        exact ⟨below_then bw0 g.below, ((boxedN _ _ _ (by simp)).alloc _).below g.below, (boxedN _ _ _ (by simp)).below g.below⟩
      clear hwq hgc hgn
      have r0 := hR.2.1 0 _ rfl
      have r1 := hR.2.1 1 _ rfl
      have rz := hR.2.2
      have rl := hR.1
      have f0 := hF.2.1 0 _ rfl
      have f1 := hF.2.1 1 _ rfl
      have fl := hF.1
      have hsz := hbq.size
      go_wp2_with fail
      all_goals first
        | (exfalso; exact unhide HV1 ⟨by omega, by omega⟩)
        | (exfalso; exact unhide HV2 ⟨by omega, by omega⟩)
        | (refine (opposite_eqv _ _ _ _ _).mono ?_
           rintro e w3 ⟨rfl, hb3⟩
           have hR3 := (hR.alloc _).below hb3
           have r0' := hR3.2.1 0 _ rfl
           have r1' := hR3.2.1 1 _ rfl
           have rz' := hR3.2.2
           have rl' := hR3.1
           have hbq3 := below_then (below_then hbq bw0) hb3
           have hsz3 := hbq3.size
           go_wp2
           exact bodyPost_ret (v := .tuple #[.agg #[.int .i64 r.piece, .int .i64 r.side], .int .i64 0]) (by simp [results, Tryz.results81, go_sem, r0', r1']) rfl ⟨rfl, (bw1 hbq3)⟩)
    · skip
      have HV1 : Hid (¬ (f.piece = x0.piece ∧ f.side = x0.side)) := fun e => hv1 (Ed.same e)
      have HV2 : Hid (¬ (f.piece = x1.piece ∧ f.side = x1.side)) := fun e => hv2 (Ed.same e)
      have HV : Hid (f ≠ r) := hv3
      clear hv1 hv2 hv3
      go_enter Tryz.func81, Tryz.ntmps81
      go_wp2_with fail
      refine wp_region_grown (by kernel_rfl) (by kernel_rfl) (fun hgn hgc => ?_)
      repeat (go_big_quiet_step ((go_at_call 79; rename_i g; exact g.call (jointAt_any _ n f i k _ (hkk.below (below_then bw0 g.below)) hG hf (unhide HST)))))
      refine wpQuiet_nil ?_
      intro wq hwq
      obtain ⟨hbq, hF, hR⟩ : Below w.heap.size w wq ∧ Boxed wq (w.heap.size + 1) [.int .i64 f.piece, .int .i64 f.side] ∧ Boxed wq (w.heap.size + 1 + 1) [.int .i64 0, .int .i64 0] := by
        obtain ⟨g, rfl⟩ := hwq
        exact ⟨below_then bw0 g.below, ((boxedN _ _ _ (by simp)).alloc _).below g.below, (boxedN _ _ _ (by simp)).below g.below⟩
      clear hwq hgc hgn
      have r0 := hR.2.1 0 _ rfl
      have r1 := hR.2.1 1 _ rfl
      have rz := hR.2.2
      have rl := hR.1
      have f0 := hF.2.1 0 _ rfl
      have f1 := hF.2.1 1 _ rfl
      have fl := hF.1
      have hsz := hbq.size
      go_wp2_with fail
      all_goals first
        | (exfalso; exact unhide HV1 ⟨by omega, by omega⟩)
        | (exfalso; exact unhide HV2 ⟨by omega, by omega⟩)
        | (refine (opposite_nev _ _ _ _ _ _ _ (fun e => unhide HV (Ed.same ⟨by omega, by omega⟩))).mono ?_
           rintro e w3 ⟨rfl, hb3⟩
           have hR3 := (hR.alloc _).below hb3
           have r0' := hR3.2.1 0 _ rfl
           have r1' := hR3.2.1 1 _ rfl
           have rz' := hR3.2.2
           have rl' := hR3.1
           have hbq3 := below_then (below_then hbq bw0) hb3
           have hsz3 := hbq3.size
           go_wp2
           exact bodyPost_ret (v := .tuple #[.agg #[.int .i64 r.piece, .int .i64 r.side], .int .i64 0]) (by simp [results, Tryz.results81, go_sem, r0', r1']) rfl ⟨rfl, (bw1 hbq3)⟩)

end Go.Proofs.YtjacbppeebnjfaaGreat

namespace Go.Proofs.YtjacbppeebnjfaaGreat
open Go.RowKit

theorem StepOk.fits {n : Nt} {s : St} (h : StepOk n s) (y : Int) : EdFits n.pieces.length (hd s.piece y) := ⟨h.1, by unfold hd; dsimp only; split <;> omega⟩

theorem Boxed.put2 {w : World} {N : Nat} {a b : Value} (h : Boxed w N [a, b]) (x y : Value) : Boxed ((w.setCell ⟨N, 0, none⟩ x).setCell ⟨N, 1, none⟩ y) N [x, y] := by
 have h0 := h.2.1 0 _ rfl
 have h1 := h.2.1 1 _ rfl
 have g1 : (w.setCell ⟨N, 0, none⟩ x).cell? ⟨N, 1, none⟩ = some b := by rw [World.cell?_setCell_other _ _ _ _ (by simp)]; exact h1
 refine ⟨by simpa [World.setCell] using h.1, fun i v hi => ?_, fun i => by simpa using h.2.2 i⟩
 match i, hi with
 | 0, hi =>
  rw [World.cell?_setCell_other _ _ _ _ (by simp), World.cell?_setCell_same _ _ _ h0]
  simpa using hi
 | 1, hi =>
  rw [World.cell?_setCell_same _ _ _ g1]
  simpa using hi

theorem endAhead_v (s : St) (w : World) :
  Calls Tryz.prog 80 #[.agg #[.int .i64 s.piece, .int .i64 s.way]] w fun e w' => e = .returned (.agg #[.int .i64 (hd s.piece s.way).piece, .int .i64 (hd s.piece s.way).side]) ∧ Below w.heap.size w w' := endAhead_any s w
theorem endBehind_v (s : St) (w : World) (hy : s.way = 1 ∨ s.way = -1) :
  Calls Tryz.prog 105 #[.agg #[.int .i64 s.piece, .int .i64 s.way]] w fun e w' => e = .returned (.agg #[.int .i64 (hd s.piece (-s.way)).piece, .int .i64 (hd s.piece (-s.way)).side]) ∧ Below w.heap.size w w' := endBehind_any s w hy

set_option maxRecDepth 100000 in
set_option maxHeartbeats 2000000 in
theorem leads_any (kv : Value) (n : Nt) (s ah : St) (lie : Int) (w : World) {L : Nat} (hk : TrkAt L w kv n) (hG : NetGood n) (hs : StepOk n s) (ha : StepOk n ah) :
  Calls Tryz.prog 78 #[kv, .agg #[.int .i64 s.piece, .int .i64 s.way], .agg #[.int .i64 ah.piece, .int .i64 ah.way], .int .i64 lie] w fun e w' => RetB (Leads n s ah lie) e ∧ Below w.heap.size w w' := by
 have hkk := hk
 obtain ⟨a, ca, sh, csh, st, cst, rfl, hp, hsh, hsd⟩ := hk
 obtain ⟨i, k, hst⟩ := stands_some (hG.hd hs.1.1 hs.1.2 s.way)
 obtain ⟨r, q, hrq⟩ : ∃ r q, overJ (n.joints[i]'hst.1) k lie = (r, q) := ⟨_, _, rfl⟩
 have hL : Leads n s ah lie ↔ q = 0 ∧ r = hd ah.piece (-ah.way) := by
  constructor
  ·rintro ⟨i', k', h, h1, h2⟩
   obtain ⟨rfl, rfl⟩ := stands_unique (hG.hd hs.1.1 hs.1.2 s.way) hst h1
   rw [hrq] at h2
   simp at h2
   exact ⟨h2.2, h2.1⟩
  ·rintro ⟨rfl, rfl⟩
   exact ⟨i, k, hst.1, hst, hrq⟩
 have HL := hide hL
 have HRQ := hide hrq
 have HST := hide hst
 have HS := hide hs
 have HA := hide ha
 obtain ⟨sp, sy⟩ := s
 obtain ⟨ap, ay⟩ := ah
 obtain ⟨rp, rs⟩ := r
 clear hL hrq hs ha
 dsimp only
 go_enter Tryz.func78, Tryz.ntmps78
 go_upto_region 1 with fail
 go_cut [9, 10] (fun p z wx => ∃ B, p = .pointer (some ⟨B, 0, none⟩) ∧ z = .int .i64 q ∧ Boxed wx B [.int .i64 rp, .int .i64 rs] ∧ Boxed wx (w.heap.size + 1 + 1) [.int .i64 ap, .int .i64 ay] ∧ Below w.heap.size w wx)
 case first =>
  have e30 : ¬ w.heap.size + 1 + 1 + 1 = w.heap.size := by omega
  have e31 : ¬ w.heap.size + 1 + 1 + 1 = w.heap.size + 1 := by omega
  have e32 : ¬ w.heap.size = w.heap.size + 1 + 1 + 1 := by omega
  have e34 : ¬ w.heap.size + 1 + 1 = w.heap.size := by omega
  have e35 : ¬ w.heap.size = w.heap.size + 1 + 1 := by omega
  have e33 : ¬ w.heap.size + 1 = w.heap.size + 1 + 1 + 1 := by omega
  go_region_held3 (fun w' => w'.cell? ⟨w.heap.size, 0, none⟩ = some (.slice a n.pieces.length ca) ∧ w'.cell? ⟨w.heap.size, 1, none⟩ = some (.slice sh n.joints.length csh) ∧ w'.cell? ⟨w.heap.size, 2, none⟩ = some (.slice st n.pieces.length cst)
    ∧ w'.cell? ⟨w.heap.size + 1, 0, none⟩ = some (.int .i64 sp) ∧ w'.cell? ⟨w.heap.size + 1, 1, none⟩ = some (.int .i64 sy))
   (((try dsimp only); (repeat' apply And.intro)) <;> (go_keep; done))
   (first
    | (go_at_call 80; refine (endAhead_v ⟨sp, sy⟩ _).mono ?_; rintro e w1 ⟨rfl, hb1⟩; obtain ⟨hc1, hf1⟩ := bcell hb1; have sz1 := hb1.size; (try simp at sz1); have lt1 := Nat.lt_of_succ_le sz1; have new10 : ¬ w1.heap.size = w.heap.size := (by omega); have mew10 : ¬ w.heap.size = w1.heap.size := (by omega); have new11 : ¬ w1.heap.size = w.heap.size + 1 := (by omega); have mew11 : ¬ w.heap.size + 1 = w1.heap.size := (by omega); have q0 := hc1 (w.heap.size) (0) (by first | (simp; done) | (simp; omega) | omega); have q1 := hc1 (w.heap.size) (1) (by first | (simp; done) | (simp; omega) | omega); have q2 := hc1 (w.heap.size) (2) (by first | (simp; done) | (simp; omega) | omega); have q3 := hc1 (w.heap.size+1) (0) (by first | (simp; done) | (simp; omega) | omega); have q4 := hc1 (w.heap.size+1) (1) (by first | (simp; done) | (simp; omega) | omega))
    | (go_at_call 81; refine (over_any _ n (hd sp sy) i k lie ⟨rp, rs⟩ q _ (hkk.below ?_) hG ((unhide HS).fits sy) (unhide HST) (unhide HRQ)).mono ?_; (first | exact below_then bw0 hb1 | exact below_then (below_then bw0 hb1) bw0); rintro e w2 ⟨rfl, hb2⟩; obtain ⟨hc2, hf2⟩ := bcell hb2; have sz2 := hb2.size; (try simp at sz2); (try have lt2 := Nat.lt_of_succ_le sz2); have new20 : ¬ w2.heap.size = w.heap.size := (by omega); have mew20 : ¬ w.heap.size = w2.heap.size := (by omega); have new21 : ¬ w2.heap.size = w.heap.size + 1 := (by omega); have mew21 : ¬ w.heap.size + 1 = w2.heap.size := (by omega); have r0 := hc2 (w.heap.size) (0) (by first | (have := hb1.size; omega) | (have := hb1.size; simp at this ⊢; omega) | (simp; omega)); have r1 := hc2 (w.heap.size) (1) (by first | (have := hb1.size; omega) | (have := hb1.size; simp at this ⊢; omega) | (simp; omega)); have r2 := hc2 (w.heap.size) (2) (by first | (have := hb1.size; omega) | (have := hb1.size; simp at this ⊢; omega) | (simp; omega)); have r3 := hc2 (w.heap.size+1) (0) (by first | (have := hb1.size; omega) | (have := hb1.size; simp at this ⊢; omega) | (simp; omega)); have r4 := hc2 (w.heap.size+1) (1) (by first | (have := hb1.size; omega) | (have := hb1.size; simp at this ⊢; omega) | (simp; omega))))
  all_goals go_wp2_with fail
  all_goals go_meet
  ·refine ⟨_, rfl, rfl, boxed_alloc _ _ _, ((((boxedN _ _ _ (by simp)).drew).below hb1).below hb2).alloc _, below_then (below_then (below_then bw0 hb1) hb2) bw0⟩
  ·have hZ : Boxed w2 w1.heap.size [.int .i64 0, .int .i64 0] := (boxed_alloc _ _ _).below hb2
   refine ⟨_, rfl, rfl, hZ.put2 _ _, (((((((boxedN _ _ _ (by simp)).drew).below hb1).alloc _).below hb2).apart (by simp <;> omega) _).apart (by simp <;> omega) _), ?_⟩
   have hbw2 := below_then (below_then (below_then (bw0 : Below w.heap.size w _) hb1) bw0) hb2
   exact (bw1 hbw2)
  ·have hZ : Boxed w2 (w.heap.size + 1 + 1 + 1) [.int .i64 0, .int .i64 0] := (((boxedN _ _ _ (by simp)).drew).below hb1).below hb2
   refine ⟨_, rfl, rfl, hZ.put2 _ _, (((((((boxedN _ _ _ (by simp)).alloc _).drew).below hb1).below hb2).apart (by simp <;> omega) _).apart (by simp <;> omega) _), ?_⟩
   have hbw2 := below_then (below_then (bw0 : Below w.heap.size w _) hb1) hb2
   exact (bw1 hbw2)
 case rest =>
  obtain ⟨B, rfl, rfl, hBe, hBa, hb⟩ := hcut
  have b0 := hBe.2.1 0 _ rfl
  have b1 := hBe.2.1 1 _ rfl
  have a0 := hBa.2.1 0 _ rfl
  have a1 := hBa.2.1 1 _ rfl
  have nb := hBe.1
  have na := hBa.1
  by_cases hq : q = 0
  ·subst hq
   have HL' : Hid (Leads n ⟨sp, sy⟩ ⟨ap, ay⟩ lie ↔ rp = (hd ap (-ay)).piece ∧ rs = (hd ap (-ay)).side) := (unhide HL).trans ⟨fun h => by rw [← h.2]; exact ⟨rfl, rfl⟩, fun h => ⟨rfl, Ed.same h⟩⟩
   clear HL HRQ
   by_cases h1 : rp = (hd ap (-ay)).piece
   ·by_cases h2 : rs = (hd ap (-ay)).side
    ·subst h1 h2
     have hdp : ∀ p y : Int, (hd p y).piece = p := fun _ _ => rfl
     go_wp2_with fail
     refine wp_region_grown (by kernel_rfl) (by kernel_rfl) (fun hgn hgc => ?_)
     repeat (go_big_quiet_step ((go_at_call 105; rename_i g; exact g.call (endBehind_v ⟨_, _⟩ _ (unhide HA).2))))
     refine wpQuiet_nil ?_
     intro wq hwq
     have hbq : Below w.heap.size w wq := by obtain ⟨g, rfl⟩ := hwq; exact below_then hb g.below
     clear hwq hgc hgn
     go_wp2
     go_ret
     exact ⟨retB_true ((unhide HL').2 (by first | exact ⟨rfl, rfl⟩ | exact ⟨trivial, rfl⟩ | exact ⟨rfl, trivial⟩ | trivial)), hbq⟩
    ·subst h1
     have h2b := ne_beq h2
     have H2 := hide h2
     go_wp2_with fail
     refine wp_region_grown (by kernel_rfl) (by kernel_rfl) (fun hgn hgc => ?_)
     repeat (go_big_quiet_step ((go_at_call 105; rename_i g; exact g.call (endBehind_v ⟨_, _⟩ _ (unhide HA).2))))
     refine wpQuiet_nil ?_
     intro wq hwq
     have hbq : Below w.heap.size w wq := by obtain ⟨g, rfl⟩ := hwq; exact below_then hb g.below
     clear hwq hgc hgn
     go_wp2
     go_ret
     exact ⟨retB_false fun h => unhide H2 ((unhide HL').1 h).2, hbq⟩
   ·have h1b := ne_beq h1
    have H1 := hide h1
    go_wp2_with fail
    refine wp_region_grown (by kernel_rfl) (by kernel_rfl) (fun hgn hgc => ?_)
    repeat (go_big_quiet_step ((go_at_call 105; rename_i g; exact g.call (endBehind_v ⟨_, _⟩ _ (unhide HA).2))))
    refine wpQuiet_nil ?_
    intro wq hwq
    have hbq : Below w.heap.size w wq := by obtain ⟨g, rfl⟩ := hwq; exact below_then hb g.below
    clear hwq hgc hgn
    go_wp2
    go_ret
    exact ⟨retB_false fun h => unhide H1 ((unhide HL').1 h).1, hbq⟩
  ·have hqb : (q == 0) = false := ne_beq hq
   have HQ := hide hq
   clear hq
   go_wp2_with fail
   refine wp_region_grown (by kernel_rfl) (by kernel_rfl) (fun hgn hgc => ?_)
   repeat (go_big_quiet_step (fail))
   refine wpQuiet_nil ?_
   intro wq hwq
   have hbq : Below w.heap.size w wq := by obtain ⟨g, rfl⟩ := hwq; exact below_then hb g.below
   clear hwq hgc hgn
   go_wp2
   go_ret
   exact ⟨retB_false fun h => unhide HQ ((unhide HL).1 h).1, hbq⟩

end Go.Proofs.YtjacbppeebnjfaaGreat

