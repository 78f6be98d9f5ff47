import Derived.Test.YtjacbppeebnjfaaGreatMKt6
import Derived.Test.YtjacbppeebnjfaaGreatMKt1
namespace Go.Proofs.YtjacbppeebnjfaaGreat
open Go.RowKit

theorem leads_T (kv : Value) (n : Nt) (s ah : St) (lie : Int) (w : World) {L : Nat} (hk : TrkAt L w kv n) (hG : NetGood n) (hs : StepOk n s) (ha : StepOk n ah) (h : Leads n s ah lie) :
  Calls Tryz.prog 78 #[kv, .agg #[.int .i64 s.piece, .int .i64 s.way], .agg #[.int .i64 ah.piece, .int .i64 ah.way], .int .i64 lie] w fun e w' => e = .returned (.bool true) ∧ Below w.heap.size w w' :=
 (leads_any kv n s ah lie w hk hG hs ha).mono fun e w' ⟨he, hw⟩ => ⟨by rcases he with ⟨he, _⟩ | ⟨_, hn⟩; exact he; exact absurd h hn, hw⟩
theorem leads_F (kv : Value) (n : Nt) (s ah : St) (lie : Int) (w : World) {L : Nat} (hk : TrkAt L w kv n) (hG : NetGood n) (hs : StepOk n s) (ha : StepOk n ah) (h : ¬ Leads n s ah lie) :
  Calls Tryz.prog 78 #[kv, .agg #[.int .i64 s.piece, .int .i64 s.way], .agg #[.int .i64 ah.piece, .int .i64 ah.way], .int .i64 lie] w fun e w' => e = .returned (.bool false) ∧ Below w.heap.size w w' :=
 (leads_any kv n s ah lie w hk hG hs ha).mono fun e w' ⟨he, hw⟩ => ⟨by rcases he with ⟨_, hn⟩ | ⟨he, _⟩; exact absurd hn h; exact he, hw⟩

def ToldAt (n : Nt) (w0 : World) (k0 k1 k2 : Value) (C : Nat) (s : St × List St) (w : World) : Prop :=
 Below w0.heap.size w0 w ∧ StepOk n s.1 ∧ ∃ ba bc, Boxed w C [k0, k1, k2, .int .i64 s.1.piece, .int .i64 s.1.way, .slice ba s.2.length bc] ∧ StsAt 0 w0 ba s.2 ∧ s.2.length ≤ bc

theorem Boxed.kept {w w' : World} {N M : Nat} {vs : List Value} (h : Boxed w N vs) (hb : Below M w w') (hN : N < M) : Boxed w' N vs := by
 have hk := hb.block N hN
 exact ⟨Nat.lt_of_lt_of_le h.1 hb.size, fun i v hi => by rw [World.cell?_of_block (w := w) (a := ⟨N, i, none⟩) hk]; exact h.2.1 i v hi, fun i => by rw [World.frozen?_of_block (w := w) (a := ⟨N, i, none⟩) hk]; exact h.2.2 i⟩
theorem ToldAt.kept {n : Nt} {w0 : World} {k0 k1 k2 : Value} {C : Nat} {s : St × List St} {a b : World} {M : Nat} (h : ToldAt n w0 k0 k1 k2 C s a) (hb : Below M a b) (hC : C < M) (h0 : w0.heap.size ≤ C) : ToldAt n w0 k0 k1 k2 C s b := by
 obtain ⟨h1, h2, ba, bc, h3, h4⟩ := h
 exact ⟨h1.trans (hb.mono (by omega)), h2, ba, bc, h3.kept hb hC, h4⟩

theorem Boxed.set {w : World} {N : Nat} {vs : List Value} (h : Boxed w N vs) {i : Nat} (hi : i < vs.length) (x : Value) : Boxed (w.setCell ⟨N, i, none⟩ x) N (vs.set i x) := by
 refine ⟨by simpa [World.setCell] using h.1, fun j v hj => ?_, fun j => by simpa using h.2.2 j⟩
 by_cases e : j = i
 ·subst e
  rw [World.cell?_setCell_same _ _ _ (h.2.1 j vs[j] (List.getElem?_eq_getElem hi))]
  rw [List.getElem?_set_self hi] at hj
  exact hj
 ·rw [World.cell?_setCell_other _ _ _ _ (by simp <;> omega)]
  rw [List.getElem?_set_ne (by omega)] at hj
  exact h.2.1 j v hj

theorem tail_sts {w : World} {L xb xoff bc : Nat} {x : St} {q : List St} {A : Option Addr} (h : StsAt L w (some ⟨xb, xoff, none⟩) (x :: q)) (hcap : q.length + 1 ≤ bc) (hA : (if bc = 1 then (some ⟨xb, xoff, none⟩ : Option Addr) else some ⟨xb, xoff + 2, none⟩) = A) : StsAt L w A q := by
 intro i hi
 obtain ⟨b, off, hab, hb, c0, c1⟩ := h (i + 1) (by simp; omega)
 simp at hab
 obtain ⟨rfl, rfl⟩ := hab
 have hb1 : bc ≠ 1 := by omega
 rw [if_neg hb1] at hA
 refine ⟨xb, xoff + 2, hA.symm, hb, ?_, ?_⟩
 ·rw [show xoff + 2 + i * 2 = xoff + (i + 1) * 2 by omega]
  simpa using c0
 ·rw [show xoff + 2 + i * 2 + 1 = xoff + (i + 1) * 2 + 1 by omega]
  simpa using c1

set_option maxRecDepth 100000 in
set_option maxHeartbeats 4000000 in
theorem told_next (n : Nt) (w0 : World) (k0 k1 k2 : Value) (C : Nat) (s : St × List St) (wa : World) {L : Nat} (hk : TrkAt L w0 (.agg #[k0, k1, k2]) n) (hG : NetGood n) (h0 : w0.heap.size ≤ C) (hbl : s.2.length ≤ 1048576) (h : ToldAt n w0 k0 k1 k2 C s wa) :
  Calls Tryz.prog 103 #[.pointer (some ⟨C, 0, none⟩)] wa fun e w' =>
   ((∃ p y : Int, e = .returned (.tuple #[.agg #[.int .i64 p, .int .i64 y], .bool false]) ∧ NxTold n s none) ∨ ∃ x s', e = .returned (.tuple #[.agg #[.int .i64 x.piece, .int .i64 x.way], .bool true]) ∧ NxTold n s (some (x, s')) ∧ StepOk n x ∧ ToldAt n w0 k0 k1 k2 C s' w') ∧ Only (fun k => k = C) wa w' := by
 obtain ⟨hb0, hah, ba, bc, hB, hst, hcap⟩ := h
 obtain ⟨⟨ap, ay⟩, back⟩ := s
 dsimp only at hah hB hst hcap hbl ⊢
 have hkk := hk.below hb0
 have c3 := hB.2.1 3 _ rfl
 have c4 := hB.2.1 4 _ rfl
 have c5 := hB.2.1 5 _ rfl
 have c0 := hB.2.1 0 _ rfl
 have c1 := hB.2.1 1 _ rfl
 have c2 := hB.2.1 2 _ rfl
 have cz := hB.2.2
 have hCl := hB.1
 have hC1 : C < wa.heap.size + 1 := by omega
 have hC2 : C < wa.heap.size + 1 + 1 := by omega
 have HAH := hide hah
 have HB := hide hB
 clear hah hB
 rcases back with _ | ⟨x, q⟩
 ·simp only [List.length_nil] at c5
  go_enter Tryz.func103, Tryz.ntmps103
  go_wp2
  exact bodyPost_ret (v := .tuple #[.agg #[.int .i64 0, .int .i64 0], .bool false]) (by simp [results, Tryz.results103, go_sem]) rfl ⟨Or.inl ⟨0, 0, rfl, Or.inl ⟨rfl, Or.inl rfl⟩⟩, only_of_below bw0⟩
 ·obtain ⟨xb, xoff, rfl, hxb, x0, x1⟩ := hst.below hb0 0 (by simp)
  simp at x0 x1
  have hxb2 := hxb.2
  obtain ⟨xp, xy⟩ := x
  dsimp only at x0 x1
  have hne : (((q.length + 1 : Nat) : Int) == 0) = false := by rw [beq_eq_false_iff_ne]; omega
  have hpos : (0 : Int) < ((q.length + 1 : Nat) : Int) := by omega
  simp only [List.length_cons] at c5 hcap hbl
  by_cases hS : StepOk n ⟨xp, xy⟩
  ·have HS := hide hS
   have HJ := hide (joined_iff hG ⟨xp, xy⟩ ⟨ap, ay⟩)
   clear hS
   by_cases hL1 : Leads n ⟨xp, xy⟩ ⟨ap, ay⟩ 1
   ·have HL1 := hide hL1
    clear hL1
    go_enter Tryz.func103, Tryz.ntmps103
    go_upto_region 4 with fail
    refine wp_region_grown (by kernel_rfl) (by kernel_rfl) (fun hgn hgc => ?_)
    repeat (go_big_quiet_step (first
     | (go_at_call 125; rename_i g; exact g.call (isStep_T _ n ⟨xp, xy⟩ _ (hkk.below (below_then bw0 g.below)) (unhide HS)))
     | (go_at_call_of 78 (Value.int IntKind.i64 1); rename_i g; exact g.call (leads_T _ n ⟨xp, xy⟩ ⟨ap, ay⟩ 1 _ (hkk.below (below_then bw0 g.below)) hG (unhide HS) (unhide HAH) (unhide HL1)))))
    refine wpQuiet_nil ?_
    intro wq hwq
    obtain ⟨hbq, hR, hX⟩ : Below wa.heap.size wa wq ∧ Boxed wq wa.heap.size [.int .i64 0, .int .i64 0] ∧ Boxed wq (wa.heap.size + 1) [.int .i64 xp, .int .i64 xy] := by
     obtain ⟨g, rfl⟩ := hwq
     exact ⟨below_then bw0 g.below, ((boxed_alloc _ _ _).alloc _).below g.below, (boxedN _ _ _ (by simp)).below g.below⟩
    clear hwq hgc hgn
    have r0 := hR.2.1 0 _ rfl
    have r1 := hR.2.1 1 _ rfl
    have rz := hR.2.2
    have rl := hR.1
    have e0 := hX.2.1 0 _ rfl
    have e1 := hX.2.1 1 _ rfl
    have el := hX.1
    have d0 : wq.cell? ⟨C, 3, none⟩ = some (.int .i64 ap) := by rw [hbq.cell hCl]; exact c3
    have d1 : wq.cell? ⟨C, 4, none⟩ = some (.int .i64 ay) := by rw [hbq.cell hCl]; exact c4
    have d2 : wq.cell? ⟨C, 5, none⟩ = some (.slice (some ⟨xb, xoff, none⟩) (q.length + 1) bc) := by rw [hbq.cell hCl]; exact c5
    have dz : ∀ i, wq.frozen? ⟨C, i, none⟩ = false := fun i => by rw [hbq.frozen hCl]; exact cz i
    have hC3 : ¬ C = wa.heap.size := by omega
    have hC4 : ¬ C = wa.heap.size + 1 := by omega
    go_wp2_with fail
    go_region
    generalize hA : (if bc = 1 then (some ⟨xb, xoff, none⟩ : Option Addr) else some ⟨xb, xoff + 2, none⟩) = A
    have HA := hide hA
    clear hA
    go_wp2
    have hbX : Below wa.heap.size (((wq.setCell ⟨C, 3, none⟩ (.int .i64 xp)).setCell ⟨C, 4, none⟩ (.int .i64 xy)).setCell ⟨C, 5, none⟩ (.slice A q.length (bc - 1))) (((((wq.setCell ⟨C, 3, none⟩ (.int .i64 xp)).setCell ⟨C, 4, none⟩ (.int .i64 xy)).setCell ⟨C, 5, none⟩ (.slice A q.length (bc - 1))).setCell ⟨wa.heap.size, 0, none⟩ (.int .i64 xp)).setCell ⟨wa.heap.size, 1, none⟩ (.int .i64 xy)).drew := bw0
    have hBX := (((((unhide HB).below hbq).set (i := 3) (by simp) (.int .i64 xp)).set (i := 4) (by simp) (.int .i64 xy)).set (i := 5) (by simp) (.slice A q.length (bc - 1))).kept hbX hCl
    have hoX := ((((only_of_below (S := fun k => k = C) hbq).trans (only_setCell (S := fun k => k = C) _ (p := ⟨C, 3, none⟩) rfl (.int .i64 xp))).trans (only_setCell (S := fun k => k = C) _ (p := ⟨C, 4, none⟩) rfl (.int .i64 xy))).trans (only_setCell (S := fun k => k = C) _ (p := ⟨C, 5, none⟩) rfl (.slice A q.length (bc - 1)))).on hbX
    have hbX0 : Below w0.heap.size w0 (((wq.setCell ⟨C, 3, none⟩ (.int .i64 xp)).setCell ⟨C, 4, none⟩ (.int .i64 xy)).setCell ⟨C, 5, none⟩ (.slice A q.length (bc - 1))) := Below.setCell (Below.setCell (Below.setCell (hb0.trans (hbq.mono (by omega))) h0 _) h0 _) h0 _
    exact bodyPost_ret (v := .tuple #[.agg #[.int .i64 xp, .int .i64 xy], .bool true]) (by simp [results, Tryz.results103, go_sem, r0, r1]) rfl
     ⟨Or.inr ⟨⟨xp, xy⟩, (⟨xp, xy⟩, q), rfl, Or.inr ⟨_, _, rfl, unhide HS, (unhide HJ).2 (Or.inl (unhide HL1)), rfl⟩, unhide HS, hbX0.trans (hbX.mono (by omega)), unhide HS, A, bc - 1, hBX, tail_sts hst hcap (unhide HA), by dsimp only; omega⟩, hoX⟩
   ·have HL1 := hide hL1
    clear hL1
    by_cases hL2 : Leads n ⟨xp, xy⟩ ⟨ap, ay⟩ 2
    ·have HL2 := hide hL2
     clear hL2
     go_enter Tryz.func103, Tryz.ntmps103
     go_upto_region 4 with fail
     refine wp_region_grown (by kernel_rfl) (by kernel_rfl) (fun hgn hgc => ?_)
     repeat (go_big_quiet_step (first
      | (go_at_call 125; rename_i g; exact g.call (isStep_T _ n ⟨xp, xy⟩ _ (hkk.below (below_then bw0 g.below)) (unhide HS)))
      | (go_at_call_of 78 (Value.int IntKind.i64 1); rename_i g; exact g.call (leads_F _ n ⟨xp, xy⟩ ⟨ap, ay⟩ 1 _ (hkk.below (below_then bw0 g.below)) hG (unhide HS) (unhide HAH) (unhide HL1)))
      | (go_at_call_of 78 (Value.int IntKind.i64 2); rename_i g; exact g.call (leads_T _ n ⟨xp, xy⟩ ⟨ap, ay⟩ 2 _ (hkk.below (below_then bw0 g.below)) hG (unhide HS) (unhide HAH) (unhide HL2)))))
     refine wpQuiet_nil ?_
     intro wq hwq
     obtain ⟨hbq, hR, hX⟩ : Below wa.heap.size wa wq ∧ Boxed wq wa.heap.size [.int .i64 0, .int .i64 0] ∧ Boxed wq (wa.heap.size + 1) [.int .i64 xp, .int .i64 xy] := by
      obtain ⟨g, rfl⟩ := hwq
      exact ⟨below_then bw0 g.below, ((boxed_alloc _ _ _).alloc _).below g.below, (boxedN _ _ _ (by simp)).below g.below⟩
     clear hwq hgc hgn
     have r0 := hR.2.1 0 _ rfl
     have r1 := hR.2.1 1 _ rfl
     have rz := hR.2.2
     have rl := hR.1
     have e0 := hX.2.1 0 _ rfl
     have e1 := hX.2.1 1 _ rfl
     have el := hX.1
     have d0 : wq.cell? ⟨C, 3, none⟩ = some (.int .i64 ap) := by rw [hbq.cell hCl]; exact c3
     have d1 : wq.cell? ⟨C, 4, none⟩ = some (.int .i64 ay) := by rw [hbq.cell hCl]; exact c4
     have d2 : wq.cell? ⟨C, 5, none⟩ = some (.slice (some ⟨xb, xoff, none⟩) (q.length + 1) bc) := by rw [hbq.cell hCl]; exact c5
     have dz : ∀ i, wq.frozen? ⟨C, i, none⟩ = false := fun i => by rw [hbq.frozen hCl]; exact cz i
     have hC3 : ¬ C = wa.heap.size := by omega
     have hC4 : ¬ C = wa.heap.size + 1 := by omega
     go_wp2_with fail
     go_region
     generalize hA : (if bc = 1 then (some ⟨xb, xoff, none⟩ : Option Addr) else some ⟨xb, xoff + 2, none⟩) = A
     have HA := hide hA
     clear hA
     go_wp2
     have hbX : Below wa.heap.size (((wq.setCell ⟨C, 3, none⟩ (.int .i64 xp)).setCell ⟨C, 4, none⟩ (.int .i64 xy)).setCell ⟨C, 5, none⟩ (.slice A q.length (bc - 1))) (((((wq.setCell ⟨C, 3, none⟩ (.int .i64 xp)).setCell ⟨C, 4, none⟩ (.int .i64 xy)).setCell ⟨C, 5, none⟩ (.slice A q.length (bc - 1))).setCell ⟨wa.heap.size, 0, none⟩ (.int .i64 xp)).setCell ⟨wa.heap.size, 1, none⟩ (.int .i64 xy)).drew := bw0
     have hBX := (((((unhide HB).below hbq).set (i := 3) (by simp) (.int .i64 xp)).set (i := 4) (by simp) (.int .i64 xy)).set (i := 5) (by simp) (.slice A q.length (bc - 1))).kept hbX hCl
     have hoX := ((((only_of_below (S := fun k => k = C) hbq).trans (only_setCell (S := fun k => k = C) _ (p := ⟨C, 3, none⟩) rfl (.int .i64 xp))).trans (only_setCell (S := fun k => k = C) _ (p := ⟨C, 4, none⟩) rfl (.int .i64 xy))).trans (only_setCell (S := fun k => k = C) _ (p := ⟨C, 5, none⟩) rfl (.slice A q.length (bc - 1)))).on hbX
     have hbX0 : Below w0.heap.size w0 (((wq.setCell ⟨C, 3, none⟩ (.int .i64 xp)).setCell ⟨C, 4, none⟩ (.int .i64 xy)).setCell ⟨C, 5, none⟩ (.slice A q.length (bc - 1))) := Below.setCell (Below.setCell (Below.setCell (hb0.trans (hbq.mono (by omega))) h0 _) h0 _) h0 _
     exact bodyPost_ret (v := .tuple #[.agg #[.int .i64 xp, .int .i64 xy], .bool true]) (by simp [results, Tryz.results103, go_sem, r0, r1]) rfl
      ⟨Or.inr ⟨⟨xp, xy⟩, (⟨xp, xy⟩, q), rfl, Or.inr ⟨_, _, rfl, unhide HS, (unhide HJ).2 (Or.inr (unhide HL2)), rfl⟩, unhide HS, hbX0.trans (hbX.mono (by omega)), unhide HS, A, bc - 1, hBX, tail_sts hst hcap (unhide HA), by dsimp only; omega⟩, hoX⟩
    ·have HL2 := hide hL2
     clear hL2
     go_enter Tryz.func103, Tryz.ntmps103
     go_upto_region 4 with fail
     refine wp_region_grown (by kernel_rfl) (by kernel_rfl) (fun hgn hgc => ?_)
     repeat (go_big_quiet_step (first
      | (go_at_call 125; rename_i g; exact g.call (isStep_T _ n ⟨xp, xy⟩ _ (hkk.below (below_then bw0 g.below)) (unhide HS)))
      | (go_at_call_of 78 (Value.int IntKind.i64 1); rename_i g; exact g.call (leads_F _ n ⟨xp, xy⟩ ⟨ap, ay⟩ 1 _ (hkk.below (below_then bw0 g.below)) hG (unhide HS) (unhide HAH) (unhide HL1)))
      | (go_at_call_of 78 (Value.int IntKind.i64 2); rename_i g; exact g.call (leads_F _ n ⟨xp, xy⟩ ⟨ap, ay⟩ 2 _ (hkk.below (below_then bw0 g.below)) hG (unhide HS) (unhide HAH) (unhide HL2)))))
     refine wpQuiet_nil ?_
     intro wq hwq
     obtain ⟨hbq, hR, hX⟩ : Below wa.heap.size wa wq ∧ Boxed wq wa.heap.size [.int .i64 0, .int .i64 0] ∧ Boxed wq (wa.heap.size + 1) [.int .i64 xp, .int .i64 xy] := by
      obtain ⟨g, rfl⟩ := hwq
      exact ⟨below_then bw0 g.below, ((boxed_alloc _ _ _).alloc _).below g.below, (boxedN _ _ _ (by simp)).below g.below⟩
     clear hwq hgc hgn
     have r0 := hR.2.1 0 _ rfl
     have r1 := hR.2.1 1 _ rfl
     have rz := hR.2.2
     have rl := hR.1
     go_wp2
     exact bodyPost_ret (v := .tuple #[.agg #[.int .i64 0, .int .i64 0], .bool false]) (by simp [results, Tryz.results103, go_sem, r0, r1]) rfl ⟨Or.inl ⟨0, 0, rfl, Or.inl ⟨rfl, Or.inr ⟨_, _, rfl, fun h => by rcases (unhide HJ).1 h.2 with h | h; exact unhide HL1 h; exact unhide HL2 h⟩⟩⟩, only_of_below (bw1 hbq)⟩
  ·have HS := hide hS
   clear hS
   go_enter Tryz.func103, Tryz.ntmps103
   go_upto_region 4 with fail
   refine wp_region_grown (by kernel_rfl) (by kernel_rfl) (fun hgn hgc => ?_)
   repeat (go_big_quiet_step (first
    | (go_at_call 125; rename_i g; exact g.call (isStep_F _ n ⟨xp, xy⟩ _ (hkk.below (below_then bw0 g.below)) (unhide HS)))))
   refine wpQuiet_nil ?_
   intro wq hwq
   obtain ⟨hbq, hR, hX⟩ : Below wa.heap.size wa wq ∧ Boxed wq wa.heap.size [.int .i64 0, .int .i64 0] ∧ Boxed wq (wa.heap.size + 1) [.int .i64 xp, .int .i64 xy] := by
    obtain ⟨g, rfl⟩ := hwq
    exact ⟨below_then bw0 g.below, ((boxed_alloc _ _ _).alloc _).below g.below, (boxedN _ _ _ (by simp)).below g.below⟩
   clear hwq hgc hgn
   have r0 := hR.2.1 0 _ rfl
   have r1 := hR.2.1 1 _ rfl
   have rz := hR.2.2
   have rl := hR.1
   go_wp2
   exact bodyPost_ret (v := .tuple #[.agg #[.int .i64 0, .int .i64 0], .bool false]) (by simp [results, Tryz.results103, go_sem, r0, r1]) rfl ⟨Or.inl ⟨0, 0, rfl, Or.inl ⟨rfl, Or.inr ⟨_, _, rfl, fun h => unhide HS h.1⟩⟩⟩, only_of_below (bw1 hbq)⟩

end Go.Proofs.YtjacbppeebnjfaaGreat

namespace Go.Proofs.YtjacbppeebnjfaaGreat
open Go.RowKit

def spare (n : Nt) (t : Tr) : Int := behind n t.front - t.long + sumLen n t.back

def RetBody (n : Nt) (t : Tr) (k0 k1 k2 : Value) (e : Ending) : Prop :=
 (TrainFits n t ∧ e = .returned (.tuple #[bodyV k0 k1 k2 t.front t.long (spare n t) t.back, .bool true])) ∨ (¬ TrainFits n t ∧ e = .returned (.tuple #[zeroBody, .bool false]))

theorem zero_load {W : World} {N : Nat} (h : OwnC W N 0 412 (bodyF (.slice none 0 0) (.slice none 0 0) (.slice none 0 0) ⟨0, 0, 0⟩ 0 0 [])) : (loadVar 72 ⟨N, 0, none⟩).run Tryz.prog W = .ok zeroBody W :=
 loadVar_body _ _ _ (bodyL_len _ _ _ _ _ _ _) h.range

theorem zero_one : ∀ v ∈ Tryz.zeroCells72.toList, v.oneCell' = true := by
 rw [zero_cells]
 simpa using bodyL_one _ _ _ _ rfl rfl rfl
theorem zero_len : Tryz.zeroCells72.toList.length = 412 := by
 rw [zero_cells]
 simp [bodyL_len]
theorem zero_put {W : World} {N : Nat} {f : Nat → Value} (h : OwnC W N 0 412 f) : OwnC (W.setCells N 0 Tryz.zeroCells72.toList) N 0 412 (bodyF (.slice none 0 0) (.slice none 0 0) (.slice none 0 0) ⟨0, 0, 0⟩ 0 0 []) := by
 rw [zero_cells]
 simpa using own_put h rfl

set_option maxRecDepth 100000 in
set_option maxHeartbeats 4000000 in
theorem bodyOf_any (n : Nt) (t : Tr) (k0 k1 k2 : Value) (ba : Option Addr) (bc : Nat) (w : World) {L : Nat} (hk : TrkAt L w (.agg #[k0, k1, k2]) n) (hG : NetGood n) (hst : StsAt 0 w ba t.back) (hcap : t.back.length ≤ bc) (hbl : t.back.length ≤ 1048576) :
  Calls Tryz.prog 75 #[.agg #[k0, k1, k2], .agg #[.int .i64 t.front.piece, .int .i64 t.front.at_, .int .i64 t.front.way, .int .i64 t.long, .slice ba t.back.length bc]] w fun e w' => RetBody n t k0 k1 k2 e ∧ Below w.heap.size w w' := by
 obtain ⟨⟨fp, fa, fy⟩, long, back⟩ := t
 dsimp only at hst hcap hbl ⊢
 obtain ⟨ka, kca, ksh, kcsh, kst, kcst, hkv, _⟩ := id hk
 simp at hkv
 obtain ⟨rfl, rfl, rfl⟩ := hkv
 have hkk := hk
 go_enter Tryz.func75, Tryz.ntmps75
 go_wp2_with fail
 refine (isSpot_any _ n ⟨fp, fa, fy⟩ _ (hkk.below ?_)).mono ?_
 ·exact bw0
 rintro e w1 ⟨⟨rfl, hr1⟩ | ⟨rfl, hr1⟩, hb1⟩
 rotate_left
 ·have hbw1 : Below w.heap.size w w1 := below_then bw0 hb1
  have hres : OwnC w1 (w.heap.size + 1 + 1) 0 412 (bodyF (.slice none 0 0) (.slice none 0 0) (.slice none 0 0) ⟨0, 0, 0⟩ 0 0 []) := (own_zero _ (by simp)).below hb1
  have hst4 := store_old _ _ _ hres Tryz.zeroCells72.toList zero_len zero_one
  have hldv := zero_load (zero_put hres)
  have HN : Hid (¬ TrainFits n ⟨⟨fp, fa, fy⟩, long, back⟩) := fun h => hr1 h.1
  have hend := below_puts (B := w.heap.size + 1 + 1) hbw1 (by omega) Tryz.zeroCells72.toList
  clear hr1 hres
  go_wp2
  exact bodyPost_ret (v := .tuple #[zeroBody, .bool false]) (by rw [results_cell_tmp rfl]; simp [asAddr, Result.andThen, hldv]) rfl ⟨Or.inr ⟨unhide HN, rfl⟩, hend⟩
 have hbw1 : Below w.heap.size w w1 := below_then bw0 hb1
 have hres : OwnC w1 (w.heap.size + 1 + 1) 0 412 (bodyF (.slice none 0 0) (.slice none 0 0) (.slice none 0 0) ⟨0, 0, 0⟩ 0 0 []) := (own_zero _ (by simp)).below hb1
 have hBk1 : Boxed w1 w.heap.size [(.slice ka n.pieces.length kca), (.slice ksh n.joints.length kcsh), (.slice kst n.pieces.length kcst)] := (((boxed_alloc w #[(.slice ka n.pieces.length kca), (.slice ksh n.joints.length kcsh), (.slice kst n.pieces.length kcst)] 65).alloc _).alloc _).below hb1
 have hBt1 : Boxed w1 (w.heap.size + 1) [.int .i64 fp, .int .i64 fa, .int .i64 fy, .int .i64 long, .slice ba back.length bc] := ((boxedN _ #[.int .i64 fp, .int .i64 fa, .int .i64 fy, .int .i64 long, .slice ba back.length bc] 32 (N := w.heap.size + 1) (by simp)).alloc _).below hb1
 have a0 := hBk1.2.1 0 _ rfl
 have a1 := hBk1.2.1 1 _ rfl
 have a2 := hBk1.2.1 2 _ rfl
 have b0 := hBt1.2.1 0 _ rfl
 have b1 := hBt1.2.1 1 _ rfl
 have b2 := hBt1.2.1 2 _ rfl
 have b3 := hBt1.2.1 3 _ rfl
 have b4 := hBt1.2.1 4 _ rfl
 have n0 := hBk1.1
 have n1 := hBt1.1
 go_wp2_with fail
 refine (within_any long 100000 _).mono ?_
 rintro e w1' ⟨⟨rfl, hr2⟩ | ⟨rfl, hr2⟩, rfl⟩
 rotate_left
 ·have HN : Hid (¬ TrainFits n ⟨⟨fp, fa, fy⟩, long, back⟩) := fun h => hr2 h.2.1
  clear hr2
  have hst4 := store_old _ _ _ hres Tryz.zeroCells72.toList zero_len zero_one
  have hldv := zero_load (zero_put hres)
  have hend := below_puts (B := w.heap.size + 1 + 1) hbw1 (by omega) Tryz.zeroCells72.toList
  clear hres
  go_wp2
  exact bodyPost_ret (v := .tuple #[zeroBody, .bool false]) (by rw [results_cell_tmp rfl]; simp [asAddr, Result.andThen, hldv]) rfl ⟨Or.inr ⟨unhide HN, rfl⟩, hend⟩
 have hsz1 := hbw1.size
 have ne0 : ¬ w1'.heap.size = w.heap.size := by omega
 have ne1 : ¬ w1'.heap.size = w.heap.size + 1 := by omega
 have ne2 : ¬ w.heap.size = w1'.heap.size := by omega
 have ne3 : ¬ w.heap.size + 1 = w1'.heap.size := by omega
 go_upto_region 3 with fail
 go_cut [6] (fun p wx => ∃ C, p = .pointer (some ⟨C, 0, none⟩) ∧ w1'.heap.size ≤ C ∧ Boxed wx C [(.slice ka n.pieces.length kca), (.slice ksh n.joints.length kcsh), (.slice kst n.pieces.length kcst), .int .i64 fp, .int .i64 fy, .slice ba back.length bc] ∧ Below w1'.heap.size w1' wx)
 case first =>
  go_region_held3 (fun w' => w'.cell? ⟨w.heap.size, 0, none⟩ = some (.slice ka n.pieces.length kca) ∧ w'.cell? ⟨w.heap.size, 1, none⟩ = some (.slice ksh n.joints.length kcsh) ∧ w'.cell? ⟨w.heap.size, 2, none⟩ = some (.slice kst n.pieces.length kcst)
    ∧ w'.cell? ⟨w.heap.size + 1, 0, none⟩ = some (.int .i64 fp) ∧ w'.cell? ⟨w.heap.size + 1, 1, none⟩ = some (.int .i64 fa) ∧ w'.cell? ⟨w.heap.size + 1, 2, none⟩ = some (.int .i64 fy) ∧ w'.cell? ⟨w.heap.size + 1, 4, none⟩ = some (.slice ba back.length bc))
   (((try dsimp only); (repeat' apply And.intro)) <;> (go_keep; done))
   (first
    | (go_at_call 46; refine (step_any ⟨fp, fa, fy⟩ _).mono ?_; rintro e w2 ⟨rfl, hb2⟩; obtain ⟨hc2, hf2⟩ := bcell hb2; have sz2 := hb2.size; (try simp at sz2); have ne4 : ¬ w2.heap.size = w.heap.size := (by omega); have ne5 : ¬ w2.heap.size = w.heap.size + 1 := (by omega); have ne6 : ¬ w.heap.size = w2.heap.size := (by omega); have ne7 : ¬ w.heap.size + 1 = w2.heap.size := (by omega); have q0 := hc2 (w.heap.size) (0) (by first | (simp; done) | (simp; omega) | omega); have q1 := hc2 (w.heap.size) (1) (by first | (simp; done) | (simp; omega) | omega); have q2 := hc2 (w.heap.size) (2) (by first | (simp; done) | (simp; omega) | omega); have q3 := hc2 (w.heap.size+1) (0) (by first | (simp; done) | (simp; omega) | omega); have q4 := hc2 (w.heap.size+1) (1) (by first | (simp; done) | (simp; omega) | omega); have q5 := hc2 (w.heap.size+1) (2) (by first | (simp; done) | (simp; omega) | omega); have q6 := hc2 (w.heap.size+1) (3) (by first | (simp; done) | (simp; omega) | omega); have q7 := hc2 (w.heap.size+1) (4) (by first | (simp; done) | (simp; omega) | omega)))
  all_goals go_wp2_with fail
  all_goals go_meet
  ·exact ⟨_, rfl, by omega, boxed_alloc _ _ _, below_then (below_then bw0 hb2) bw0⟩
  ·have hZ : Boxed w2 w1'.heap.size [.slice none 0 0, .slice none 0 0, .slice none 0 0, .int .i64 0, .int .i64 0, .slice none 0 0] := (boxed_alloc _ _ _).drew.below hb2
   have hbw2 : Below w1'.heap.size w1' w2 := below_then bw0 hb2
   have hZ6 := (((((hZ.set (i := 0) (by simp) (.slice ka n.pieces.length kca)).set (i := 1) (by simp) (.slice ksh n.joints.length kcsh)).set (i := 2) (by simp) (.slice kst n.pieces.length kcst)).set (i := 3) (by simp) (.int .i64 fp)).set (i := 4) (by simp) (.int .i64 fy)).set (i := 5) (by simp) (.slice ba back.length bc)
   exact ⟨_, rfl, Nat.le_refl _, hZ6, (bw1 hbw2)⟩
 case rest =>
  obtain ⟨C, rfl, hC, hBC, hbc⟩ := hcut
  have hbwc := below_then hbw1 hbc
  have n2w := hres.1
  have hresc := hres.below hbc
  have hBkc := hBk1.below hbc
  have hBtc := hBt1.below hbc
  clear a0 a1 a2 b0 b1 b2 b3 b4 ne0 ne1 ne2 ne3 hres hBk1 hBt1 n0 n1 hb1
  have a0 := hBkc.2.1 0 _ rfl
  have a1 := hBkc.2.1 1 _ rfl
  have a2 := hBkc.2.1 2 _ rfl
  have b0 := hBtc.2.1 0 _ rfl
  have b1 := hBtc.2.1 1 _ rfl
  have b2 := hBtc.2.1 2 _ rfl
  have b3 := hBtc.2.1 3 _ rfl
  have n0 := hBkc.1
  have n1 := hBtc.1
  have hmf : ∀ (fn : Fn) (first cap : Array Value) (W : World), (Instr.makeFunc fn first cap).run Tryz.prog W = .ok (.func fn first cap) W := fun _ _ _ _ => rfl
  have hszc := hbwc.size
  have hCl := hBC.1
  obtain ⟨k0', k1', k2', hkv', hcall⟩ := lay_any (NxTold n) (fun s wb => ToldAt n w (.slice ka n.pieces.length kca) (.slice ksh n.joints.length kcsh) (.slice kst n.pieces.length kcst) C s wb ∧ s.2.length ≤ 1048576) 103 C (⟨fp, fy⟩, back) (.agg #[.slice ka n.pieces.length kca, .slice ksh n.joints.length kcsh, .slice kst n.pieces.length kcst]) n ⟨fp, fa, fy⟩ long wc (L := L) (hkk.below hbwc) hG hr1 hr2 (fun W => by kernel_rfl) hCl
   (fun wb ho => hkk.below (hbwc.trans (ho.below hszc (fun k hk => by omega))))
   ⟨⟨hbwc, ⟨hr1.1, hr1.2.1⟩, ba, bc, hBC, hst, hcap⟩, hbl⟩
   (fun t x y hI hb => ⟨hI.1.kept hb hCl (by omega), hI.2⟩)
   (fun t wa hI _ => (told_next n w (.slice ka n.pieces.length kca) (.slice ksh n.joints.length kcsh) (.slice kst n.pieces.length kcst) C t wa hkk hG (by omega) hI.2 hI.1).mono fun e w' ⟨h1, h2⟩ => ⟨h1.imp id fun ⟨x, s', he, hn, hx, hI'⟩ => ⟨x, s', he, hn, hx, hI', by
    rcases hn with ⟨hn, _⟩ | ⟨y, q, hq, _, _, hn⟩
    ·simp at hn
    ·simp at hn
     have := hI.2
     rw [hq] at this
     rw [hn.2]
     simp at this ⊢
     omega⟩, h2⟩)
  simp at hkv'
  obtain ⟨⟨rfl, rfl⟩, ⟨rfl, rfl⟩, rfl, rfl⟩ := hkv'
  have HCALL := hide hcall
  clear hcall
  go_wp2_with fail
  refine (unhide HCALL).mono ?_
  rintro e w5 ⟨⟨xs, r, hok, rfl⟩ | ⟨hno, rfl⟩, ho⟩
  ·have hbw5 : Below w.heap.size w w5 := hbwc.trans (ho.below hszc (fun k hk => by omega))
   have hone := bodyL_one (k0 := .slice ka n.pieces.length kca) (k1 := .slice ksh n.joints.length kcsh) (k2 := .slice kst n.pieces.length kcst) ⟨fp, fa, fy⟩ long r xs rfl rfl rfl
   have hzs : Tryz.zeroCells72.size = 412 := by rw [zero_cells, bodyL_size]
   have hst5 := store_new w5 _ hzs _ (bodyL_len (.slice ka n.pieces.length kca) (.slice ksh n.joints.length kcsh) (.slice kst n.pieces.length kcst) ⟨fp, fa, fy⟩ long r xs) hone
   have hA : Below w5.heap.size w5 (w5.alloc (.cells (bodyL (.slice ka n.pieces.length kca) (.slice ksh n.joints.length kcsh) (.slice kst n.pieces.length kcst) ⟨fp, fa, fy⟩ long r xs).toArray 72)) := bw0
   have hbw6 := below_then hbw5 hA
   have hres6 := (hresc.only ho (by omega)).below hA
   have hBt6 := (hBtc.only ho (by omega)).below hA
   have hown6 := own_new w5 (.slice ka n.pieces.length kca) (.slice ksh n.joints.length kcsh) (.slice kst n.pieces.length kcst) ⟨fp, fa, fy⟩ long r xs 72
   have c411 : (w5.alloc (.cells (bodyL (.slice ka n.pieces.length kca) (.slice ksh n.joints.length kcsh) (.slice kst n.pieces.length kcst) ⟨fp, fa, fy⟩ long r xs).toArray 72)).cell? ⟨w5.heap.size, 411, none⟩ = some (.int .i64 xs.length) := by simpa [bodyF] using (hown6.2 411 (by omega)).1
   have b4 := hBt6.2.1 4 _ rfl
   have hlB := bodyL_len (.slice ka n.pieces.length kca) (.slice ksh n.joints.length kcsh) (.slice kst n.pieces.length kcst) ⟨fp, fa, fy⟩ long r xs
   have HOK := hide (told_ok (t := ⟨⟨fp, fa, fy⟩, long, back⟩) hok)
   have HLO := hide hok
   unfold bodyV
   clear hok hzs HCALL a0 a1 a2 b0 b1 b2 b3 hmf
   by_cases hlen : xs.length = back.length
   ·have hlb : ((xs.length : Int) != (back.length : Int)) = false := by rw [hlen]; simp
    have HLEN := hide hlen
    clear hlen
    have HRG := hide hown6.range
    have HTH2 : Hid ((w5.alloc (.cells (bodyL (.slice ka n.pieces.length kca) (.slice ksh n.joints.length kcsh) (.slice kst n.pieces.length kcst) ⟨fp, fa, fy⟩ long r xs).toArray 72)).there (w.heap.size + 1 + 1) 0 (bodyL (.slice ka n.pieces.length kca) (.slice ksh n.joints.length kcsh) (.slice kst n.pieces.length kcst) ⟨fp, fa, fy⟩ long r xs).toArray.size) := by
     have h := hres6.there
     unfold Hid
     rw [bodyL_size]
     exact h
    have hldv := loadVar_body _ _ _ (bodyL_len _ _ _ _ _ _ _) (own_put hres6 rfl (k0 := .slice ka n.pieces.length kca) (k1 := .slice ksh n.joints.length kcsh) (k2 := .slice kst n.pieces.length kcst) (s := ⟨fp, fa, fy⟩) (long := long) (sp := r) (xs := xs)).range
    have hend := below_puts (B := w.heap.size + 1 + 1) hbw6 (by omega) (bodyL (.slice ka n.pieces.length kca) (.slice ksh n.joints.length kcsh) (.slice kst n.pieces.length kcst) ⟨fp, fa, fy⟩ long r xs)
    have HFIT : Hid (TrainFits n ⟨⟨fp, fa, fy⟩, long, back⟩ ∧ xs = back ∧ r = spare n ⟨⟨fp, fa, fy⟩, long, back⟩) := by
     obtain ⟨h1, h2, _⟩ := unhide HOK
     obtain ⟨s', hl, hr, h0⟩ := unhide HLO
     have hx := h2 (unhide HLEN)
     have hfew := hl.few
     refine ⟨⟨hr1, hr2, by rw [← unhide HLEN]; exact hfew, h1.1 (unhide HLEN)⟩, hx, ?_⟩
     dsimp only at hx
     rw [hr, hx]
     rfl
    have HONE := hide hone
    clear hone hown6 hres6 hBt6
    go_wp2_with fail
    refine wp_load_mid 72 (.tmp 7) rfl w5.heap.size 0 rfl (bodyL (.slice ka n.pieces.length kca) (.slice ksh n.joints.length kcsh) (.slice kst n.pieces.length kcst) ⟨fp, fa, fy⟩ long r xs) _ (unhide HRG) Tryz.underlying72 rfl (by rw [info_size, bodyL_len]) ?_
    rename_i hKK
    refine hKK _ _ ?_
    simp only [Act.put, List.setIfInBounds_toArray, List.set_cons_zero, List.set_cons_succ]
    refine wpList_store_mid rfl 72 (.tmp 4) (.tmp 50) rfl (w.heap.size + 1 + 1) 0 (bodyL (.slice ka n.pieces.length kca) (.slice ksh n.joints.length kcsh) (.slice kst n.pieces.length kcst) ⟨fp, fa, fy⟩ long r xs).toArray rfl rfl (unhide HTH2) (by rw [info_size, bodyL_size]) (all_oneCell_toArray (unhide HONE)) ?_
    clear hKK
    go_wp2
    refine bodyPost_ret (v := .tuple #[.agg (bodyL (.slice ka n.pieces.length kca) (.slice ksh n.joints.length kcsh) (.slice kst n.pieces.length kcst) ⟨fp, fa, fy⟩ long r xs).toArray, .bool true]) (by rw [results_cell_tmp rfl]; simp [asAddr, Result.andThen, hldv]) rfl ⟨Or.inl ⟨(unhide HFIT).1, ?_⟩, hend⟩
    obtain ⟨_, hx, hr⟩ := unhide HFIT
    rw [hx, hr]
    rfl
   ·have hlb : ((xs.length : Int) != (back.length : Int)) = true := by rw [bne_iff_ne]; omega
    have HN : Hid (¬ TrainFits n ⟨⟨fp, fa, fy⟩, long, back⟩) := fun h => hlen ((unhide HOK).1.2 h.2.2.2)
    clear hlen
    have hst4 := store_old _ _ _ hres6 Tryz.zeroCells72.toList zero_len zero_one
    have hldv := zero_load (zero_put hres6)
    have hend := below_puts (B := w.heap.size + 1 + 1) hbw6 (by omega) Tryz.zeroCells72.toList
    go_wp2
    exact bodyPost_ret (v := .tuple #[zeroBody, .bool false]) (by rw [results_cell_tmp rfl]; simp [asAddr, Result.andThen, hldv]) rfl ⟨Or.inr ⟨unhide HN, rfl⟩, hend⟩
  ·have hbw5 : Below w.heap.size w w5 := hbwc.trans (ho.below hszc (fun k hk => by omega))
   have hzs : Tryz.zeroCells72.size = 412 := by rw [zero_cells, bodyL_size]
   have hst5 := store_new w5 _ hzs _ (bodyL_len (.slice none 0 0) (.slice none 0 0) (.slice none 0 0) ⟨0, 0, 0⟩ 0 0 []) (bodyL_one _ _ _ _ rfl rfl rfl)
   have hA : Below w5.heap.size w5 (w5.alloc (.cells (bodyL (.slice none 0 0) (.slice none 0 0) (.slice none 0 0) ⟨0, 0, 0⟩ 0 0 []).toArray 72)) := bw0
   have hbw6 := below_then hbw5 hA
   have hres6 := (hresc.only ho (by omega)).below hA
   have hlB := bodyL_len (.slice none 0 0) (.slice none 0 0) (.slice none 0 0) ⟨0, 0, 0⟩ 0 0 []
   have HN : Hid (¬ TrainFits n ⟨⟨fp, fa, fy⟩, long, back⟩) := fun h => told_no hno h.2.2.1 h.2.2.2
   unfold zeroBody bodyV
   clear hno hzs HCALL a0 a1 a2 b0 b1 b2 b3 hmf
   have hst4 := store_old _ _ _ hres6 Tryz.zeroCells72.toList zero_len zero_one
   have hldv := zero_load (zero_put hres6)
   have hend := below_puts (B := w.heap.size + 1 + 1) hbw6 (by omega) Tryz.zeroCells72.toList
   go_wp2
   exact bodyPost_ret (v := .tuple #[zeroBody, .bool false]) (by rw [results_cell_tmp rfl]; simp [asAddr, Result.andThen, hldv]) rfl ⟨Or.inr ⟨unhide HN, rfl⟩, hend⟩

end Go.Proofs.YtjacbppeebnjfaaGreat

namespace Go.Proofs.YtjacbppeebnjfaaGreat
open Go.RowKit

theorem keeps_puts {L B : Nat} (w : World) (hB : B < L) (l : List Value) : Keeps L w (w.setCells B 0 l) :=
 ⟨by rw [(heap_setCells B l 0 w (B + 1) (by omega)).2]; exact Nat.le_refl _, fun k h _ => (heap_setCells B l 0 w k (by omega)).1⟩
theorem own_zero2 (w : World) (o1 o2 : Obj) : OwnC (((w.alloc o1).alloc o2).alloc (.cells Tryz.zeroCells72 72)) (w.heap.size + 1 + 1) 0 412 (bodyF (.slice none 0 0) (.slice none 0 0) (.slice none 0 0) ⟨0, 0, 0⟩ 0 0 []) := own_zero _ (by simp)

end Go.Proofs.YtjacbppeebnjfaaGreat

