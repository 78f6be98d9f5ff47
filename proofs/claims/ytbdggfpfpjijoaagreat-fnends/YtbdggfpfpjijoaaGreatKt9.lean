import Derived.Test.YtbdggfpfpjijoaaGreatKt8
namespace Go.Proofs.YtbdggfpfpjijoaaGreat
open Go.RowKit

theorem leads_T (kv : Value) (n : Nt) (s ah : St) (lie : Int) (w : World) {L : Nat} (hk : TrkAt L w kv n) (hG : NetGood n) (hs : StepOk n s) (ha : StepOk n ah) (h : Leads n s ah lie) :
    Calls Tryz.prog 107 #[kv, .agg #[.int .i64 s.piece, .int .i64 s.way], .agg #[.int .i64 ah.piece, .int .i64 ah.way], .int .i64 lie] w fun e w' => e = .returned (.bool true) ∧ Below w.heap.size w w' :=
  (leads_any kv n s ah lie w hk hG hs ha).mono fun e w' ⟨he, hw⟩ => ⟨by rcases he with ⟨he, _⟩ | ⟨_, hn⟩; exact he; exact absurd h hn, hw⟩
theorem leads_F (kv : Value) (n : Nt) (s ah : St) (lie : Int) (w : World) {L : Nat} (hk : TrkAt L w kv n) (hG : NetGood n) (hs : StepOk n s) (ha : StepOk n ah) (h : ¬ Leads n s ah lie) :
    Calls Tryz.prog 107 #[kv, .agg #[.int .i64 s.piece, .int .i64 s.way], .agg #[.int .i64 ah.piece, .int .i64 ah.way], .int .i64 lie] w fun e w' => e = .returned (.bool false) ∧ Below w.heap.size w w' :=
  (leads_any kv n s ah lie w hk hG hs ha).mono fun e w' ⟨he, hw⟩ => ⟨by rcases he with ⟨_, hn⟩ | ⟨he, _⟩; exact absurd hn h; exact he, hw⟩

/-- The giver that follows a Back, in memory. -/
def ToldAt (n : Nt) (w0 : World) (k0 k1 k2 : Value) (C : Nat) (s : St × List St) (w : World) : Prop :=
  Below w0.heap.size w0 w ∧ StepOk n s.1 ∧ ∃ ba bc, Boxed w C [k0, k1, k2, .int .i64 s.1.piece, .int .i64 s.1.way, .slice ba s.2.length bc] ∧ StsAt 0 w0 ba s.2 ∧ s.2.length ≤ bc

theorem Boxed.kept {w w' : World} {N M : Nat} {vs : List Value} (h : Boxed w N vs) (hb : Below M w w') (hN : N < M) : Boxed w' N vs := by
  have hk := hb.block N hN
  exact ⟨Nat.lt_of_lt_of_le h.1 hb.size, fun i v hi => by rw [World.cell?_of_block (w := w) (a := ⟨N, i, none⟩) hk]; exact h.2.1 i v hi, fun i => by rw [World.frozen?_of_block (w := w) (a := ⟨N, i, none⟩) hk]; exact h.2.2 i⟩
theorem ToldAt.kept {n : Nt} {w0 : World} {k0 k1 k2 : Value} {C : Nat} {s : St × List St} {a b : World} {M : Nat} (h : ToldAt n w0 k0 k1 k2 C s a) (hb : Below M a b) (hC : C < M) (h0 : w0.heap.size ≤ C) : ToldAt n w0 k0 k1 k2 C s b := by
  obtain ⟨h1, h2, ba, bc, h3, h4⟩ := h
  exact ⟨h1.trans (hb.mono (by omega)), h2, ba, bc, h3.kept hb hC, h4⟩

theorem Boxed.set {w : World} {N : Nat} {vs : List Value} (h : Boxed w N vs) {i : Nat} (hi : i < vs.length) (x : Value) : Boxed (w.setCell ⟨N, i, none⟩ x) N (vs.set i x) := by
  refine ⟨by simpa [World.setCell] using h.1, fun j v hj => ?_, fun j => by simpa using h.2.2 j⟩
  by_cases e : j = i
  · subst e
    rw [World.cell?_setCell_same _ _ _ (h.2.1 j vs[j] (List.getElem?_eq_getElem hi))]
    rw [List.getElem?_set_self hi] at hj
    exact hj
  · rw [World.cell?_setCell_other _ _ _ _ (by simp <;> omega)]
    rw [List.getElem?_set_ne (by omega)] at hj
    exact h.2.1 j v hj

theorem tail_sts {w : World} {L xb xoff bc : Nat} {x : St} {q : List St} {A : Option Addr} (h : StsAt L w (some ⟨xb, xoff, none⟩) (x :: q)) (hcap : q.length + 1 ≤ bc) (hA : (if bc = 1 then (some ⟨xb, xoff, none⟩ : Option Addr) else some ⟨xb, xoff + 2, none⟩) = A) : StsAt L w A q := by
  intro i hi
  obtain ⟨b, off, hab, hb, c0, c1⟩ := h (i + 1) (by simp; omega)
  simp at hab
  obtain ⟨rfl, rfl⟩ := hab
  have hb1 : bc ≠ 1 := by omega
  rw [if_neg hb1] at hA
  refine ⟨xb, xoff + 2, hA.symm, hb, ?_, ?_⟩
  · rw [show xoff + 2 + i * 2 = xoff + (i + 1) * 2 by omega]
    simpa using c0
  · rw [show xoff + 2 + i * 2 + 1 = xoff + (i + 1) * 2 + 1 by omega]
    simpa using c1

set_option maxRecDepth 100000 in
set_option maxHeartbeats 4000000 in
theorem told_next (n : Nt) (w0 : World) (k0 k1 k2 : Value) (C : Nat) (s : St × List St) (wa : World) {L : Nat} (hk : TrkAt L w0 (.agg #[k0, k1, k2]) n) (hG : NetGood n) (h0 : w0.heap.size ≤ C) (hbl : s.2.length ≤ 1048576) (h : ToldAt n w0 k0 k1 k2 C s wa) :
    Calls Tryz.prog 150 #[.pointer (some ⟨C, 0, none⟩)] wa fun e w' =>
      ((∃ p y : Int, e = .returned (.tuple #[.agg #[.int .i64 p, .int .i64 y], .bool false]) ∧ NxTold n s none) ∨ ∃ x s', e = .returned (.tuple #[.agg #[.int .i64 x.piece, .int .i64 x.way], .bool true]) ∧ NxTold n s (some (x, s')) ∧ StepOk n x ∧ ToldAt n w0 k0 k1 k2 C s' w') ∧ Only (fun k => k = C) wa w' := by
  obtain ⟨hb0, hah, ba, bc, hB, hst, hcap⟩ := h
  obtain ⟨⟨ap, ay⟩, back⟩ := s
  dsimp only at hah hB hst hcap hbl ⊢
  have hkk := hk.below hb0
  have c3 := hB.2.1 3 _ rfl
  have c4 := hB.2.1 4 _ rfl
  have c5 := hB.2.1 5 _ rfl
  have c0 := hB.2.1 0 _ rfl
  have c1 := hB.2.1 1 _ rfl
  have c2 := hB.2.1 2 _ rfl
  have cz := hB.2.2
  have hCl := hB.1
  have hC1 : C < wa.heap.size + 1 := by omega
  have hC2 : C < wa.heap.size + 1 + 1 := by omega
  have HAH := hide hah
  have HB := hide hB
  clear hah hB
  rcases back with _ | ⟨x, q⟩
  · simp only [List.length_nil] at c5
    go_enter Tryz.func150, Tryz.ntmps150
    go_wp2
    exact bodyPost_ret (v := .tuple #[.agg #[.int .i64 0, .int .i64 0], .bool false]) (by simp [results, Tryz.results150, go_sem]) rfl ⟨Or.inl ⟨0, 0, rfl, Or.inl ⟨rfl, Or.inl rfl⟩⟩, only_of_below bw0⟩
  · obtain ⟨xb, xoff, rfl, hxb, x0, x1⟩ := hst.below hb0 0 (by simp)
    simp at x0 x1
    have hxb2 := hxb.2
    obtain ⟨xp, xy⟩ := x
    dsimp only at x0 x1
    have hne : (((q.length + 1 : Nat) : Int) == 0) = false := by rw [beq_eq_false_iff_ne]; omega
    have hpos : (0 : Int) < ((q.length + 1 : Nat) : Int) := by omega
    simp only [List.length_cons] at c5 hcap hbl
    by_cases hS : StepOk n ⟨xp, xy⟩
    · have HS := hide hS
      have HJ := hide (joined_iff hG ⟨xp, xy⟩ ⟨ap, ay⟩)
      clear hS
      by_cases hL1 : Leads n ⟨xp, xy⟩ ⟨ap, ay⟩ 1
      · have HL1 := hide hL1
        clear hL1
        go_enter Tryz.func150, Tryz.ntmps150
        go_upto_region 4 with fail
        refine wp_region_grown (by kernel_rfl) (by kernel_rfl) (fun hgn hgc => ?_)
        repeat (go_big_quiet_step (first
          | (go_at_call 112; rename_i g; exact g.call (isStep_T _ n ⟨xp, xy⟩ _ (hkk.below (below_then bw0 g.below)) (unhide HS)))
          | (go_at_call_of 107 (Value.int IntKind.i64 1); rename_i g; exact g.call (leads_T _ n ⟨xp, xy⟩ ⟨ap, ay⟩ 1 _ (hkk.below (below_then bw0 g.below)) hG (unhide HS) (unhide HAH) (unhide HL1)))))
        refine wpQuiet_nil ?_
        intro wq hwq
        obtain ⟨hbq, hR, hX⟩ : Below wa.heap.size wa wq ∧ Boxed wq wa.heap.size [.int .i64 0, .int .i64 0] ∧ Boxed wq (wa.heap.size + 1) [.int .i64 xp, .int .i64 xy] := by
          obtain ⟨g, rfl⟩ := hwq
          exact ⟨below_then bw0 g.below, ((boxed_alloc _ _ _).alloc _).below g.below, (boxedN _ _ _ (by simp)).below g.below⟩
        clear hwq hgc hgn
        have r0 := hR.2.1 0 _ rfl
        have r1 := hR.2.1 1 _ rfl
        have rz := hR.2.2
        have rl := hR.1
        have e0 := hX.2.1 0 _ rfl
        have e1 := hX.2.1 1 _ rfl
        have el := hX.1
        have d0 : wq.cell? ⟨C, 3, none⟩ = some (.int .i64 ap) := by rw [hbq.cell hCl]; exact c3
        have d1 : wq.cell? ⟨C, 4, none⟩ = some (.int .i64 ay) := by rw [hbq.cell hCl]; exact c4
        have d2 : wq.cell? ⟨C, 5, none⟩ = some (.slice (some ⟨xb, xoff, none⟩) (q.length + 1) bc) := by rw [hbq.cell hCl]; exact c5
        have dz : ∀ i, wq.frozen? ⟨C, i, none⟩ = false := fun i => by rw [hbq.frozen hCl]; exact cz i
        have hC3 : ¬ C = wa.heap.size := by omega
        have hC4 : ¬ C = wa.heap.size + 1 := by omega
        go_wp2_with fail
        go_region
        generalize hA : (if bc = 1 then (some ⟨xb, xoff, none⟩ : Option Addr) else some ⟨xb, xoff + 2, none⟩) = A
        have HA := hide hA
        clear hA
        go_wp2
        have hbX : Below wa.heap.size (((wq.setCell ⟨C, 3, none⟩ (.int .i64 xp)).setCell ⟨C, 4, none⟩ (.int .i64 xy)).setCell ⟨C, 5, none⟩ (.slice A q.length (bc - 1))) (((((wq.setCell ⟨C, 3, none⟩ (.int .i64 xp)).setCell ⟨C, 4, none⟩ (.int .i64 xy)).setCell ⟨C, 5, none⟩ (.slice A q.length (bc - 1))).setCell ⟨wa.heap.size, 0, none⟩ (.int .i64 xp)).setCell ⟨wa.heap.size, 1, none⟩ (.int .i64 xy)).drew := bw0
        have hBX := (((((unhide HB).below hbq).set (i := 3) (by simp) (.int .i64 xp)).set (i := 4) (by simp) (.int .i64 xy)).set (i := 5) (by simp) (.slice A q.length (bc - 1))).kept hbX hCl
        have hoX := ((((only_of_below (S := fun k => k = C) hbq).trans (only_setCell (S := fun k => k = C) _ (p := ⟨C, 3, none⟩) rfl (.int .i64 xp))).trans (only_setCell (S := fun k => k = C) _ (p := ⟨C, 4, none⟩) rfl (.int .i64 xy))).trans (only_setCell (S := fun k => k = C) _ (p := ⟨C, 5, none⟩) rfl (.slice A q.length (bc - 1)))).on hbX
        have hbX0 : Below w0.heap.size w0 (((wq.setCell ⟨C, 3, none⟩ (.int .i64 xp)).setCell ⟨C, 4, none⟩ (.int .i64 xy)).setCell ⟨C, 5, none⟩ (.slice A q.length (bc - 1))) := Below.setCell (Below.setCell (Below.setCell (hb0.trans (hbq.mono (by omega))) h0 _) h0 _) h0 _
        exact bodyPost_ret (v := .tuple #[.agg #[.int .i64 xp, .int .i64 xy], .bool true]) (by simp [results, Tryz.results150, go_sem, r0, r1]) rfl
          ⟨Or.inr ⟨⟨xp, xy⟩, (⟨xp, xy⟩, q), rfl, Or.inr ⟨_, _, rfl, unhide HS, (unhide HJ).2 (Or.inl (unhide HL1)), rfl⟩, unhide HS, hbX0.trans (hbX.mono (by omega)), unhide HS, A, bc - 1, hBX, tail_sts hst hcap (unhide HA), by dsimp only; omega⟩, hoX⟩
      · have HL1 := hide hL1
        clear hL1
        by_cases hL2 : Leads n ⟨xp, xy⟩ ⟨ap, ay⟩ 2
        · have HL2 := hide hL2
          clear hL2
          go_enter Tryz.func150, Tryz.ntmps150
          go_upto_region 4 with fail
          refine wp_region_grown (by kernel_rfl) (by kernel_rfl) (fun hgn hgc => ?_)
          repeat (go_big_quiet_step (first
            | (go_at_call 112; rename_i g; exact g.call (isStep_T _ n ⟨xp, xy⟩ _ (hkk.below (below_then bw0 g.below)) (unhide HS)))
            | (go_at_call_of 107 (Value.int IntKind.i64 1); rename_i g; exact g.call (leads_F _ n ⟨xp, xy⟩ ⟨ap, ay⟩ 1 _ (hkk.below (below_then bw0 g.below)) hG (unhide HS) (unhide HAH) (unhide HL1)))
            | (go_at_call_of 107 (Value.int IntKind.i64 2); rename_i g; exact g.call (leads_T _ n ⟨xp, xy⟩ ⟨ap, ay⟩ 2 _ (hkk.below (below_then bw0 g.below)) hG (unhide HS) (unhide HAH) (unhide HL2)))))
          refine wpQuiet_nil ?_
          intro wq hwq
          obtain ⟨hbq, hR, hX⟩ : Below wa.heap.size wa wq ∧ Boxed wq wa.heap.size [.int .i64 0, .int .i64 0] ∧ Boxed wq (wa.heap.size + 1) [.int .i64 xp, .int .i64 xy] := by
            obtain ⟨g, rfl⟩ := hwq
            exact ⟨below_then bw0 g.below, ((boxed_alloc _ _ _).alloc _).below g.below, (boxedN _ _ _ (by simp)).below g.below⟩
          clear hwq hgc hgn
          have r0 := hR.2.1 0 _ rfl
          have r1 := hR.2.1 1 _ rfl
          have rz := hR.2.2
          have rl := hR.1
          have e0 := hX.2.1 0 _ rfl
          have e1 := hX.2.1 1 _ rfl
          have el := hX.1
          have d0 : wq.cell? ⟨C, 3, none⟩ = some (.int .i64 ap) := by rw [hbq.cell hCl]; exact c3
          have d1 : wq.cell? ⟨C, 4, none⟩ = some (.int .i64 ay) := by rw [hbq.cell hCl]; exact c4
          have d2 : wq.cell? ⟨C, 5, none⟩ = some (.slice (some ⟨xb, xoff, none⟩) (q.length + 1) bc) := by rw [hbq.cell hCl]; exact c5
          have dz : ∀ i, wq.frozen? ⟨C, i, none⟩ = false := fun i => by rw [hbq.frozen hCl]; exact cz i
          have hC3 : ¬ C = wa.heap.size := by omega
          have hC4 : ¬ C = wa.heap.size + 1 := by omega
          go_wp2_with fail
          go_region
          generalize hA : (if bc = 1 then (some ⟨xb, xoff, none⟩ : Option Addr) else some ⟨xb, xoff + 2, none⟩) = A
          have HA := hide hA
          clear hA
          go_wp2
          have hbX : Below wa.heap.size (((wq.setCell ⟨C, 3, none⟩ (.int .i64 xp)).setCell ⟨C, 4, none⟩ (.int .i64 xy)).setCell ⟨C, 5, none⟩ (.slice A q.length (bc - 1))) (((((wq.setCell ⟨C, 3, none⟩ (.int .i64 xp)).setCell ⟨C, 4, none⟩ (.int .i64 xy)).setCell ⟨C, 5, none⟩ (.slice A q.length (bc - 1))).setCell ⟨wa.heap.size, 0, none⟩ (.int .i64 xp)).setCell ⟨wa.heap.size, 1, none⟩ (.int .i64 xy)).drew := bw0
          have hBX := (((((unhide HB).below hbq).set (i := 3) (by simp) (.int .i64 xp)).set (i := 4) (by simp) (.int .i64 xy)).set (i := 5) (by simp) (.slice A q.length (bc - 1))).kept hbX hCl
          have hoX := ((((only_of_below (S := fun k => k = C) hbq).trans (only_setCell (S := fun k => k = C) _ (p := ⟨C, 3, none⟩) rfl (.int .i64 xp))).trans (only_setCell (S := fun k => k = C) _ (p := ⟨C, 4, none⟩) rfl (.int .i64 xy))).trans (only_setCell (S := fun k => k = C) _ (p := ⟨C, 5, none⟩) rfl (.slice A q.length (bc - 1)))).on hbX
          have hbX0 : Below w0.heap.size w0 (((wq.setCell ⟨C, 3, none⟩ (.int .i64 xp)).setCell ⟨C, 4, none⟩ (.int .i64 xy)).setCell ⟨C, 5, none⟩ (.slice A q.length (bc - 1))) := Below.setCell (Below.setCell (Below.setCell (hb0.trans (hbq.mono (by omega))) h0 _) h0 _) h0 _
          exact bodyPost_ret (v := .tuple #[.agg #[.int .i64 xp, .int .i64 xy], .bool true]) (by simp [results, Tryz.results150, go_sem, r0, r1]) rfl
            ⟨Or.inr ⟨⟨xp, xy⟩, (⟨xp, xy⟩, q), rfl, Or.inr ⟨_, _, rfl, unhide HS, (unhide HJ).2 (Or.inr (unhide HL2)), rfl⟩, unhide HS, hbX0.trans (hbX.mono (by omega)), unhide HS, A, bc - 1, hBX, tail_sts hst hcap (unhide HA), by dsimp only; omega⟩, hoX⟩
        · have HL2 := hide hL2
          clear hL2
          go_enter Tryz.func150, Tryz.ntmps150
          go_upto_region 4 with fail
          refine wp_region_grown (by kernel_rfl) (by kernel_rfl) (fun hgn hgc => ?_)
          repeat (go_big_quiet_step (first
            | (go_at_call 112; rename_i g; exact g.call (isStep_T _ n ⟨xp, xy⟩ _ (hkk.below (below_then bw0 g.below)) (unhide HS)))
            | (go_at_call_of 107 (Value.int IntKind.i64 1); rename_i g; exact g.call (leads_F _ n ⟨xp, xy⟩ ⟨ap, ay⟩ 1 _ (hkk.below (below_then bw0 g.below)) hG (unhide HS) (unhide HAH) (unhide HL1)))
            | (go_at_call_of 107 (Value.int IntKind.i64 2); rename_i g; exact g.call (leads_F _ n ⟨xp, xy⟩ ⟨ap, ay⟩ 2 _ (hkk.below (below_then bw0 g.below)) hG (unhide HS) (unhide HAH) (unhide HL2)))))
          refine wpQuiet_nil ?_
          intro wq hwq
          obtain ⟨hbq, hR, hX⟩ : Below wa.heap.size wa wq ∧ Boxed wq wa.heap.size [.int .i64 0, .int .i64 0] ∧ Boxed wq (wa.heap.size + 1) [.int .i64 xp, .int .i64 xy] := by
            obtain ⟨g, rfl⟩ := hwq
            exact ⟨below_then bw0 g.below, ((boxed_alloc _ _ _).alloc _).below g.below, (boxedN _ _ _ (by simp)).below g.below⟩
          clear hwq hgc hgn
          have r0 := hR.2.1 0 _ rfl
          have r1 := hR.2.1 1 _ rfl
          have rz := hR.2.2
          have rl := hR.1
          go_wp2
          exact bodyPost_ret (v := .tuple #[.agg #[.int .i64 0, .int .i64 0], .bool false]) (by simp [results, Tryz.results150, go_sem, r0, r1]) rfl ⟨Or.inl ⟨0, 0, rfl, Or.inl ⟨rfl, Or.inr ⟨_, _, rfl, fun h => by rcases (unhide HJ).1 h.2 with h | h; exact unhide HL1 h; exact unhide HL2 h⟩⟩⟩, only_of_below (by repeat (first | with_reducible exact Below.refl _ _ | with_reducible exact hbq | refine bwS ?_ | refine bwA ?_ | refine Below.drew ?_ | refine below_draws ?_ _ | exact hbq | exact Below.refl _ _))⟩
    · have HS := hide hS
      clear hS
      go_enter Tryz.func150, Tryz.ntmps150
      go_upto_region 4 with fail
      refine wp_region_grown (by kernel_rfl) (by kernel_rfl) (fun hgn hgc => ?_)
      repeat (go_big_quiet_step (first
        | (go_at_call 112; rename_i g; exact g.call (isStep_F _ n ⟨xp, xy⟩ _ (hkk.below (below_then bw0 g.below)) (unhide HS)))))
      refine wpQuiet_nil ?_
      intro wq hwq
      obtain ⟨hbq, hR, hX⟩ : Below wa.heap.size wa wq ∧ Boxed wq wa.heap.size [.int .i64 0, .int .i64 0] ∧ Boxed wq (wa.heap.size + 1) [.int .i64 xp, .int .i64 xy] := by
        obtain ⟨g, rfl⟩ := hwq
        exact ⟨below_then bw0 g.below, ((boxed_alloc _ _ _).alloc _).below g.below, (boxedN _ _ _ (by simp)).below g.below⟩
      clear hwq hgc hgn
      have r0 := hR.2.1 0 _ rfl
      have r1 := hR.2.1 1 _ rfl
      have rz := hR.2.2
      have rl := hR.1
      go_wp2
      exact bodyPost_ret (v := .tuple #[.agg #[.int .i64 0, .int .i64 0], .bool false]) (by simp [results, Tryz.results150, go_sem, r0, r1]) rfl ⟨Or.inl ⟨0, 0, rfl, Or.inl ⟨rfl, Or.inr ⟨_, _, rfl, fun h => unhide HS h.1⟩⟩⟩, only_of_below (by repeat (first | with_reducible exact Below.refl _ _ | with_reducible exact hbq | refine bwS ?_ | refine bwA ?_ | refine Below.drew ?_ | refine below_draws ?_ _ | exact hbq | exact Below.refl _ _))⟩

end Go.Proofs.YtbdggfpfpjijoaaGreat

