import Derived.Test.YtbdggfpfpjijoabGreatG28
import Derived.Test.YtbdggfpfpjijoabGreatG15
import Derived.Test.YtbdggfpfpjijoabGreatSpec14
import Derived.Test.YtbdggfpfpjijoabGreatG26
namespace Go.Proofs.YtbdggfpfpjijoabGreat
open Go.RowKit

/-- A row of one step, just made. -/
theorem stRow_one (w : World) (x : St) {base : Nat} (hb : base ≤ w.heap.size) : StRow (w.alloc (.cells #[.int .i64 x.piece, .int .i64 x.way] 84)) base (.slice (some ⟨w.heap.size, 0, none⟩) 1 1) [x] :=
  ⟨by simp [stF], Or.inr ⟨w.heap.size, 1, #[.int .i64 x.piece, .int .i64 x.way], rfl, hb, Deep.blk_alloc_new _ _, by simp, by unfold maxLen; omega, by simp, by simp [stF]⟩⟩

theorem turnList_all (t : Tr) (k : Nat) (hk : k < t.back.length) (x : St) (h : (turnList t)[k]? = some x) : ((((⟨t.front.piece, t.front.way⟩ : St) :: t.back).map trn))[t.back.length - 1 - k]? = some x := by
  rw [← turnList_get t k hk]
  exact h

theorem turnList_ok {n : Nt} {t : Tr} (hF : TrainFits n t) : ∀ x ∈ turnList t, StepOk n x := by
  intro x hx
  obtain ⟨y, hy, rfl⟩ := List.mem_map.1 hx
  have := turn_steps hF y (List.mem_reverse.1 hy)
  exact ⟨this.1, by have := this.2; unfold trn; dsimp only; omega⟩

theorem boxed_grown {W' w5 : World} {r : Option Nat} (hg : W'.grownBy w5 r) {O : Nat} {vs : List Value} (h : Boxed W' O vs) (hne : some O ≠ r) : Boxed w5 O vs := by
  have hblk := hg.block O h.1 hne
  exact ⟨Nat.lt_of_lt_of_le h.1 hg.size, fun i v hi => by rw [World.cell?_of_block (w := W') (a := ⟨O, i, none⟩) hblk]; exact h.2.1 i v hi, fun i => by rw [World.frozen?_of_block (w := W') (a := ⟨O, i, none⟩) hblk]; exact h.2.2 i⟩
theorem StsAt.only {L : Nat} {w w' : World} {a : Option Addr} {es : List St} {C : Nat} (h : StsAt L w a es) (ho : Only (fun k => k = C) w w') (hC : C < L) : StsAt L w' a es := by
  intro i hi
  obtain ⟨b, off, ha, hlt, c0, c1⟩ := h i hi
  have hb := ho.block b hlt.2 (by omega)
  exact ⟨b, off, ha, ⟨hlt.1, Nat.lt_of_lt_of_le hlt.2 ho.size⟩, (World.cell?_of_block (w := w) (a := ⟨b, _, none⟩) hb).trans c0, (World.cell?_of_block (w := w) (a := ⟨b, _, none⟩) hb).trans c1⟩

set_option maxRecDepth 100000 in
set_option maxHeartbeats 8000000 in
theorem specTurned_any (v tv : Value) (n : Nt) (t : Tr) (w : World) {L L' : Nat} (hv : NetAt L w v n) (htv : TrAt L' w tv t) (hl : n.pieces.length ≤ 1048576) (hl' : n.joints.length ≤ 1048576)
    (hle : ∀ i (h : i < n.joints.length), n.joints[i].ends.length ≤ 1048576 ∧ n.joints[i].name.size ≤ maxLen) (hnm : ∀ i (h : i < n.pieces.length), n.pieces[i].name.size ≤ maxLen) (hbl : t.back.length ≤ 1048576) :
    Calls Tryz.prog 8 #[v, tv] w fun e w' => RetTrn (TurnIs n t) w.heap.size e w' ∧ Below w.heap.size w w' := by
  have hvv := hv
  have htt := htv
  obtain ⟨x, c, ca, cc, rfl, hp, hj⟩ := hv
  obtain ⟨ba, bc, rfl, hst⟩ := htv
  obtain ⟨i0, hi, hz0, hz1, hz2⟩ := info_parts info_Step
  go_enter Tryz.func8, Tryz.ntmps8
  go_wp2_with fail
  refine (specTrainOk_any _ _ n t _ (hvv.below ?_) (htt.below ?_) hl hl' hle hnm hbl).mono ?_
  · exact (by repeat (first | with_reducible exact Below.refl _ _ | refine Below.setCell ?_ (by first | omega | (simp <;> omega) | (simp [World.setCell] <;> omega)) _ | refine Below.alloc ?_ (by first | omega | (simp <;> omega) | (simp [World.setCell] <;> omega)) _ | refine Below.drew ?_ | refine below_draws ?_ _ | exact Below.refl _ _))
  · exact (by repeat (first | with_reducible exact Below.refl _ _ | refine Below.setCell ?_ (by first | omega | (simp <;> omega) | (simp [World.setCell] <;> omega)) _ | refine Below.alloc ?_ (by first | omega | (simp <;> omega) | (simp [World.setCell] <;> omega)) _ | refine Below.drew ?_ | refine below_draws ?_ _ | exact Below.refl _ _))
  rintro e w1 ⟨hR, hb1⟩
  have hbw1 : Below w.heap.size w w1 := below_then (by repeat (first | with_reducible exact Below.refl _ _ | refine Below.setCell ?_ (by first | omega | (simp <;> omega) | (simp [World.setCell] <;> omega)) _ | refine Below.alloc ?_ (by first | omega | (simp <;> omega) | (simp [World.setCell] <;> omega)) _ | refine Below.drew ?_ | refine below_draws ?_ _ | exact Below.refl _ _)) hb1
  have hN1 : Boxed w1 w.heap.size [.slice x n.pieces.length ca, .slice c n.joints.length cc] := (((boxed_alloc _ _ _).alloc _).alloc _).below hb1
  have hT1 : Boxed w1 (w.heap.size + 1) [.int .i64 t.front.piece, .int .i64 t.front.at_, .int .i64 t.front.way, .int .i64 t.long, .slice ba t.back.length bc] := ((boxedN _ _ _ (by simp)).alloc _).below hb1
  have hR1 : Boxed w1 (w.heap.size + 1 + 1) [.int .i64 0, .int .i64 0, .int .i64 0, .int .i64 0, .slice none 0 0] := (boxedN _ _ _ (by simp)).below hb1
  have hsz1 := hbw1.size
  rcases hR with ⟨rfl, hR⟩ | ⟨rfl, hR⟩
  rotate_left
  · have HR := hide hR
    have r0 := hR1.2.1 0 _ rfl
    have r1 := hR1.2.1 1 _ rfl
    have r2 := hR1.2.1 2 _ rfl
    have r3 := hR1.2.1 3 _ rfl
    have r4 := hR1.2.1 4 _ rfl
    have rz := hR1.2.2
    have rl := hR1.1
    clear hR
    go_wp2
    exact bodyPost_ret (v := .agg #[.int .i64 0, .int .i64 0, .int .i64 0, .int .i64 0, .slice none 0 0]) (by simp [results, Tryz.results8, go_sem, r0, r1, r2, r3, r4]) rfl ⟨⟨noTr, none, 0, Or.inr ⟨unhide HR, rfl⟩, rfl, Row.nil _ _ _ _ _⟩, by first | exact (((((hbw1.setCell (by simp; omega) _).setCell (by simp; omega) _).setCell (by simp; omega) _).setCell (by simp; omega) _).setCell (by simp; omega) _) | exact (by repeat (first | with_reducible exact Below.refl _ _ | with_reducible exact hbw1 | refine Below.setCell ?_ (by first | omega | (simp <;> omega) | (simp [World.setCell] <;> omega)) _ | refine Below.alloc ?_ (by first | omega | (simp <;> omega) | (simp [World.setCell] <;> omega)) _ | refine Below.drew ?_ | refine below_draws ?_ _ | exact hbw1 | exact Below.refl _ _))⟩
  have hG := netGood hR.1
  have hF := hR.2
  have HR := hide hR
  have hway := (lastOf_ok (n := n) (s := ⟨t.front.piece, t.front.way⟩) ⟨hF.1.1, hF.1.2.1⟩ (backOk_steps hF.2.2.2)).2
  have htail := turnTail_ok hG hF
  have hfy := hF.1.2.1
  have h200 := hF.2.2.1
  have hlong := hF.2.1
  have HF := hide hF
  clear hR hF
  have a0 := hN1.2.1 0 _ rfl
  have a1 := hN1.2.1 1 _ rfl
  have t0 := hT1.2.1 0 _ rfl
  have t1 := hT1.2.1 1 _ rfl
  have t2 := hT1.2.1 2 _ rfl
  have t3 := hT1.2.1 3 _ rfl
  have t4 := hT1.2.1 4 _ rfl
  have nl := hN1.1
  have tl := hT1.1
  have rl := hR1.1
  have ne0 : ¬ w1.heap.size = w.heap.size := by omega
  have ne1 : ¬ w1.heap.size = w.heap.size + 1 := by omega
  have ne2 : ¬ w.heap.size = w1.heap.size := by omega
  have ne3 : ¬ w.heap.size + 1 = w1.heap.size := by omega
  go_upto_region 3 with fail
  go_cut [5] (fun p wx => ∃ O, p = .pointer (some ⟨O, 0, none⟩) ∧ w1.heap.size ≤ O ∧ Boxed wx O [.int .i64 (tailOf n t).piece, .int .i64 (tailOf n t).at_, .int .i64 (tailOf n t).way, .int .i64 t.long, .slice none 0 0] ∧ Below w1.heap.size w1 wx)
  case first =>
    go_region_held3 (fun w' => w'.cell? ⟨w.heap.size, 0, none⟩ = some (.slice x n.pieces.length ca) ∧ w'.cell? ⟨w.heap.size, 1, none⟩ = some (.slice c n.joints.length cc) ∧ w'.cell? ⟨w.heap.size + 1, 0, none⟩ = some (.int .i64 t.front.piece) ∧ w'.cell? ⟨w.heap.size + 1, 1, none⟩ = some (.int .i64 t.front.at_)
        ∧ w'.cell? ⟨w.heap.size + 1, 2, none⟩ = some (.int .i64 t.front.way) ∧ w'.cell? ⟨w.heap.size + 1, 3, none⟩ = some (.int .i64 t.long) ∧ w'.cell? ⟨w.heap.size + 1, 4, none⟩ = some (.slice ba t.back.length bc))
      (((try dsimp only); (repeat' apply And.intro)) <;> (go_keep; done))
      (first
        | (go_at_call 44; refine (l2tail_any _ _ n t _ (hvv.below (below_then hbw1 (by repeat (first | with_reducible exact Below.refl _ _ | refine Below.setCell ?_ (by first | omega | (simp <;> omega) | (simp [World.setCell] <;> omega)) _ | refine Below.alloc ?_ (by first | omega | (simp <;> omega) | (simp [World.setCell] <;> omega)) _ | refine Below.drew ?_ | refine below_draws ?_ _ | exact Below.refl _ _)))) (htt.below (below_then hbw1 (by repeat (first | with_reducible exact Below.refl _ _ | refine Below.setCell ?_ (by first | omega | (simp <;> omega) | (simp [World.setCell] <;> omega)) _ | refine Below.alloc ?_ (by first | omega | (simp <;> omega) | (simp [World.setCell] <;> omega)) _ | refine Below.drew ?_ | refine below_draws ?_ _ | exact Below.refl _ _)))) hG (unhide HF)).mono ?_; rintro e w2 ⟨rfl, hb2⟩; obtain ⟨hc2, hf2⟩ := bcell hb2; have sz2 := hb2.size; (try simp at sz2); have ne4 : ¬ w2.heap.size = w.heap.size := (by omega); have ne5 : ¬ w2.heap.size = w.heap.size + 1 := (by omega); have ne6 : ¬ w.heap.size = w2.heap.size := (by omega); have ne7 : ¬ w.heap.size + 1 = w2.heap.size := (by omega); have q0 := hc2 (w.heap.size) (0) (by first | (simp; done) | (simp; omega) | omega); have q1 := hc2 (w.heap.size) (1) (by first | (simp; done) | (simp; omega) | omega); have q2 := hc2 (w.heap.size+1) (0) (by first | (simp; done) | (simp; omega) | omega); have q3 := hc2 (w.heap.size+1) (1) (by first | (simp; done) | (simp; omega) | omega); have q4 := hc2 (w.heap.size+1) (2) (by first | (simp; done) | (simp; omega) | omega); have q5 := hc2 (w.heap.size+1) (3) (by first | (simp; done) | (simp; omega) | omega); have q6 := hc2 (w.heap.size+1) (4) (by first | (simp; done) | (simp; omega) | omega)))
    all_goals go_wp2_with fail
    all_goals go_meet
    · exact ⟨_, rfl, by omega, boxed_alloc _ _ _, below_then (below_then (by repeat (first | with_reducible exact Below.refl _ _ | refine Below.setCell ?_ (by first | omega | (simp <;> omega) | (simp [World.setCell] <;> omega)) _ | refine Below.alloc ?_ (by first | omega | (simp <;> omega) | (simp [World.setCell] <;> omega)) _ | refine Below.drew ?_ | refine below_draws ?_ _ | exact Below.refl _ _)) hb2) (by repeat (first | with_reducible exact Below.refl _ _ | refine Below.setCell ?_ (by first | omega | (simp <;> omega) | (simp [World.setCell] <;> omega)) _ | refine Below.alloc ?_ (by first | omega | (simp <;> omega) | (simp [World.setCell] <;> omega)) _ | refine Below.drew ?_ | refine below_draws ?_ _ | exact Below.refl _ _))⟩
    · have hZ : Boxed w2 w1.heap.size [.int .i64 0, .int .i64 0, .int .i64 0, .int .i64 0, .slice none 0 0] := (boxed_alloc _ _ _).drew.below hb2
      have hbw2 : Below w1.heap.size w1 w2 := below_then (by repeat (first | with_reducible exact Below.refl _ _ | refine Below.setCell ?_ (by first | omega | (simp <;> omega) | (simp [World.setCell] <;> omega)) _ | refine Below.alloc ?_ (by first | omega | (simp <;> omega) | (simp [World.setCell] <;> omega)) _ | refine Below.drew ?_ | refine below_draws ?_ _ | exact Below.refl _ _)) hb2
      have hZ5 := ((((hZ.set (i := 0) (by simp) (.int .i64 (tailOf n t).piece)).set (i := 1) (by simp) (.int .i64 (tailOf n t).at_)).set (i := 2) (by simp) (.int .i64 (tailOf n t).way)).set (i := 3) (by simp) (.int .i64 t.long)).set (i := 4) (by simp) (.slice none 0 0)
      exact ⟨_, rfl, Nat.le_refl _, hZ5, (by repeat (first | with_reducible exact Below.refl _ _ | with_reducible exact hbw2 | refine Below.setCell ?_ (by first | omega | (simp <;> omega) | (simp [World.setCell] <;> omega)) _ | refine Below.alloc ?_ (by first | omega | (simp <;> omega) | (simp [World.setCell] <;> omega)) _ | refine Below.drew ?_ | refine below_draws ?_ _ | exact hbw2 | exact Below.refl _ _))⟩
  case rest =>
    obtain ⟨O, rfl, hO, hBO, hbc⟩ := hcut
    have hbwc := below_then hbw1 hbc
    have hNc := hN1.below hbc
    have hTc := hT1.below hbc
    have hRc := hR1.below hbc
    have szc := hbc.size
    clear a0 a1 t0 t1 t2 t3 t4 ne0 ne1 ne2 ne3
    have o2 := hBO.2.1 2 _ rfl
    have oz := hBO.2.2
    have ol := hBO.1
    have t0 := hTc.2.1 0 _ rfl
    have t2 := hTc.2.1 2 _ rfl
    have t4 := hTc.2.1 4 _ rfl
    have tlc := hTc.1
    have hneg1 : IntKind.i64.wrap (-(tailOf n t).way) = -(tailOf n t).way := by
      have : (tailOf n t).way = 1 ∨ (tailOf n t).way = -1 := hway
      exact wrap_small (by omega) (by omega)
    have hneg2 : IntKind.i64.wrap (-t.front.way) = -t.front.way := wrap_small (by omega) (by omega)
    have hTO : w.heap.size + 1 ≠ O := by omega
    have hNO : w.heap.size ≠ O := by omega
    have hRO : w.heap.size + 1 + 1 ≠ O := by omega
    have nTO : ¬ w.heap.size + 1 = O := hTO
    have nOT : ¬ O = w.heap.size + 1 := fun h => hTO h.symm
    go_wp2_with fail
    obtain ⟨tp, htp⟩ : ∃ tp, (tailOf n t).piece = tp := ⟨_, rfl⟩
    obtain ⟨ta, hta⟩ : ∃ ta, (tailOf n t).at_ = ta := ⟨_, rfl⟩
    obtain ⟨ty, hty⟩ : ∃ ty, -(tailOf n t).way = ty := ⟨_, rfl⟩
    have hTT : turnTail n t = ⟨tp, ta, ty⟩ := by rw [← htp, ← hta, ← hty]; rfl
    rw [hTT] at htail
    have HTT := hide hTT
    have hB2 := hBO.set (i := 2) (by simp) (.int .i64 ty)
    rw [htp, hta] at hB2
    have hN2 := hNc.apart (p := ⟨O, 2, none⟩) hNO (.int .i64 ty)
    have hT2 := hTc.apart (p := ⟨O, 2, none⟩) hTO (.int .i64 ty)
    have hR2 := hRc.apart (p := ⟨O, 2, none⟩) hRO (.int .i64 ty)
    have hb2w : Below w.heap.size w (wc.setCell ⟨O, 2, none⟩ (.int .i64 ty)) := hbwc.setCell (p := ⟨O, 2, none⟩) (by show w.heap.size ≤ O; omega) _
    rw [hty]
    have hrowA := stRow_one (wc.setCell ⟨O, 2, none⟩ (.int .i64 ty)) ⟨t.front.piece, -t.front.way⟩ (base := wc.heap.size) (by simp [World.setCell])
    rw [setCell_size] at hrowA
    clear hTT htp hta hty o2 hneg1 hBO oz
    obtain ⟨⟨fp, fa, fy⟩, long, back⟩ := t
    dsimp only at *
    go_loopw [6, 40] (fun y z wr => ∃ k : Nat, k ≤ back.length ∧ z = .int .i64 k ∧ Hid (StRow wr wc.heap.size y (((⟨fp, fy⟩ : St) :: back.take k).map trn)) ∧ Boxed wr w.heap.size [.slice x n.pieces.length ca, .slice c n.joints.length cc]
        ∧ Boxed wr (w.heap.size + 1) [.int .i64 fp, .int .i64 fa, .int .i64 fy, .int .i64 long, .slice ba back.length bc] ∧ Boxed wr (w.heap.size + 1 + 1) [.int .i64 0, .int .i64 0, .int .i64 0, .int .i64 0, .slice none 0 0]
        ∧ Boxed wr O [.int .i64 tp, .int .i64 ta, .int .i64 ty, .int .i64 long, .slice none 0 0] ∧ wc.heap.size ≤ wr.heap.size ∧ Below w.heap.size w wr) (fun _ z _ => back.length - (intOf z).toNat)
    case atStart => exact ⟨0, Nat.zero_le _, rfl, hide hrowA, hN2.alloc _, hT2.alloc _, hR2.alloc _, hB2.alloc _, by simp [World.setCell], hb2w.alloc hb2w.size _⟩
    case round =>
      clear t0 t2 t4
      obtain ⟨k, hk, rfl, HROW, hN, hT, hR, hOb, hwcr, hb⟩ := hrel
      have nn := hN.1
      have nt := hT.1
      have nr := hR.1
      have no := hOb.1
      have hszr := hb.size
      by_cases hlt : k < back.length
      · obtain ⟨sb, soff, rfl, hsb, s0w, s1w⟩ := hst k hlt
        have s0 := (hb.cell hsb.2).trans s0w
        have s1 := (hb.cell hsb.2).trans s1w
        have hokk := backOk_steps (unhide HF).2.2.2 back[k] (List.getElem_mem hlt)
        have htk : ((⟨fp, fy⟩ : St) :: back.take (k + 1)).map trn = ((⟨fp, fy⟩ : St) :: back.take k).map trn ++ [trn back[k]] := by rw [List.take_succ_eq_append_getElem hlt, ← List.cons_append, List.map_append]; rfl
        have hll : (((⟨fp, fy⟩ : St) :: back.take k).map trn).length = k + 1 := by simp; omega
        obtain ⟨ps, hps⟩ : ∃ ps, ((⟨fp, fy⟩ : St) :: back.take k).map trn = ps := ⟨_, rfl⟩
        rw [hps] at HROW htk hll
        generalize hx : back[k] = sk at *
        obtain ⟨sp, sy⟩ := sk
        dsimp only at s0 s1 s0w s1w hokk
        have hsy := hokk.2
        dsimp only at hsy
        have hneg : IntKind.i64.wrap (-sy) = -sy := wrap_small (by omega) (by omega)
        have HTK := hide htk
        have hsb2 : sb < wr.heap.size := by omega
        have HLL := hide hll
        clear hx htk hps hokk hll s0w s1w
        go_wp2_with (at_builtin; refine wpList_append_own _ rfl (.tmp 44) (.tmp 51) 34 rfl wc.heap.size 84 i0 (.agg #[.int .i64 0, .int .i64 0]) 2 16 Tryz.underlying34 hi hz0 hz1 hz2 rfl (by decide) _ _ _ rfl ((unhide HROW).below (by repeat (first | with_reducible exact Below.refl _ _ | refine Below.setCell ?_ (by first | omega | (simp <;> omega) | (simp [World.setCell] <;> omega)) _ | refine Below.alloc ?_ (by first | omega | (simp <;> omega) | (simp [World.setCell] <;> omega)) _ | refine Below.drew ?_ | refine below_draws ?_ _ | exact Below.refl _ _))) _ 1 1 (stF ⟨sp, -sy⟩) rfl rfl ?c1 (st_one _) ?c3 ?c4 ?c5 ?_)
        case c1 => exact st_news (x := ⟨sp, -sy⟩) (boxedN _ _ _ (by simp))
        case c3 => have := unhide HLL; unfold maxLen; omega
        case c4 => have := unhide HLL; omega
        case c5 => first | omega | (simp; omega)
        intro v' w3 hown' hgrow _
        have hrow1 := (unhide HROW).below (show Below wr.heap.size wr (wr.alloc (.cells #[.int .i64 sp, .int .i64 sy] 84)) from (by repeat (first | with_reducible exact Below.refl _ _ | refine Below.setCell ?_ (by first | omega | (simp <;> omega) | (simp [World.setCell] <;> omega)) _ | refine Below.alloc ?_ (by first | omega | (simp <;> omega) | (simp [World.setCell] <;> omega)) _ | refine Below.drew ?_ | refine below_draws ?_ _ | exact Below.refl _ _)))
        have hbA : Below w.heap.size w (wr.alloc (.cells #[.int .i64 sp, .int .i64 sy] 84)) := (by repeat (first | with_reducible exact Below.refl _ _ | with_reducible exact hb | refine Below.setCell ?_ (by first | omega | (simp <;> omega) | (simp [World.setCell] <;> omega)) _ | refine Below.alloc ?_ (by first | omega | (simp <;> omega) | (simp [World.setCell] <;> omega)) _ | refine Below.drew ?_ | refine below_draws ?_ _ | exact hb | exact Below.refl _ _))
        have hrow3 : StRow w3 wc.heap.size v' (ps ++ [⟨sp, -sy⟩]) := Row.snoc hown'
        have hb3 : Below w.heap.size w w3 := row_below_grown hrow1 hbA hgrow (by omega) hbA.size
        have hN3 := row_boxed_grown hrow1 hgrow (by omega) (hN.alloc _)
        have hT3 := row_boxed_grown hrow1 hgrow (by omega) (hT.alloc _)
        have hR3 := row_boxed_grown hrow1 hgrow (by omega) (hR.alloc _)
        have hO3 := row_boxed_grown hrow1 hgrow (by omega) (hOb.alloc _)
        have HROW3 := hide hrow3
        have hgs := hgrow.size
        clear hrow3 hown' hgrow hrow1
        go_wp2
        refine ⟨⟨k + 1, by omega, by go_num, ?_, hN3, hT3, hR3, hO3, by have := hgs; simp at this; omega, hb3⟩, by simp [intOf]; omega⟩
        rw [unhide HTK]
        exact HROW3
      · have hkl : k = back.length := by omega
        have HALL : Hid (((⟨fp, fy⟩ : St) :: back.take k).map trn = ((⟨fp, fy⟩ : St) :: back).map trn) := by unfold Hid; rw [hkl]; simp
        have hrow := unhide HROW
        rw [unhide HALL] at hrow
        obtain ⟨aa, acap, rfl, hac, hall⟩ := stRow_at hrow
        have a0 := hN.2.1 0 _ rfl
        have a1 := hN.2.1 1 _ rfl
        have o0 := hOb.2.1 0 _ rfl
        have o1 := hOb.2.1 1 _ rfl
        have o2 := hOb.2.1 2 _ rfl
        have hlen := hG.len htail.1.1.1 htail.1.1.2
        have hbeh := spot_behind hG htail.1
        clear hkl HROW
        go_wp2_with fail
        refine (l2behind_any _ n ⟨tp, ta, ty⟩ _ (hvv.below hb) htail.1 hlen.2).mono ?_
        rintro e w4 ⟨rfl, hb4⟩
        have hN4 := hN.below hb4
        have hT4 := hT.below hb4
        have hR4 := hR.below hb4
        have hO4 := hOb.below hb4
        have hall4 := hall.below hb4
        have hbw4 := below_then hb hb4
        have sz4 := hb4.size
        have hOw4 := hO4.1
        obtain ⟨beh, hbe⟩ : ∃ beh, behind n ⟨tp, ta, ty⟩ = beh := ⟨_, rfl⟩
        rw [hbe] at hbeh ⊢
        have HTB : Hid (takeLen n long beh (turnList ⟨⟨fp, fa, fy⟩, long, back⟩) = turnBack n ⟨⟨fp, fa, fy⟩, long, back⟩) := by
          unfold Hid turnBack
          rw [unhide HTT, hbe]
        have HTL := hide (turnList_all ⟨⟨fp, fa, fy⟩, long, back⟩)
        have HTO := hide (turnList_ok (n := n) (unhide HF))
        have htl := turnList_len ⟨⟨fp, fa, fy⟩, long, back⟩
        dsimp only at htl
        obtain ⟨tl, htle⟩ : ∃ tl, turnList ⟨⟨fp, fa, fy⟩, long, back⟩ = tl := ⟨_, rfl⟩
        rw [htle] at HTB HTL HTO htl
        clear hbe htle a0 a1 o0 o1 o2 hrow
        have hsub : ((back.length + 1 : Nat) : Int) - 2 = (back.length : Int) - 1 := by omega
        go_wp2_with fail
        go_loopw [9, 10] (fun y z wx => ∃ (k : Nat) (h : Int) (u : Value), k ≤ back.length ∧ y = .int .i64 h ∧ z = .int .i64 ((back.length : Int) - 1 - k) ∧ (0 ≤ h ∧ h ≤ 10000000 + 10000000 * (k : Int)) ∧ Hid (tl.take k ++ takeLen n long h (tl.drop k) = turnBack n ⟨⟨fp, fa, fy⟩, long, back⟩)
            ∧ Hid (StRow wx w4.heap.size u (tl.take k)) ∧ Boxed wx O [.int .i64 tp, .int .i64 ta, .int .i64 ty, .int .i64 long, u] ∧ Only (fun j => j = O) w4 wx) (fun _ z _ => (intOf z + 1).toNat)
        case atStart => exact ⟨0, beh, .slice none 0 0, Nat.zero_le _, rfl, by first | rfl | (simp; omega), by omega, hide (by simpa using unhide HTB), hide (Row.nil _ _ _ _ _), hO4, only_refl _ _⟩
        case round =>
          obtain ⟨k, h, u, hk2, rfl, rfl, hh, HPS, HROW2, hOx, ho⟩ := hrel
          have hNx := hN4.only ho hNO
          have hTx := hT4.only ho hTO
          have hRx := hR4.only ho hRO
          have hbx : Below w.heap.size w wr := hbw4.trans (ho.below hbw4.size (fun j hj => by omega))
          have nnx := hNx.1
          have ntx := hTx.1
          have nrx := hRx.1
          have nox := hOx.1
          have hszx := ho.size
          have t3 := hTx.2.1 3 _ rfl
          by_cases hlt2 : k < back.length
          · obtain ⟨iN, hiN⟩ : ∃ iN : Nat, (back.length : Int) - 1 - k = iN := ⟨back.length - 1 - k, by omega⟩
            have hiN2 : iN = back.length - 1 - k := by omega
            rw [hiN]
            have hin0 : (0 : Int) ≤ iN := by omega
            by_cases hge : long ≤ h
            · have hrowF : StRow wr w4.heap.size u (turnBack n ⟨⟨fp, fa, fy⟩, long, back⟩) := by
                have := unhide HROW2
                rw [← unhide HPS, takeLen_out (by omega)]
                simpa using this
              clear t3 hiN hiN2
              obtain ⟨ua, ucap, rfl, huc, _⟩ := stRow_at hrowF
              have HR9 := hide hrowF
              have HLT9 := hide hrowF.lt
              clear hrowF HROW2
              have o0 := hOx.2.1 0 _ rfl
              have o1 := hOx.2.1 1 _ rfl
              have o2 := hOx.2.1 2 _ rfl
              have o3 := hOx.2.1 3 _ rfl
              have o4 := hOx.2.1 4 _ rfl
              have t3 := hTx.2.1 3 _ rfl
              have r0 := hRx.2.1 0 _ rfl
              have r1 := hRx.2.1 1 _ rfl
              have r2 := hRx.2.1 2 _ rfl
              have r3 := hRx.2.1 3 _ rfl
              have r4 := hRx.2.1 4 _ rfl
              have rz := hRx.2.2
              go_wp2
              refine bodyPost_ret (v := .agg #[.int .i64 tp, .int .i64 ta, .int .i64 ty, .int .i64 long, .slice ua (turnBack n ⟨⟨fp, fa, fy⟩, long, back⟩).length ucap]) (by simp [results, Tryz.results8, go_sem, r0, r1, r2, r3, r4]) rfl ⟨⟨turnOf n ⟨⟨fp, fa, fy⟩, long, back⟩, ua, ucap, Or.inl ⟨unhide HR, rfl⟩, by unfold turnOf; rw [unhide HTT], ?_⟩, ((((hbx.setCell (p := ⟨w.heap.size + 1 + 1, 0, none⟩) (by show w.heap.size ≤ w.heap.size + 1 + 1; omega) _).setCell (p := ⟨w.heap.size + 1 + 1, 1, none⟩) (by show w.heap.size ≤ w.heap.size + 1 + 1; omega) _).setCell (p := ⟨w.heap.size + 1 + 1, 2, none⟩) (by show w.heap.size ≤ w.heap.size + 1 + 1; omega) _).setCell (p := ⟨w.heap.size + 1 + 1, 3, none⟩) (by show w.heap.size ≤ w.heap.size + 1 + 1; omega) _).setCell (p := ⟨w.heap.size + 1 + 1, 4, none⟩) (by show w.heap.size ≤ w.heap.size + 1 + 1; omega) _⟩
              refine ((unhide HR9).mono (show w.heap.size ≤ w4.heap.size by omega)).block fun j hj => ?_
              have hj2 := (unhide HLT9 j hj).1
              have hne : j ≠ w.heap.size + 1 + 1 := by omega
              rw [Below.heap_setCell _ _ _ j (by simpa using hne), Below.heap_setCell _ _ _ j (by simpa using hne), Below.heap_setCell _ _ _ j (by simpa using hne), Below.heap_setCell _ _ _ j (by simpa using hne), Below.heap_setCell _ _ _ j (by simpa using hne)]
            · have hlo : h < long := by omega
              have htk : tl.take (k + 1) = tl.take k ++ [tl[k]] := List.take_succ_eq_append_getElem (by omega)
              have hdk : tl.drop k = tl[k] :: tl.drop (k + 1) := List.drop_eq_getElem_cons (by omega)
              have hok := unhide HTO tl[k] (List.getElem_mem (by omega))
              have hel := unhide HTL k hlt2 tl[k] (List.getElem?_eq_getElem (by omega))
              try dsimp only at hel
              rw [← hiN2] at hel
              have hlT : (tl.take k).length = k := by rw [List.length_take]; omega
              generalize tl[k] = xk at *
              obtain ⟨sp, sy⟩ := xk
              have hsp := hok.1
              have hlss := hG.len hok.1.1 hok.1.2
              dsimp only at hsp hlss
              have HSTEP : Hid (tl.take (k + 1) ++ takeLen n long (h + lenOf n sp) (tl.drop (k + 1)) = turnBack n ⟨⟨fp, fa, fy⟩, long, back⟩) := by
                unfold Hid
                rw [← unhide HPS, htk, hdk, takeLen_in hlo, List.append_assoc]
                rfl
              have HTK := hide htk
              obtain ⟨spn, rfl⟩ := Int.eq_ofNat_of_zero_le hsp.1
              obtain ⟨ab, aoff, hae, hab, e0w, e1w⟩ := hall4 iN (by simp; omega)
              have hbA := ho.block ab hab.2 (by omega)
              have e0 := (World.cell?_of_block (w := w4) (a := ⟨ab, _, none⟩) hbA).trans e0w
              have e1 := (World.cell?_of_block (w := w4) (a := ⟨ab, _, none⟩) hbA).trans e1w
              have hel2 : (((⟨fp, fy⟩ : St) :: back).map trn)[iN]'(by simp; omega) = ⟨spn, sy⟩ := (List.getElem?_eq_some_iff.1 hel).2
              rw [hel2] at e0 e1
              obtain ⟨pb, poff, hpe, hpb, c1w⟩ := hp.len hsp.1 hsp.2
              simp only [Int.toNat_natCast] at c1w
              obtain ⟨pre, hpre⟩ : ∃ pre, tl.take k = pre := ⟨_, rfl⟩
              rw [hpre] at HROW2 HTK hlT
              have HLT := hide hlT
              subst hae hpe
              have hilt : (iN : Int) < (back.length : Int) + 1 := by omega
              have hab2 : ab < wr.heap.size := by omega
              have nAO : ¬ ab = O := by omega
              have nOA : ¬ O = ab := by omega
              rw [hel2] at e0w
              have HE0 := hide e0w
              have HIN := hide hiN
              clear e0w e1w hel hel2 htk hdk hpre hlT hok hiN hiN2
              have o4 := hOx.2.1 4 _ rfl
              have oz := hOx.2.2
              have hneO : some O ≠ u.ownBlock := fun hc => by have := ((unhide HROW2).lt _ hc.symm).1; omega
              have hneA : some ab ≠ u.ownBlock := fun hc => by have := ((unhide HROW2).lt _ hc.symm).1; omega
              go_wp2_with fail
              go_region_law (first
                | (refine step_append_lies _ rfl (.tmp 72) (.tmp 77) 34 rfl w4.heap.size 84 i0 (.agg #[.int .i64 0, .int .i64 0]) 2 16 Tryz.underlying34 hi hz0 hz1 hz2 rfl (by decide) u pre.length (pre.flatMap stF) (by simp [Act.eval]) ((unhide HROW2).below (by repeat (first | with_reducible exact Below.refl _ _ | refine Below.setCell ?_ (by first | omega | (simp <;> omega) | (simp [World.setCell] <;> omega)) _ | refine Below.alloc ?_ (by first | omega | (simp <;> omega) | (simp [World.setCell] <;> omega)) _ | refine Below.drew ?_ | refine below_draws ?_ _ | exact Below.refl _ _))) _ 1 1 (stF ⟨spn, sy⟩) (by simp [Act.eval]) rfl (st_news (x := ⟨spn, sy⟩) (boxed_alloc _ _ _)) (st_one _) (by omega) (by have := unhide HLT; unfold maxLen; omega) (by have := unhide HLT; omega) (by first | omega | (simp; omega)) _ rfl ?_; intro g cap w5 hown2 hgrow hat hlt5; have hO5 := boxed_grown hgrow (hOx.below (by repeat (first | with_reducible exact Below.refl _ _ | refine Below.setCell ?_ (by first | omega | (simp <;> omega) | (simp [World.setCell] <;> omega)) _ | refine Below.alloc ?_ (by first | omega | (simp <;> omega) | (simp [World.setCell] <;> omega)) _ | refine Below.drew ?_ | refine below_draws ?_ _ | exact Below.refl _ _))) hneO; have z4 := hO5.2.1 4 _ rfl; have zz := hO5.2.2; have zl := hO5.1))
              all_goals have hb5 : Below w4.heap.size wr w5 := Below.grown (Below.mono (by repeat (first | with_reducible exact Below.refl _ _ | refine Below.setCell ?_ (by first | omega | (simp <;> omega) | (simp [World.setCell] <;> omega)) _ | refine Below.alloc ?_ (by first | omega | (simp <;> omega) | (simp [World.setCell] <;> omega)) _ | refine Below.drew ?_ | refine below_draws ?_ _ | exact Below.refl _ _)) hszx) hgrow (by first | omega | (simp; omega)) (fun j hj => ((unhide HROW2).lt j hj).1)
              all_goals have hO6 := hO5.setAt (i := 4) (by simp) (.slice (some ⟨g, 0, none⟩) (pre.length + 1) cap)
              all_goals have ho6 : Only (fun j => j = O) w4 (w5.setCell ⟨O, 4, none⟩ (.slice (some ⟨g, 0, none⟩) (pre.length + 1) cap)) := (ho.on hb5).trans (only_setCell (S := fun j => j = O) _ (p := ⟨O, 4, none⟩) rfl _)
              all_goals have hrow5 : StRow w5 w4.heap.size (.slice (some ⟨g, 0, none⟩) (pre.length + 1) cap) (pre ++ [⟨spn, sy⟩]) := Row.snoc hown2
              all_goals have HROW6 := hide (hrow5.setCell (p := ⟨O, 4, none⟩) hOw4 (.slice (some ⟨g, 0, none⟩) (pre.length + 1) cap))
              all_goals clear hrow5 hown2 hgrow hat z4 zz e0 e1 o4 oz t3
              all_goals have hbA6 := ho6.block ab hab.2 (show ¬ ab = O from nAO)
              all_goals generalize hw6 : w5.setCell ⟨O, 4, none⟩ (.slice (some ⟨g, 0, none⟩) (pre.length + 1) cap) = w6 at *
              all_goals have e0 := (World.cell?_of_block (w := w4) (a := ⟨ab, _, none⟩) hbA6).trans (unhide HE0)
              all_goals have a0 := (hN4.only ho6 hNO).2.1 0 _ rfl
              all_goals have hb6 : Below w.heap.size w w6 := hbw4.trans (ho6.below hbw4.size (fun j hj => by omega))
              all_goals have p1 := (hb6.cell hpb).trans c1w
              all_goals have hsz6 := ho6.size
              all_goals have hab6 : ab < w6.heap.size := by omega
              all_goals have hpb6 : pb < w6.heap.size := by have := hb6.size; omega
              all_goals have nn6 : w.heap.size < w6.heap.size := by omega
              all_goals clear hw6 hbA6
              all_goals go_wp2_with fail
              all_goals go_quiet (fail)
              all_goals go_wp2
              all_goals have hD : Below w6.heap.size w6 (w6.drewN nq) := below_draws (Below.refl _ _) nq
              all_goals refine ⟨⟨k + 1, h + lenOf n spn, .slice (some ⟨g, 0, none⟩) (pre.length + 1) cap, by omega, rfl, ?_, ⟨by omega, by omega⟩, HSTEP, ?_, hO6.below hD, ho6.on (hD.mono hsz6)⟩, ?_⟩
              all_goals first
                | (rw [unhide HTK]; exact hide ((unhide HROW6).below hD))
                | (show (((iN : Int) - 1) + 1).toNat < ((iN : Int) + 1).toNat; omega)
                | (have hi9 := unhide HIN; exact congrArg (Value.int IntKind.i64) (by omega))
          · have hkl : k = back.length := by omega
            have hrowF : StRow wr w4.heap.size u (turnBack n ⟨⟨fp, fa, fy⟩, long, back⟩) := by
              have := unhide HROW2
              rw [← unhide HPS, List.drop_of_length_le (by omega), takeLen_nil]
              simpa using this
            have hneg1 : (back.length : Int) - 1 - k = -1 := by omega
            rw [hneg1]
            clear t3 hkl hneg1
            obtain ⟨ua, ucap, rfl, huc, _⟩ := stRow_at hrowF
            have HR9 := hide hrowF
            have HLT9 := hide hrowF.lt
            clear hrowF HROW2
            have o0 := hOx.2.1 0 _ rfl
            have o1 := hOx.2.1 1 _ rfl
            have o2 := hOx.2.1 2 _ rfl
            have o3 := hOx.2.1 3 _ rfl
            have o4 := hOx.2.1 4 _ rfl
            have t3 := hTx.2.1 3 _ rfl
            have r0 := hRx.2.1 0 _ rfl
            have r1 := hRx.2.1 1 _ rfl
            have r2 := hRx.2.1 2 _ rfl
            have r3 := hRx.2.1 3 _ rfl
            have r4 := hRx.2.1 4 _ rfl
            have rz := hRx.2.2
            go_wp2
            refine bodyPost_ret (v := .agg #[.int .i64 tp, .int .i64 ta, .int .i64 ty, .int .i64 long, .slice ua (turnBack n ⟨⟨fp, fa, fy⟩, long, back⟩).length ucap]) (by simp [results, Tryz.results8, go_sem, r0, r1, r2, r3, r4]) rfl ⟨⟨turnOf n ⟨⟨fp, fa, fy⟩, long, back⟩, ua, ucap, Or.inl ⟨unhide HR, rfl⟩, by unfold turnOf; rw [unhide HTT], ?_⟩, ((((hbx.setCell (p := ⟨w.heap.size + 1 + 1, 0, none⟩) (by show w.heap.size ≤ w.heap.size + 1 + 1; omega) _).setCell (p := ⟨w.heap.size + 1 + 1, 1, none⟩) (by show w.heap.size ≤ w.heap.size + 1 + 1; omega) _).setCell (p := ⟨w.heap.size + 1 + 1, 2, none⟩) (by show w.heap.size ≤ w.heap.size + 1 + 1; omega) _).setCell (p := ⟨w.heap.size + 1 + 1, 3, none⟩) (by show w.heap.size ≤ w.heap.size + 1 + 1; omega) _).setCell (p := ⟨w.heap.size + 1 + 1, 4, none⟩) (by show w.heap.size ≤ w.heap.size + 1 + 1; omega) _⟩
            refine ((unhide HR9).mono (show w.heap.size ≤ w4.heap.size by omega)).block fun j hj => ?_
            have hj2 := (unhide HLT9 j hj).1
            have hne : j ≠ w.heap.size + 1 + 1 := by omega
            rw [Below.heap_setCell _ _ _ j (by simpa using hne), Below.heap_setCell _ _ _ j (by simpa using hne), Below.heap_setCell _ _ _ j (by simpa using hne), Below.heap_setCell _ _ _ j (by simpa using hne), Below.heap_setCell _ _ _ j (by simpa using hne)]

end Go.Proofs.YtbdggfpfpjijoabGreat

