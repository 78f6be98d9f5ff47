import Derived.Test.YtcmakcnkiekalabSpec7
namespace Go.Proofs.Ytcmakcnkiekalab
open Go.RowKit

theorem Boxed.other {w : World} {N : Nat} {vs : List Value} (h : Boxed w N vs) {p : Addr} (hp : N ≠ p.block) (v : Value) : Boxed (w.setCell p v) N vs := by
  have hk := Below.heap_setCell w p v N hp
  exact ⟨by simpa [World.setCell] using h.1, fun i x hi => (World.cell?_of_block (w := w) (a := ⟨N, i, none⟩) hk).trans (h.2.1 i x hi), fun i => (World.frozen?_of_block (w := w) (a := ⟨N, i, none⟩) hk).trans (h.2.2 i)⟩
theorem Boxed.set2 {w : World} {N : Nat} {a b : Value} (h : Boxed w N [a, b]) (x y : Value) : Boxed ((w.setCell ⟨N, 0, none⟩ x).setCell ⟨N, 1, none⟩ y) N [x, y] := by
  have h0 := h.2.1 0 _ rfl
  have h1 := h.2.1 1 _ rfl
  have g1 : (w.setCell ⟨N, 0, none⟩ x).cell? ⟨N, 1, none⟩ = some b := by rw [World.cell?_setCell_other _ _ _ _ (by simp)]; exact h1
  refine ⟨by simpa [World.setCell] using h.1, fun i v hi => ?_, fun i => by simpa using h.2.2 i⟩
  match i, hi with
  | 0, hi =>
    rw [World.cell?_setCell_other _ _ _ _ (by simp), World.cell?_setCell_same _ _ _ h0]
    simpa using hi
  | 1, hi =>
    rw [World.cell?_setCell_same _ _ _ g1]
    simpa using hi

set_option maxRecDepth 100000 in
set_option maxHeartbeats 4000000 in
theorem l2train_any (v tv : Value) (n : Nt) (t : Tr) (w : World) {L L' : Nat} (hv : NetAt L w v n) (htv : TrAt L' w tv t) (hG : NetGood n) (hbl : t.back.length ≤ 1048576) :
    Calls Try.prog 59 #[v, tv] w fun e w' => RetB (TrainFits n t) e ∧ Below w.heap.size w w' := by
  have hvv := hv
  obtain ⟨x, c, ca, cc, rfl, hp, hj⟩ := hv
  obtain ⟨ba, bc, rfl, hst⟩ := htv
  obtain ⟨⟨fp, fa, fy⟩, long, back⟩ := t
  dsimp only at hst hbl ⊢
  have hnp := hG.np
  go_enter Try.func59, Try.ntmps59
  go_wp2_with fail
  refine (l2spot_any _ n ⟨fp, fa, fy⟩ _ (hvv.below (by repeat (first | with_reducible exact Below.refl _ _ | refine Below.setCell ?_ (by first | omega | (simp <;> omega) | (simp [World.setCell] <;> omega)) _ | refine Below.alloc ?_ (by first | omega | (simp <;> omega) | (simp [World.setCell] <;> omega)) _ | refine Below.drew ?_ | refine below_draws ?_ _ | exact Below.refl _ _))) (by omega)).mono ?_
  rintro e w1 ⟨⟨rfl, hr1⟩ | ⟨rfl, hr1⟩, hb1⟩
  rotate_left
  · have hbw : Below w.heap.size w w1 := below_then (by repeat (first | with_reducible exact Below.refl _ _ | refine Below.setCell ?_ (by first | omega | (simp <;> omega) | (simp [World.setCell] <;> omega)) _ | refine Below.alloc ?_ (by first | omega | (simp <;> omega) | (simp [World.setCell] <;> omega)) _ | refine Below.drew ?_ | refine below_draws ?_ _ | exact Below.refl _ _)) hb1
    go_wp2
    go_ret
    exact ⟨retB_false fun h => hr1 h.1, hbw⟩
  have hbw1 : Below w.heap.size w w1 := below_then (by repeat (first | with_reducible exact Below.refl _ _ | refine Below.setCell ?_ (by first | omega | (simp <;> omega) | (simp [World.setCell] <;> omega)) _ | refine Below.alloc ?_ (by first | omega | (simp <;> omega) | (simp [World.setCell] <;> omega)) _ | refine Below.drew ?_ | refine below_draws ?_ _ | exact Below.refl _ _)) hb1
  have hBn1 : Boxed w1 w.heap.size [.slice x n.pieces.length ca, .slice c n.joints.length cc] := ((boxed_alloc w #[.slice x n.pieces.length ca, .slice c n.joints.length cc] 38).below (by repeat (first | with_reducible exact Below.refl _ _ | refine Below.setCell ?_ (by first | omega | (simp <;> omega) | (simp [World.setCell] <;> omega)) _ | refine Below.alloc ?_ (by first | omega | (simp <;> omega) | (simp [World.setCell] <;> omega)) _ | refine Below.drew ?_ | refine below_draws ?_ _ | exact Below.refl _ _))).below hb1
  have hBt1 : Boxed w1 (w.heap.size + 1) [.int .i64 fp, .int .i64 fa, .int .i64 fy, .int .i64 long, .slice ba back.length bc] := (boxedN _ #[.int .i64 fp, .int .i64 fa, .int .i64 fy, .int .i64 long, .slice ba back.length bc] 42 (N := w.heap.size + 1) (by simp)).below hb1
  have a0 := hBn1.2.1 0 _ rfl
  have a1 := hBn1.2.1 1 _ rfl
  have b0 := hBt1.2.1 0 _ rfl
  have b1 := hBt1.2.1 1 _ rfl
  have b2 := hBt1.2.1 2 _ rfl
  have b3 := hBt1.2.1 3 _ rfl
  have b4 := hBt1.2.1 4 _ rfl
  go_wp2_with fail
  refine (l1in_any _ _ _ _).mono ?_
  rintro e w1' ⟨⟨rfl, hr2⟩ | ⟨rfl, hr2⟩, rfl⟩
  rotate_left
  · go_wp2
    go_ret
    exact ⟨retB_false fun h => hr2 h.2.1, hbw1⟩
  by_cases h200 : 200 < (back.length : Int)
  · go_wp2
    go_ret
    exact ⟨retB_false fun h => by have := h.2.2.1; dsimp only at this; omega, hbw1⟩
  have h200b : decide (200 < (back.length : Int)) = false := by simpa using h200
  have hlen := hG.len hr1.1.1 hr1.1.2
  dsimp only at hlen
  go_wp2_with fail
  refine (l2behind_any _ n ⟨fp, fa, fy⟩ _ (hvv.below hbw1) hr1 hlen.2).mono ?_
  rintro e w3 ⟨rfl, hb3⟩
  have hbw3 := below_then hbw1 hb3
  have hBn3 := hBn1.below hb3
  have hBt3 := hBt1.below hb3
  clear a0 a1 b0 b1 b2 b3 b4
  have b0 := hBt3.2.1 0 _ rfl
  have b2 := hBt3.2.1 2 _ rfl
  have b4 := hBt3.2.1 4 _ rfl
  have n1 := hBn3.1
  have n2 := hBt3.1
  have hbeh : 0 ≤ behind n ⟨fp, fa, fy⟩ ∧ behind n ⟨fp, fa, fy⟩ ≤ 10000000 := by
    have h3 := hr1.2.2
    dsimp only at h3
    unfold behind room
    split <;> dsimp only <;> omega
  go_wp2_with fail
  go_loopw [5, 40] (fun y z wr => ∃ (k : Nat) (hv' : Int) (ah : St), k ≤ back.length ∧ z = .int .i64 k ∧ y = .int .i64 hv' ∧ (0 ≤ hv' ∧ hv' ≤ 10000000 + k * 10000000) ∧ StepOk n ah
      ∧ (BackOk n long (behind n ⟨fp, fa, fy⟩) ⟨fp, fy⟩ back ↔ BackOk n long hv' ah (back.drop k))
      ∧ Boxed wr w.heap.size [.slice x n.pieces.length ca, .slice c n.joints.length cc] ∧ Boxed wr (w.heap.size + 1) [.int .i64 fp, .int .i64 fa, .int .i64 fy, .int .i64 long, .slice ba back.length bc]
      ∧ Boxed wr w3.heap.size [.int .i64 ah.piece, .int .i64 ah.way] ∧ Below w.heap.size w wr) (fun _ z _ => back.length - (intOf z).toNat)
  case atStart => exact ⟨0, _, ⟨fp, fy⟩, Nat.zero_le _, rfl, rfl, by omega, ⟨hr1.1, hr1.2.1⟩, by simp, hBn3.below (by repeat (first | with_reducible exact Below.refl _ _ | refine Below.setCell ?_ (by first | omega | (simp <;> omega) | (simp [World.setCell] <;> omega)) _ | refine Below.alloc ?_ (by first | omega | (simp <;> omega) | (simp [World.setCell] <;> omega)) _ | refine Below.drew ?_ | refine below_draws ?_ _ | exact Below.refl _ _)), hBt3.below (by repeat (first | with_reducible exact Below.refl _ _ | refine Below.setCell ?_ (by first | omega | (simp <;> omega) | (simp [World.setCell] <;> omega)) _ | refine Below.alloc ?_ (by first | omega | (simp <;> omega) | (simp [World.setCell] <;> omega)) _ | refine Below.drew ?_ | refine below_draws ?_ _ | exact Below.refl _ _)), boxed_alloc _ _ _, (by repeat (first | with_reducible exact Below.refl _ _ | with_reducible exact hbw3 | refine Below.setCell ?_ (by first | omega | (simp <;> omega) | (simp [World.setCell] <;> omega)) _ | refine Below.alloc ?_ (by first | omega | (simp <;> omega) | (simp [World.setCell] <;> omega)) _ | refine Below.drew ?_ | refine below_draws ?_ _ | exact hbw3 | exact Below.refl _ _))⟩
  case round =>
    have m1 := n1
    have m2 := n2
    clear b0 b2 b4 n1 n2 hBn3 hBt3 hBn1 hBt1 hb1 hb3 hbw1
    obtain ⟨k, hv', ah, hk, rfl, rfl, hvb, hah, hiff, hBn, hBt, hBa, hb⟩ := hrel
    have HI := hide hiff
    have HAH := hide hah
    clear hiff hah
    have a0 := hBn.2.1 0 _ rfl
    have a1 := hBn.2.1 1 _ rfl
    have b3 := hBt.2.1 3 _ rfl
    have d0 := hBa.2.1 0 _ rfl
    have d1 := hBa.2.1 1 _ rfl
    have z0 := hBa.2.2
    have n1 := hBn.1
    have n2 := hBt.1
    have n3 := hBa.1
    have hsz := hb.size
    have hsz3 := hbw3.size
    by_cases hlt : k < back.length
    · obtain ⟨sb, soff, rfl, hsb, s0, s1⟩ := hst.below hb k hlt
      have hdrop : back.drop k = back[k] :: back.drop (k + 1) := List.drop_eq_getElem_cons hlt
      generalize hx : back[k] = sk at *
      obtain ⟨sp, sy⟩ := sk
      dsimp only at s0 s1
      have HD := hide hdrop
      clear hdrop hx
      have hno : ¬ (StepOk n ⟨sp, sy⟩ ∧ hv' < long ∧ Joined n ⟨sp, sy⟩ ah) → ¬ TrainFits n ⟨⟨fp, fa, fy⟩, long, back⟩ := fun h1 h2 => by
        have h3 := (unhide HI).1 h2.2.2.2
        rw [unhide HD] at h3
        exact h1 ⟨h3.1, h3.2.1, h3.2.2.1⟩
      have HNO := hide hno
      clear hno
      have hbA : Below wr.heap.size wr (wr.alloc (.cells #[.int .i64 sp, .int .i64 sy] 93)) := (by repeat (first | with_reducible exact Below.refl _ _ | refine Below.setCell ?_ (by first | omega | (simp <;> omega) | (simp [World.setCell] <;> omega)) _ | refine Below.alloc ?_ (by first | omega | (simp <;> omega) | (simp [World.setCell] <;> omega)) _ | refine Below.drew ?_ | refine below_draws ?_ _ | exact Below.refl _ _))
      go_wp2_with fail
      refine (l1in_any _ _ _ _).mono ?_
      rintro e wx ⟨⟨rfl, hr3⟩ | ⟨rfl, hr3⟩, rfl⟩
      rotate_left
      · go_wp2
        go_ret
        exact ⟨retB_false (unhide HNO fun h => hr3 ⟨h.1.1.1, by have := h.1.1.2; dsimp only at this; omega⟩), below_then hb hbA⟩
      by_cases hy : sy = 1 ∨ sy = -1
      rotate_left
      · have y1 : (sy != 1) = true := by rw [bne_iff_ne]; omega
        have y2 : (sy != -1) = true := by rw [bne_iff_ne]; omega
        have HY := hide hy
        clear hy
        go_wp2
        go_ret
        exact ⟨retB_false (unhide HNO fun h => unhide HY h.1.2), below_then hb hbA⟩
      have hstep : StepOk n ⟨sp, sy⟩ := ⟨⟨hr3.1, by have := hr3.2; dsimp only; omega⟩, hy⟩
      by_cases hge : long ≤ hv'
      · rcases hy with rfl | rfl
        all_goals
          go_wp2
          go_ret
          exact ⟨retB_false (unhide HNO fun h => by have := h.2.1; omega), below_then hb hbA⟩
      have HS := hide hstep
      have hge' : hv' < long := by omega
      clear hge hstep
      obtain ⟨spn, rfl⟩ := Int.eq_ofNat_of_zero_le hr3.1
      obtain ⟨pb, poff, rfl, hpb, c1⟩ := hp.len hr3.1 (show (spn : Int) < n.pieces.length by have := hr3.2; omega)
      have hls := hG.len hr3.1 (show (spn : Int) < n.pieces.length by have := hr3.2; omega)
      have hspl : (spn : Int) < (n.pieces.length : Int) := by have := hr3.2; omega
      simp only [Int.toNat_natCast] at c1
      rcases hy with rfl | rfl
      · go_wp2_with fail
        refine (l2joined_any _ n ⟨spn, 1⟩ ah _ (hvv.below (below_then hb hbA)) hG (unhide HS) (unhide HAH)).mono ?_
        rintro e w5 ⟨⟨rfl, hr4⟩ | ⟨rfl, hr4⟩, hb5⟩
        rotate_left
        · go_wp2
          go_ret
          exact ⟨retB_false (unhide HNO fun h => hr4 h.2.2), below_then hb (below_then hbA hb5)⟩
        have hb5' := below_then hbA hb5
        have hbw5 := below_then hb hb5'
        have hBn5 := hBn.below hb5'
        have hBt5 := hBt.below hb5'
        have hBa5 := hBa.below hb5'
        have hBs5 : Boxed w5 wr.heap.size [.int .i64 spn, .int .i64 1] := (boxed_alloc wr #[.int .i64 spn, .int .i64 1] 93).below hb5
        have u0 := hBn5.2.1 0 _ rfl
        have u2 := hBs5.2.1 0 _ rfl
        have u3 := hBs5.2.1 1 _ rfl
        have u4 := hBa5.2.1 0 _ rfl
        have u5 := hBa5.2.1 1 _ rfl
        have u6 := hBa5.2.2
        have c1' : w5.cell? ⟨pb, poff + spn * 4 + 1, none⟩ = some (.int .i64 (lenOf n spn)) := by rw [hbw5.cell hpb]; exact c1
        have HR4 := hide hr4
        clear hr4
        go_wp2
        refine ⟨⟨k + 1, hv' + lenOf n spn, ⟨spn, 1⟩, by omega, by go_num, rfl, ⟨by omega, by omega⟩, unhide HS, ?_, (hBn5.other (by simp; omega) _).other (by simp; omega) _, (hBt5.other (by simp; omega) _).other (by simp; omega) _, hBa5.set2 _ _, Below.setCell (Below.setCell hbw5 (by simp; omega) _) (by simp; omega) _⟩, by simp [intOf]; omega⟩
        refine (unhide HI).trans ?_
        rw [unhide HD]
        exact ⟨fun h => h.2.2.2, fun h => ⟨unhide HS, hge', unhide HR4, h⟩⟩
      · go_wp2_with fail
        refine (l2joined_any _ n ⟨spn, (-1)⟩ ah _ (hvv.below (below_then hb hbA)) hG (unhide HS) (unhide HAH)).mono ?_
        rintro e w5 ⟨⟨rfl, hr4⟩ | ⟨rfl, hr4⟩, hb5⟩
        rotate_left
        · go_wp2
          go_ret
          exact ⟨retB_false (unhide HNO fun h => hr4 h.2.2), below_then hb (below_then hbA hb5)⟩
        have hb5' := below_then hbA hb5
        have hbw5 := below_then hb hb5'
        have hBn5 := hBn.below hb5'
        have hBt5 := hBt.below hb5'
        have hBa5 := hBa.below hb5'
        have hBs5 : Boxed w5 wr.heap.size [.int .i64 spn, .int .i64 (-1)] := (boxed_alloc wr #[.int .i64 spn, .int .i64 (-1)] 93).below hb5
        have u0 := hBn5.2.1 0 _ rfl
        have u2 := hBs5.2.1 0 _ rfl
        have u3 := hBs5.2.1 1 _ rfl
        have u4 := hBa5.2.1 0 _ rfl
        have u5 := hBa5.2.1 1 _ rfl
        have u6 := hBa5.2.2
        have c1' : w5.cell? ⟨pb, poff + spn * 4 + 1, none⟩ = some (.int .i64 (lenOf n spn)) := by rw [hbw5.cell hpb]; exact c1
        have HR4 := hide hr4
        clear hr4
        go_wp2
        refine ⟨⟨k + 1, hv' + lenOf n spn, ⟨spn, (-1)⟩, by omega, by go_num, rfl, ⟨by omega, by omega⟩, unhide HS, ?_, (hBn5.other (by simp; omega) _).other (by simp; omega) _, (hBt5.other (by simp; omega) _).other (by simp; omega) _, hBa5.set2 _ _, Below.setCell (Below.setCell hbw5 (by simp; omega) _) (by simp; omega) _⟩, by simp [intOf]; omega⟩
        refine (unhide HI).trans ?_
        rw [unhide HD]
        exact ⟨fun h => h.2.2.2, fun h => ⟨unhide HS, hge', unhide HR4, h⟩⟩
    · have hkl : k = back.length := by omega
      have hdrop : Hid (back.drop k = []) := by unfold Hid; rw [hkl]; simp
      go_wp2
      go_ret
      refine ⟨retB_of ?_, hb⟩
      have h1 := unhide HI
      rw [unhide hdrop] at h1
      simp only [decide_eq_true_eq]
      exact ⟨fun h => ⟨hr1, hr2, by dsimp only; omega, h1.2 h⟩, fun h => h1.1 h.2.2.2⟩

set_option maxHeartbeats 2000000 in
theorem specTrainOk_any (v tv : Value) (n : Nt) (t : Tr) (w : World) {L L' : Nat} (hv : NetAt L w v n) (htv : TrAt L' w tv t) (hl : n.pieces.length ≤ 1048576) (hl' : n.joints.length ≤ 1048576)
    (hle : ∀ i (h : i < n.joints.length), n.joints[i].ends.length ≤ 1048576 ∧ n.joints[i].name.size ≤ maxLen) (hnm : ∀ i (h : i < n.pieces.length), n.pieces[i].name.size ≤ maxLen) (hbl : t.back.length ≤ 1048576) :
    Calls Try.prog 47 #[v, tv] w fun e w' => RetB (TrainRight n t) e ∧ Below w.heap.size w w' := by
  have hvv := hv
  have htt := htv
  obtain ⟨x, c, ca, cc, rfl, hp, hj⟩ := hv
  obtain ⟨ba, bc, rfl, hst⟩ := htv
  go_enter Try.func47, Try.ntmps47
  go_wp2_with fail
  refine (l1ok_any _ n _ (hvv.below (by repeat (first | with_reducible exact Below.refl _ _ | refine Below.setCell ?_ (by first | omega | (simp <;> omega) | (simp [World.setCell] <;> omega)) _ | refine Below.alloc ?_ (by first | omega | (simp <;> omega) | (simp [World.setCell] <;> omega)) _ | refine Below.drew ?_ | refine below_draws ?_ _ | exact Below.refl _ _))) hl hl' hle hnm).mono ?_
  rintro e w1 ⟨⟨rfl, hr1⟩ | ⟨rfl, hr1⟩, hb1⟩
  · have hbw1 : Below w.heap.size w w1 := below_then (by repeat (first | with_reducible exact Below.refl _ _ | refine Below.setCell ?_ (by first | omega | (simp <;> omega) | (simp [World.setCell] <;> omega)) _ | refine Below.alloc ?_ (by first | omega | (simp <;> omega) | (simp [World.setCell] <;> omega)) _ | refine Below.drew ?_ | refine below_draws ?_ _ | exact Below.refl _ _)) hb1
    have hBn1 : Boxed w1 w.heap.size [.slice x n.pieces.length ca, .slice c n.joints.length cc] := ((boxed_alloc w #[.slice x n.pieces.length ca, .slice c n.joints.length cc] 38).below (by repeat (first | with_reducible exact Below.refl _ _ | refine Below.setCell ?_ (by first | omega | (simp <;> omega) | (simp [World.setCell] <;> omega)) _ | refine Below.alloc ?_ (by first | omega | (simp <;> omega) | (simp [World.setCell] <;> omega)) _ | refine Below.drew ?_ | refine below_draws ?_ _ | exact Below.refl _ _))).below hb1
    have hBt1 : Boxed w1 (w.heap.size + 1) [.int .i64 t.front.piece, .int .i64 t.front.at_, .int .i64 t.front.way, .int .i64 t.long, .slice ba t.back.length bc] := (boxedN _ #[.int .i64 t.front.piece, .int .i64 t.front.at_, .int .i64 t.front.way, .int .i64 t.long, .slice ba t.back.length bc] 42 (N := w.heap.size + 1) (by simp)).below hb1
    have a0 := hBn1.2.1 0 _ rfl
    have a1 := hBn1.2.1 1 _ rfl
    have b0 := hBt1.2.1 0 _ rfl
    have b1 := hBt1.2.1 1 _ rfl
    have b2 := hBt1.2.1 2 _ rfl
    have b3 := hBt1.2.1 3 _ rfl
    have b4 := hBt1.2.1 4 _ rfl
    have HR := hide hr1
    clear hr1
    go_wp2_with fail
    refine (l2train_any _ _ n t _ (hvv.below hbw1) (htt.below hbw1) (netGood (unhide HR)) hbl).mono ?_
    rintro e w2 ⟨⟨rfl, hr2⟩ | ⟨rfl, hr2⟩, hb2⟩
    · go_wp2
      go_ret
      exact ⟨retB_true ⟨unhide HR, hr2⟩, below_then hbw1 hb2⟩
    · go_wp2
      go_ret
      exact ⟨retB_false fun h => hr2 h.2, below_then hbw1 hb2⟩
  · have hbw1 : Below w.heap.size w w1 := below_then (by repeat (first | with_reducible exact Below.refl _ _ | refine Below.setCell ?_ (by first | omega | (simp <;> omega) | (simp [World.setCell] <;> omega)) _ | refine Below.alloc ?_ (by first | omega | (simp <;> omega) | (simp [World.setCell] <;> omega)) _ | refine Below.drew ?_ | refine below_draws ?_ _ | exact Below.refl _ _)) hb1
    have HR := hide hr1
    clear hr1
    go_wp2
    go_ret
    exact ⟨retB_false fun h => unhide HR h.1, hbw1⟩

end Go.Proofs.Ytcmakcnkiekalab
