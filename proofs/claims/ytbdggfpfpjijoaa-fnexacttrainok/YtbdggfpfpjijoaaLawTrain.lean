import Derived.Test.YtbdggfpfpjijoaaG1
import Derived.Test.YtbdggfpfpjijoaaEq
import Derived.Test.YtbdggfpfpjijoaaG13
import Derived.Test.YtbdggfpfpjijoaaG20
namespace Go.Proofs.Ytbdggfpfpjijoaa
open Go.RowKit

theorem specTrainOk_b (v tv : Value) (n : Nt) (t : Tr) (w : World) {L L' : Nat} (hv : NetAt L w v n) (htv : TrAt L' w tv t) (hl : n.pieces.length ≤ 1048576) (hl' : n.joints.length ≤ 1048576)
    (hle : ∀ i (h : i < n.joints.length), n.joints[i].ends.length ≤ 1048576 ∧ n.joints[i].name.size ≤ maxLen) (hnm : ∀ i (h : i < n.pieces.length), n.pieces[i].name.size ≤ maxLen) (hbl : t.back.length ≤ 1048576) :
    Calls Try.prog 24 #[v, tv] w fun e w' => ∃ sb : Bool, e = .returned (.bool sb) ∧ (sb = true ↔ TrainRight n t) ∧ Below w.heap.size w w' :=
  (specTrainOk_any v tv n t w hv htv hl hl' hle hnm hbl).mono fun e w' ⟨hs, hb⟩ => by
    rcases hs with ⟨rfl, h⟩ | ⟨rfl, h⟩
    · exact ⟨true, rfl, by simp [h], hb⟩
    · exact ⟨false, rfl, by simp [h], hb⟩

set_option maxRecDepth 100000 in
set_option maxHeartbeats 4000000 in
theorem lawTrainOk_any (v tv : Value) (n : Nt) (t : Tr) (w : World) {L L' : Nat} (hv : NetAt L w v n) (htv : TrAt L' w tv t) (hl : n.pieces.length ≤ maxLen) (hl' : n.joints.length ≤ maxLen)
    (hle : ∀ i (h : i < n.joints.length), n.joints[i].name.size ≤ maxLen ∧ n.joints[i].ends.length ≤ maxLen) (hnm : ∀ i (h : i < n.pieces.length), n.pieces[i].name.size ≤ maxLen) (hbt : t.back.length ≤ maxLen) :
    Calls Try.prog 6 #[v, tv] w fun e w' => e = .returned (.bool true) ∧ Below w.heap.size w w' := by
  have hvv := hv
  have htt := htv
  obtain ⟨a, c, ca, cc, rfl, hp, hj⟩ := hv
  obtain ⟨ta, tc, rfl, hts⟩ := htv
  go_enter Try.func6, Try.ntmps6
  go_wp2_with fail
  refine (szNet_any a c n.pieces n.joints ca cc 1048576 _ (by omega) (by omega) hl (L := L) ?hA hnm hl' ?hB hle).mono ?_
  case hA => exact hp.below (by repeat (first | with_reducible exact Below.refl _ _ | refine Below.setCell ?_ (by first | omega | (simp <;> omega) | (simp [World.setCell] <;> omega)) _ | refine Below.alloc ?_ (by first | omega | (simp <;> omega) | (simp [World.setCell] <;> omega)) _ | refine Below.drew ?_ | refine below_draws ?_ _ | exact Below.refl _ _))
  case hB => exact hj.below (by repeat (first | with_reducible exact Below.refl _ _ | refine Below.setCell ?_ (by first | omega | (simp <;> omega) | (simp [World.setCell] <;> omega)) _ | refine Below.alloc ?_ (by first | omega | (simp <;> omega) | (simp [World.setCell] <;> omega)) _ | refine Below.drew ?_ | refine below_draws ?_ _ | exact Below.refl _ _))
  rintro e w1 ⟨r, rfl, hr, hbd, hb1⟩
  have hbw1 : Below w.heap.size w w1 := below_then (by repeat (first | with_reducible exact Below.refl _ _ | refine Below.setCell ?_ (by first | omega | (simp <;> omega) | (simp [World.setCell] <;> omega)) _ | refine Below.alloc ?_ (by first | omega | (simp <;> omega) | (simp [World.setCell] <;> omega)) _ | refine Below.drew ?_ | refine below_draws ?_ _ | exact Below.refl _ _)) hb1
  have hN1 : Boxed w1 w.heap.size [.slice a n.pieces.length ca, .slice c n.joints.length cc] := ((boxed_alloc _ _ _).alloc _).below hb1
  have hT1 : Boxed w1 (w.heap.size + 1) [.int .i64 t.front.piece, .int .i64 t.front.at_, .int .i64 t.front.way, .int .i64 t.long, .slice ta t.back.length tc] := (boxedN _ _ _ (by simp)).below hb1
  by_cases hneg : r < 0
  · go_wp2
    go_ret
    exact ⟨rfl, hbw1⟩
  obtain ⟨k1, k2, k3⟩ := hbd (by omega)
  have k1' : n.pieces.length ≤ 1048576 := by omega
  have k2' : n.joints.length ≤ 1048576 := by omega
  have k3' : ∀ i (h : i < n.joints.length), n.joints[i].ends.length ≤ 1048576 := fun i h => by have := k3 i h; omega
  clear k1 k2 k3 hbd
  have b0 := hT1.2.1 0 _ rfl
  have b1 := hT1.2.1 1 _ rfl
  have b2 := hT1.2.1 2 _ rfl
  have b3 := hT1.2.1 3 _ rfl
  have b4 := hT1.2.1 4 _ rfl
  go_wp2_with fail
  refine (szTrain_any _ t r _ (by omega) (by omega) (htt.below hbw1) hbt).mono ?_
  rintro e w2 ⟨r2, rfl, hr2, hbd2, hb2⟩
  have hbw2 := below_then hbw1 hb2
  have hN2 := hN1.below hb2
  have hT2 := hT1.below hb2
  clear b0 b1 b2 b3 b4
  by_cases hneg2 : r2 < 0
  · go_wp2
    go_ret
    exact ⟨rfl, hbw2⟩
  have hbl : t.back.length ≤ 1048576 := by have := hbd2 (by omega); omega
  clear hbd2
  have a0 := hN2.2.1 0 _ rfl
  have a1 := hN2.2.1 1 _ rfl
  have HK := hide k3'
  have HLE := hide hle
  have HNM := hide hnm
  clear k3' hle hnm
  have n0 := hN2.1
  have n1 := hT2.1
  have b0 := hT2.2.1 0 _ rfl
  have b1 := hT2.2.1 1 _ rfl
  have b2 := hT2.2.1 2 _ rfl
  have b3 := hT2.2.1 3 _ rfl
  have b4 := hT2.2.1 4 _ rfl
  go_wp2_with fail
  go_region_held3 (fun w' => w'.cell? ⟨w.heap.size, 0, none⟩ = some (.slice a n.pieces.length ca) ∧ w'.cell? ⟨w.heap.size, 1, none⟩ = some (.slice c n.joints.length cc) ∧ w'.cell? ⟨w.heap.size + 1, 0, none⟩ = some (.int .i64 t.front.piece) ∧ w'.cell? ⟨w.heap.size + 1, 1, none⟩ = some (.int .i64 t.front.at_) ∧ w'.cell? ⟨w.heap.size + 1, 2, none⟩ = some (.int .i64 t.front.way) ∧ w'.cell? ⟨w.heap.size + 1, 3, none⟩ = some (.int .i64 t.long) ∧ w'.cell? ⟨w.heap.size + 1, 4, none⟩ = some (.slice ta t.back.length tc)) (((try dsimp only); (repeat' apply And.intro)) <;> (go_keep; done))
    (first
      | (go_at_call 15; refine (toNet_any _ n _ (hvv.below (below_then hbw2 (by repeat (first | with_reducible exact Below.refl _ _ | refine Below.setCell ?_ (by first | omega | (simp <;> omega) | (simp [World.setCell] <;> omega)) _ | refine Below.alloc ?_ (by first | omega | (simp <;> omega) | (simp [World.setCell] <;> omega)) _ | refine Below.drew ?_ | refine below_draws ?_ _ | exact Below.refl _ _)))) k1' k2' (unhide HK)).mono ?_; rintro e w3 ⟨v3, rfl, hv3, hb3⟩; obtain ⟨hc3, hf3⟩ := bcell hb3; have sz3 := hb3.size; (try simp at sz3); have qq0 := hc3 (w.heap.size) (0) (by first | (simp; done) | (simp; omega) | omega); have qq1 := hc3 (w.heap.size) (1) (by first | (simp; done) | (simp; omega) | omega); have qq2 := hc3 (w.heap.size+1) (0) (by first | (simp; done) | (simp; omega) | omega); have qq3 := hc3 (w.heap.size+1) (1) (by first | (simp; done) | (simp; omega) | omega); have qq4 := hc3 (w.heap.size+1) (2) (by first | (simp; done) | (simp; omega) | omega); have qq5 := hc3 (w.heap.size+1) (3) (by first | (simp; done) | (simp; omega) | omega); have qq6 := hc3 (w.heap.size+1) (4) (by first | (simp; done) | (simp; omega) | omega))
      | (go_at_call 25; refine (toTrain_own _ t _ (htt.below (below_then (below_then hbw2 (by repeat (first | with_reducible exact Below.refl _ _ | refine Below.setCell ?_ (by first | omega | (simp <;> omega) | (simp [World.setCell] <;> omega)) _ | refine Below.alloc ?_ (by first | omega | (simp <;> omega) | (simp [World.setCell] <;> omega)) _ | refine Below.drew ?_ | refine below_draws ?_ _ | exact Below.refl _ _))) hb3)) hbl).mono ?_; rintro e w4 ⟨v4, rfl, hv4, hb4⟩; obtain ⟨hc4, hf4⟩ := bcell hb4; have sz4 := hb4.size; (try simp at sz4); have rr0 := hc4 (w.heap.size) (0) (by first | (have := hb3.size; omega) | (have := hb3.size; simp at this ⊢; omega) | (simp; omega)); have rr1 := hc4 (w.heap.size) (1) (by first | (have := hb3.size; omega) | (have := hb3.size; simp at this ⊢; omega) | (simp; omega)); have rr2 := hc4 (w.heap.size+1) (0) (by first | (have := hb3.size; omega) | (have := hb3.size; simp at this ⊢; omega) | (simp; omega)); have rr3 := hc4 (w.heap.size+1) (1) (by first | (have := hb3.size; omega) | (have := hb3.size; simp at this ⊢; omega) | (simp; omega)); have rr4 := hc4 (w.heap.size+1) (2) (by first | (have := hb3.size; omega) | (have := hb3.size; simp at this ⊢; omega) | (simp; omega)); have rr5 := hc4 (w.heap.size+1) (3) (by first | (have := hb3.size; omega) | (have := hb3.size; simp at this ⊢; omega) | (simp; omega)); have rr6 := hc4 (w.heap.size+1) (4) (by first | (have := hb3.size; omega) | (have := hb3.size; simp at this ⊢; omega) | (simp; omega)))
      | (go_at_call 24; refine (specTrainOk_b _ _ n t _ (hv3.below hb4) hv4.at k1' k2' (fun i h => ⟨unhide HK i h, (unhide HLE i h).1⟩) (unhide HNM) hbl).mono ?_; rintro e w5 ⟨sb, rfl, hsb, hb5⟩; have HSB := hide hsb; clear hsb; obtain ⟨hc5, hf5⟩ := bcell hb5; have zz0 := hc5 (w.heap.size) (0) (by first | (have := hb3.size; have := hb4.size; omega) | (have := hb3.size; have := hb4.size; simp at this ⊢; omega) | (simp; omega)); have zz1 := hc5 (w.heap.size) (1) (by first | (have := hb3.size; have := hb4.size; omega) | (have := hb3.size; have := hb4.size; simp at this ⊢; omega) | (simp; omega)); have zz2 := hc5 (w.heap.size+1) (0) (by first | (have := hb3.size; have := hb4.size; omega) | (have := hb3.size; have := hb4.size; simp at this ⊢; omega) | (simp; omega)); have zz3 := hc5 (w.heap.size+1) (1) (by first | (have := hb3.size; have := hb4.size; omega) | (have := hb3.size; have := hb4.size; simp at this ⊢; omega) | (simp; omega)); have zz4 := hc5 (w.heap.size+1) (2) (by first | (have := hb3.size; have := hb4.size; omega) | (have := hb3.size; have := hb4.size; simp at this ⊢; omega) | (simp; omega)); have zz5 := hc5 (w.heap.size+1) (3) (by first | (have := hb3.size; have := hb4.size; omega) | (have := hb3.size; have := hb4.size; simp at this ⊢; omega) | (simp; omega)); have zz6 := hc5 (w.heap.size+1) (4) (by first | (have := hb3.size; have := hb4.size; omega) | (have := hb3.size; have := hb4.size; simp at this ⊢; omega) | (simp; omega))))
  have hb5' : Below w2.heap.size w2 w5 := below_then (below_then (below_then (by repeat (first | with_reducible exact Below.refl _ _ | refine Below.setCell ?_ (by first | omega | (simp <;> omega) | (simp [World.setCell] <;> omega)) _ | refine Below.alloc ?_ (by first | omega | (simp <;> omega) | (simp [World.setCell] <;> omega)) _ | refine Below.drew ?_ | refine below_draws ?_ _ | exact Below.refl _ _)) hb3) hb4) hb5
  have hbw5 := below_then hbw2 hb5'
  have hN5 := hN2.below hb5'
  have hT5 := hT2.below hb5'
  clear qq0 qq1 qq2 qq3 qq4 qq5 qq6 rr0 rr1 rr2 rr3 rr4 rr5 rr6 zz0 zz1 zz2 zz3 zz4 zz5 zz6
  clear hc3 hf3 hc4 hf4 hc5 hf5 a0 a1 b0 b1 b2 b3 b4 hb3 hb4 hb5 hv3 hv4 n0 n1
  have a0 := hN5.2.1 0 _ rfl
  have a1 := hN5.2.1 1 _ rfl
  go_wp2_with fail
  refine (toNet_any _ n _ (hvv.below hbw5) k1' k2' (unhide HK)).mono ?_
  rintro e w6 ⟨v6, rfl, hv6, hb6⟩
  have hbw6 := below_then hbw5 hb6
  have hN6 := hN5.below hb6
  have hT6 := hT5.below hb6
  have hv6' := hv6
  obtain ⟨xa, xc, xca, xcc, rfl, hxp, hxj⟩ := hv6
  clear a0 a1
  have hA6 : Below w6.heap.size w6 (w6.alloc (.cells #[.slice xa n.pieces.length xca, .slice xc n.joints.length xcc] 26)) := (by repeat (first | with_reducible exact Below.refl _ _ | refine Below.setCell ?_ (by first | omega | (simp <;> omega) | (simp [World.setCell] <;> omega)) _ | refine Below.alloc ?_ (by first | omega | (simp <;> omega) | (simp [World.setCell] <;> omega)) _ | refine Below.drew ?_ | refine below_draws ?_ _ | exact Below.refl _ _))
  have b0 := hT6.2.1 0 _ rfl
  have b1 := hT6.2.1 1 _ rfl
  have b2 := hT6.2.1 2 _ rfl
  have b3 := hT6.2.1 3 _ rfl
  have b4 := hT6.2.1 4 _ rfl
  have nT := hT6.1
  go_wp2_with fail
  refine (toTrain_own _ t _ (htt.below (below_then hbw6 hA6)) hbl).mono ?_
  rintro e w7 ⟨v7, rfl, hv7, hb7⟩
  have hb7' := below_then hA6 hb7
  have hbw7 := below_then hbw6 hb7'
  have hN7 := hN6.below hb7'
  have hT7 := hT6.below hb7'
  have hX7 : Boxed w7 w6.heap.size [.slice xa n.pieces.length xca, .slice xc n.joints.length xcc] := (boxed_alloc _ _ _).below hb7
  have hv7' := hv7.at
  obtain ⟨ya, rfl, hys⟩ := hv7
  clear b0 b1 b2 b3 b4
  have hA7 : Below w7.heap.size w7 (w7.alloc (.cells #[.int .i64 t.front.piece, .int .i64 t.front.at_, .int .i64 t.front.way, .int .i64 t.long, .slice ya t.back.length t.back.length] 32)) := (by repeat (first | with_reducible exact Below.refl _ _ | refine Below.setCell ?_ (by first | omega | (simp <;> omega) | (simp [World.setCell] <;> omega)) _ | refine Below.alloc ?_ (by first | omega | (simp <;> omega) | (simp [World.setCell] <;> omega)) _ | refine Below.drew ?_ | refine below_draws ?_ _ | exact Below.refl _ _))
  have x0 := hX7.2.1 0 _ rfl
  have x1 := hX7.2.1 1 _ rfl
  have nX := hX7.1
  go_wp2_with fail
  refine (implTrainOk_any _ n t ya t.back.length _ (L := w5.heap.size) ?hA ?hB (Nat.le_refl _) hbl k1' k2' (fun i h => (unhide HLE i h).1) (unhide HNM)).mono ?_
  case hA => exact (hv6'.below hb7').below hA7
  case hB => exact (hys.at.mono (Nat.zero_le _)).below hA7
  rintro e w8 ⟨himpl, hb8⟩
  have hb8' := below_then hA7 hb8
  have hbw8 := below_then hbw7 hb8'
  have hN8 := hN7.below hb8'
  have hT8 := hT7.below hb8'
  have hX8 := hX7.below hb8'
  have hY8 : Boxed w8 w7.heap.size [.int .i64 t.front.piece, .int .i64 t.front.at_, .int .i64 t.front.way, .int .i64 t.long, .slice ya t.back.length t.back.length] := (boxed_alloc _ _ _).below hb8
  have HV8 := hide (hv6'.below (below_then hb7' hb8'))
  have HW8 := hide (hv7'.below hb8')
  obtain ⟨rfl⟩ : e = .returned (.bool sb) := by
    rcases himpl with ⟨rfl, h⟩ | ⟨rfl, h⟩
    · rw [(unhide HSB).2 h]
    · cases sb
      · rfl
      · exact absurd ((unhide HSB).1 rfl) h
  clear himpl HSB x0 x1 nX nT
  have a0 := hN8.2.1 0 _ rfl
  have a1 := hN8.2.1 1 _ rfl
  have x0 := hX8.2.1 0 _ rfl
  have x1 := hX8.2.1 1 _ rfl
  have n0 := hN8.1
  have n2 := hX8.1
  go_upto_region 14 with fail
  go_cut [39] (fun b wx => b = .bool false ∧ Below w8.heap.size w8 wx)
  case first =>
    go_region_held3 (fun w' => w'.cell? ⟨w.heap.size, 0, none⟩ = some (.slice a n.pieces.length ca) ∧ w'.cell? ⟨w.heap.size, 1, none⟩ = some (.slice c n.joints.length cc) ∧ w'.cell? ⟨w6.heap.size, 0, none⟩ = some (.slice xa n.pieces.length xca) ∧ w'.cell? ⟨w6.heap.size, 1, none⟩ = some (.slice xc n.joints.length xcc)) (((try dsimp only); (repeat' apply And.intro)) <;> (go_keep; done))
      (first
        | (go_at_call 15; refine (toNet_any _ n _ (hvv.below (below_then hbw8 (by repeat (first | with_reducible exact Below.refl _ _ | refine Below.setCell ?_ (by first | omega | (simp <;> omega) | (simp [World.setCell] <;> omega)) _ | refine Below.alloc ?_ (by first | omega | (simp <;> omega) | (simp [World.setCell] <;> omega)) _ | refine Below.drew ?_ | refine below_draws ?_ _ | exact Below.refl _ _)))) k1' k2' (unhide HK)).mono ?_; rintro e w9 ⟨v9, rfl, hv9, hb9⟩; obtain ⟨hc9, hf9⟩ := bcell hb9; have sz9 := hb9.size; (try simp at sz9); have qq0 := hc9 (w.heap.size) (0) (by first | (simp; done) | (simp; omega) | omega); have qq1 := hc9 (w.heap.size) (1) (by first | (simp; done) | (simp; omega) | omega); have qq2 := hc9 (w6.heap.size) (0) (by first | (simp; done) | (simp; omega) | omega); have qq3 := hc9 (w6.heap.size) (1) (by first | (simp; done) | (simp; omega) | omega))
        | (go_at_call 18; refine (eqNet_any _ _ n _ k1' k2' (unhide HK) ((unhide HV8).below (below_then (by repeat (first | with_reducible exact Below.refl _ _ | refine Below.setCell ?_ (by first | omega | (simp <;> omega) | (simp [World.setCell] <;> omega)) _ | refine Below.alloc ?_ (by first | omega | (simp <;> omega) | (simp [World.setCell] <;> omega)) _ | refine Below.drew ?_ | refine below_draws ?_ _ | exact Below.refl _ _)) hb9)) hv9).mono ?_; rintro e w10 ⟨rfl, hb10⟩; obtain ⟨hc10, hf10⟩ := bcell hb10; have rr0 := hc10 (w.heap.size) (0) (by first | (have := hb9.size; omega) | (have := hb9.size; simp at this ⊢; omega) | (simp; omega)); have rr1 := hc10 (w.heap.size) (1) (by first | (have := hb9.size; omega) | (have := hb9.size; simp at this ⊢; omega) | (simp; omega)); have rr2 := hc10 (w6.heap.size) (0) (by first | (have := hb9.size; omega) | (have := hb9.size; simp at this ⊢; omega) | (simp; omega)); have rr3 := hc10 (w6.heap.size) (1) (by first | (have := hb9.size; omega) | (have := hb9.size; simp at this ⊢; omega) | (simp; omega))))
    all_goals go_wp2_with fail
    all_goals go_meet
    all_goals exact ⟨rfl, below_then (below_then (by repeat (first | with_reducible exact Below.refl _ _ | refine Below.setCell ?_ (by first | omega | (simp <;> omega) | (simp [World.setCell] <;> omega)) _ | refine Below.alloc ?_ (by first | omega | (simp <;> omega) | (simp [World.setCell] <;> omega)) _ | refine Below.drew ?_ | refine below_draws ?_ _ | exact Below.refl _ _)) hb9) hb10⟩
  case rest =>
    obtain ⟨rfl, hbc⟩ := hcut
    have hbwc := below_then hbw8 hbc
    have hTc := hT8.below hbc
    have hYc := hY8.below hbc
    clear a0 a1 x0 x1 n0 n2
    have b0 := hTc.2.1 0 _ rfl
    have b1 := hTc.2.1 1 _ rfl
    have b2 := hTc.2.1 2 _ rfl
    have b3 := hTc.2.1 3 _ rfl
    have b4 := hTc.2.1 4 _ rfl
    have y0 := hYc.2.1 0 _ rfl
    have y1 := hYc.2.1 1 _ rfl
    have y2 := hYc.2.1 2 _ rfl
    have y3 := hYc.2.1 3 _ rfl
    have y4 := hYc.2.1 4 _ rfl
    have n1 := hTc.1
    have n3 := hYc.1
    go_wp2_with fail
    go_region_held3 (fun w' => w'.cell? ⟨w.heap.size + 1, 0, none⟩ = some (.int .i64 t.front.piece) ∧ w'.cell? ⟨w.heap.size + 1, 1, none⟩ = some (.int .i64 t.front.at_) ∧ w'.cell? ⟨w.heap.size + 1, 2, none⟩ = some (.int .i64 t.front.way) ∧ w'.cell? ⟨w.heap.size + 1, 3, none⟩ = some (.int .i64 t.long) ∧ w'.cell? ⟨w.heap.size + 1, 4, none⟩ = some (.slice ta t.back.length tc) ∧ w'.cell? ⟨w7.heap.size, 0, none⟩ = some (.int .i64 t.front.piece) ∧ w'.cell? ⟨w7.heap.size, 1, none⟩ = some (.int .i64 t.front.at_) ∧ w'.cell? ⟨w7.heap.size, 2, none⟩ = some (.int .i64 t.front.way) ∧ w'.cell? ⟨w7.heap.size, 3, none⟩ = some (.int .i64 t.long) ∧ w'.cell? ⟨w7.heap.size, 4, none⟩ = some (.slice ya t.back.length t.back.length)) (((try dsimp only); (repeat' apply And.intro)) <;> (go_keep; done))
      (first
        | (go_at_call 25; refine (toTrain_own _ t _ (htt.below (below_then hbwc (by repeat (first | with_reducible exact Below.refl _ _ | refine Below.setCell ?_ (by first | omega | (simp <;> omega) | (simp [World.setCell] <;> omega)) _ | refine Below.alloc ?_ (by first | omega | (simp <;> omega) | (simp [World.setCell] <;> omega)) _ | refine Below.drew ?_ | refine below_draws ?_ _ | exact Below.refl _ _)))) hbl).mono ?_; rintro e w11 ⟨v11, rfl, hv11, hb11⟩; obtain ⟨hc11, hf11⟩ := bcell hb11; have sz11 := hb11.size; (try simp at sz11); have qq0 := hc11 (w.heap.size+1) (0) (by first | (simp; done) | (simp; omega) | omega); have qq1 := hc11 (w.heap.size+1) (1) (by first | (simp; done) | (simp; omega) | omega); have qq2 := hc11 (w.heap.size+1) (2) (by first | (simp; done) | (simp; omega) | omega); have qq3 := hc11 (w.heap.size+1) (3) (by first | (simp; done) | (simp; omega) | omega); have qq4 := hc11 (w.heap.size+1) (4) (by first | (simp; done) | (simp; omega) | omega); have qq5 := hc11 (w7.heap.size) (0) (by first | (simp; done) | (simp; omega) | omega); have qq6 := hc11 (w7.heap.size) (1) (by first | (simp; done) | (simp; omega) | omega); have qq7 := hc11 (w7.heap.size) (2) (by first | (simp; done) | (simp; omega) | omega); have qq8 := hc11 (w7.heap.size) (3) (by first | (simp; done) | (simp; omega) | omega); have qq9 := hc11 (w7.heap.size) (4) (by first | (simp; done) | (simp; omega) | omega))
        | (go_at_call 27; refine (eqTrain_any _ _ t _ hbl ((unhide HW8).below (below_then (below_then hbc (by repeat (first | with_reducible exact Below.refl _ _ | refine Below.setCell ?_ (by first | omega | (simp <;> omega) | (simp [World.setCell] <;> omega)) _ | refine Below.alloc ?_ (by first | omega | (simp <;> omega) | (simp [World.setCell] <;> omega)) _ | refine Below.drew ?_ | refine below_draws ?_ _ | exact Below.refl _ _))) hb11)) hv11.at).mono ?_; rintro e w12 ⟨rfl, hb12⟩; obtain ⟨hc12, hf12⟩ := bcell hb12; have rr0 := hc12 (w.heap.size+1) (0) (by first | (have := hb11.size; omega) | (have := hb11.size; simp at this ⊢; omega) | (simp; omega)); have rr1 := hc12 (w.heap.size+1) (1) (by first | (have := hb11.size; omega) | (have := hb11.size; simp at this ⊢; omega) | (simp; omega)); have rr2 := hc12 (w.heap.size+1) (2) (by first | (have := hb11.size; omega) | (have := hb11.size; simp at this ⊢; omega) | (simp; omega)); have rr3 := hc12 (w.heap.size+1) (3) (by first | (have := hb11.size; omega) | (have := hb11.size; simp at this ⊢; omega) | (simp; omega)); have rr4 := hc12 (w.heap.size+1) (4) (by first | (have := hb11.size; omega) | (have := hb11.size; simp at this ⊢; omega) | (simp; omega)); have rr5 := hc12 (w7.heap.size) (0) (by first | (have := hb11.size; omega) | (have := hb11.size; simp at this ⊢; omega) | (simp; omega)); have rr6 := hc12 (w7.heap.size) (1) (by first | (have := hb11.size; omega) | (have := hb11.size; simp at this ⊢; omega) | (simp; omega)); have rr7 := hc12 (w7.heap.size) (2) (by first | (have := hb11.size; omega) | (have := hb11.size; simp at this ⊢; omega) | (simp; omega)); have rr8 := hc12 (w7.heap.size) (3) (by first | (have := hb11.size; omega) | (have := hb11.size; simp at this ⊢; omega) | (simp; omega)); have rr9 := hc12 (w7.heap.size) (4) (by first | (have := hb11.size; omega) | (have := hb11.size; simp at this ⊢; omega) | (simp; omega))))
    have hbw12 := below_then (below_then (below_then hbwc (by repeat (first | with_reducible exact Below.refl _ _ | refine Below.setCell ?_ (by first | omega | (simp <;> omega) | (simp [World.setCell] <;> omega)) _ | refine Below.alloc ?_ (by first | omega | (simp <;> omega) | (simp [World.setCell] <;> omega)) _ | refine Below.drew ?_ | refine below_draws ?_ _ | exact Below.refl _ _))) hb11) hb12
    go_wp2
    go_ret
    exact ⟨rfl, hbw12⟩

end Go.Proofs.Ytbdggfpfpjijoaa

