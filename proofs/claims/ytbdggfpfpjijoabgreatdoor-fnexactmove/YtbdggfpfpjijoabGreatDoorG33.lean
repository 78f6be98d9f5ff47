import Derived.Test.YtbdggfpfpjijoabGreatDoorSpec21
import Derived.Test.YtbdggfpfpjijoabGreatDoorKt36
import Derived.Test.YtbdggfpfpjijoabGreatDoorG6
namespace Go.Proofs.YtbdggfpfpjijoabGreatDoor
open Go.RowKit

set_option maxRecDepth 100000 in
set_option maxHeartbeats 8000000 in
theorem specMove_any (v : Value) (n : Nt) (ba0 : Option Addr) (bc0 : Nat) (zq : Option Addr) (zs : List Int) (zc : Nat) (t : Tr) (F : Int) (w : World) {L L' : Nat} (hv : NetAt L w v n) (hst : StsAt 0 w ba0 t.back) (hz : IntsAt L' w zq zs) (hbl : t.back.length ≤ 1048576)
    (hl : n.pieces.length ≤ 1048576) (hl' : n.joints.length ≤ 1048576) (hle : ∀ i (h : i < n.joints.length), n.joints[i].ends.length ≤ 1048576 ∧ n.joints[i].name.size ≤ maxLen) (hnm : ∀ i (h : i < n.pieces.length), n.pieces[i].name.size ≤ maxLen) :
    Calls Tryz.prog 8 #[v, .slice zq zs.length zc, .agg #[.int .i64 t.front.piece, .int .i64 t.front.at_, .int .i64 t.front.way, .int .i64 t.long, .slice ba0 t.back.length bc0], .int .i64 F] w fun e w' => MovedIs n zs t F w.heap.size e w' ∧ Below w.heap.size w w' := by
  have hvv := hv
  obtain ⟨x, c, ca, cc, rfl, hp, hj⟩ := hv
  go_enter Tryz.func8, Tryz.ntmps8
  go_wp2_with fail
  refine (l3good_any _ _ n zq zs zc t F _ (hvv.below ?_) (hz.below ?_) ⟨ba0, bc0, rfl, hst.below ?_⟩ hl hl' hle hnm hbl).mono ?_
  · exact (by repeat (first | with_reducible exact Below.refl _ _ | refine Below.setCell ?_ (by first | omega | (simp <;> omega) | (simp [World.setCell] <;> omega)) _ | refine Below.alloc ?_ (by first | omega | (simp <;> omega) | (simp [World.setCell] <;> omega)) _ | refine Below.drew ?_ | refine below_draws ?_ _ | exact Below.refl _ _))
  · exact (by repeat (first | with_reducible exact Below.refl _ _ | refine Below.setCell ?_ (by first | omega | (simp <;> omega) | (simp [World.setCell] <;> omega)) _ | refine Below.alloc ?_ (by first | omega | (simp <;> omega) | (simp [World.setCell] <;> omega)) _ | refine Below.drew ?_ | refine below_draws ?_ _ | exact Below.refl _ _))
  · exact (by repeat (first | with_reducible exact Below.refl _ _ | refine Below.setCell ?_ (by first | omega | (simp <;> omega) | (simp [World.setCell] <;> omega)) _ | refine Below.alloc ?_ (by first | omega | (simp <;> omega) | (simp [World.setCell] <;> omega)) _ | refine Below.drew ?_ | refine below_draws ?_ _ | exact Below.refl _ _))
  rintro e w1 ⟨hR, hb1⟩
  have hbw1 : Below w.heap.size w w1 := below_then (by repeat (first | with_reducible exact Below.refl _ _ | refine Below.setCell ?_ (by first | omega | (simp <;> omega) | (simp [World.setCell] <;> omega)) _ | refine Below.alloc ?_ (by first | omega | (simp <;> omega) | (simp [World.setCell] <;> omega)) _ | refine Below.drew ?_ | refine below_draws ?_ _ | exact Below.refl _ _)) hb1
  have hn1 : Boxed w1 w.heap.size [.slice x n.pieces.length ca, .slice c n.joints.length cc] := (((boxed_alloc _ _ _).alloc _).alloc _).below hb1
  have ht1 : Boxed w1 (w.heap.size + 1) [.int .i64 t.front.piece, .int .i64 t.front.at_, .int .i64 t.front.way, .int .i64 t.long, .slice ba0 t.back.length bc0] := ((boxedN _ _ _ (by simp)).alloc _).below hb1
  have hr1 : Boxed w1 (w.heap.size + 1 + 1) [.int .i64 0, .int .i64 0, .int .i64 0, .int .i64 0, .int .i64 0, .int .i64 0, .int .i64 0, .slice none 0 0, .slice none 0 0] := (boxedN _ _ _ (by simp)).below hb1
  have hrl := hr1.1
  rcases hR with ⟨rfl, hR⟩ | ⟨rfl, hR⟩
  · have hG := netGood hR.1.1
    have HR := hide hR
    clear hR
    have p0 := hn1.2.1 0 _ rfl
    have p1 := hn1.2.1 1 _ rfl
    have p2 := ht1.2.1 0 _ rfl
    have p3 := ht1.2.1 1 _ rfl
    have p4 := ht1.2.1 2 _ rfl
    have p5 := ht1.2.1 3 _ rfl
    have p6 := ht1.2.1 4 _ rfl
    go_wp2_with fail
    refine (l3move_any _ n ba0 bc0 zq zs zc t F _ (hvv.below hbw1) (hst.below hbw1) (hz.below hbw1) hG (unhide HR).1.2 (unhide HR).2.1 (unhide HR).2.2).mono ?_
    rintro e w2 ⟨⟨m, code, joint, ba1, bc1, oa, oc, rfl, hrun, hbk, hrow⟩, hb2⟩
    clear p0 p1 p2 p3 p4 p5 p6
    have hr2 := hr1.below hb2
    have hrf := (((((((((hr2.setAt (i := 0) (by simp) (.int .i64 code)).setAt (i := 1) (by simp) (.int .i64 m.far)).setAt (i := 2) (by simp) (.int .i64 joint)).setAt (i := 3) (by simp) (.int .i64 m.s.piece)).setAt (i := 4) (by simp) (.int .i64 m.s.at_)).setAt (i := 5) (by simp) (.int .i64 m.s.way)).setAt (i := 6) (by simp) (.int .i64 t.long)).setAt (i := 7) (by simp) (.slice ba1 m.xs.length bc1)).setAt (i := 8) (by simp) (.slice oa m.over.length oc))
    have hof := (((((((((only_setCell (S := fun k => k = w.heap.size + 1 + 1) w2 (p := ⟨w.heap.size + 1 + 1, 0, none⟩) rfl (.int .i64 code)).trans (only_setCell (S := fun k => k = w.heap.size + 1 + 1) _ (p := ⟨w.heap.size + 1 + 1, 1, none⟩) rfl (.int .i64 m.far))).trans (only_setCell (S := fun k => k = w.heap.size + 1 + 1) _ (p := ⟨w.heap.size + 1 + 1, 2, none⟩) rfl (.int .i64 joint))).trans (only_setCell (S := fun k => k = w.heap.size + 1 + 1) _ (p := ⟨w.heap.size + 1 + 1, 3, none⟩) rfl (.int .i64 m.s.piece))).trans (only_setCell (S := fun k => k = w.heap.size + 1 + 1) _ (p := ⟨w.heap.size + 1 + 1, 4, none⟩) rfl (.int .i64 m.s.at_))).trans (only_setCell (S := fun k => k = w.heap.size + 1 + 1) _ (p := ⟨w.heap.size + 1 + 1, 5, none⟩) rfl (.int .i64 m.s.way))).trans (only_setCell (S := fun k => k = w.heap.size + 1 + 1) _ (p := ⟨w.heap.size + 1 + 1, 6, none⟩) rfl (.int .i64 t.long))).trans (only_setCell (S := fun k => k = w.heap.size + 1 + 1) _ (p := ⟨w.heap.size + 1 + 1, 7, none⟩) rfl (.slice ba1 m.xs.length bc1))).trans (only_setCell (S := fun k => k = w.heap.size + 1 + 1) _ (p := ⟨w.heap.size + 1 + 1, 8, none⟩) rfl (.slice oa m.over.length oc)))
    have hbw2 := below_then hbw1 hb2
    have hszb := hbw1.size
    have HST := hide (hbk.only hof (fun k hk (he : k = w.heap.size + 1 + 1) => by have := (hbk.lt k hk).1; omega))
    have HPT := hide (hrow.only hof (fun k hk (he : k = w.heap.size + 1 + 1) => by have := (hrow.lt k hk).1; omega))
    have HBF := hide (hbw2.trans (hof.below hbw2.size (fun k hk (he : k = w.heap.size + 1 + 1) => by omega)))
    have HRF := hide hrf
    have HRUN := hide hrun
    have r0 := hr2.2.1 0 _ rfl
    have r1 := hr2.2.1 1 _ rfl
    have r2 := hr2.2.1 2 _ rfl
    have r3 := hr2.2.1 3 _ rfl
    have r4 := hr2.2.1 4 _ rfl
    have r5 := hr2.2.1 5 _ rfl
    have r6 := hr2.2.1 6 _ rfl
    have r7 := hr2.2.1 7 _ rfl
    have r8 := hr2.2.1 8 _ rfl
    have rz := hr2.2.2
    have rl := hr2.1
    clear hrf hof hrun hbk hrow
    unfold movedV
    go_wp2
    have hrf := unhide HRF
    have f0 := hrf.2.1 0 _ rfl
    have f1 := hrf.2.1 1 _ rfl
    have f2 := hrf.2.1 2 _ rfl
    have f3 := hrf.2.1 3 _ rfl
    have f4 := hrf.2.1 4 _ rfl
    have f5 := hrf.2.1 5 _ rfl
    have f6 := hrf.2.1 6 _ rfl
    have f7 := hrf.2.1 7 _ rfl
    have f8 := hrf.2.1 8 _ rfl
    exact bodyPost_ret (v := movedV code m.far joint m.s t.long (.slice ba1 m.xs.length bc1) (.slice oa m.over.length oc)) (by simp [results, Tryz.results8, go_sem, f0, f1, f2, f3, f4, f5, f6, f7, f8, movedV]) rfl ⟨Or.inl ⟨⟨⟨(unhide HR).1.1, (unhide HR).2.1⟩, (unhide HR).1.2, (unhide HR).2.2⟩, m, code, joint, ba1, bc1, oa, oc, rfl, unhide HRUN, (unhide HST).mono (by omega), (unhide HPT).mono (by omega)⟩, unhide HBF⟩
  · have HN : Hid (¬ OutOk n zs t F) := fun h => hR ⟨⟨h.1.1, h.2.1⟩, h.1.2, h.2.2⟩
    clear hR
    have r0 := hr1.2.1 0 _ rfl
    have r1 := hr1.2.1 1 _ rfl
    have r2 := hr1.2.1 2 _ rfl
    have r3 := hr1.2.1 3 _ rfl
    have r4 := hr1.2.1 4 _ rfl
    have r5 := hr1.2.1 5 _ rfl
    have r6 := hr1.2.1 6 _ rfl
    have r7 := hr1.2.1 7 _ rfl
    have r8 := hr1.2.1 8 _ rfl
    have rz := hr1.2.2
    go_wp2
    exact bodyPost_ret (v := movedV 5 0 0 ⟨0, 0, 0⟩ 0 (.slice none 0 0) (.slice none 0 0)) (by simp [results, Tryz.results8, go_sem, r0, r1, r2, r3, r4, r5, r6, r7, r8, movedV]) rfl ⟨Or.inr ⟨unhide HN, rfl⟩, (by repeat (first | with_reducible exact Below.refl _ _ | with_reducible exact hbw1 | refine Below.setCell ?_ (by first | omega | (simp <;> omega) | (simp [World.setCell] <;> omega)) _ | refine Below.alloc ?_ (by first | omega | (simp <;> omega) | (simp [World.setCell] <;> omega)) _ | refine Below.drew ?_ | refine below_draws ?_ _ | exact hbw1 | exact Below.refl _ _))⟩
end Go.Proofs.YtbdggfpfpjijoabGreatDoor

namespace Go.Proofs.YtbdggfpfpjijoabGreatDoor
open Go.RowKit

/-! ### Moved, in the laws -/

set_option maxRecDepth 100000 in
set_option maxHeartbeats 4000000 in
theorem eqMoved_any (code far joint : Int) (s : Sp) (long : Int) (bk : List St) (ov : List Pt) (a a' : Option Addr) (ca ca' : Nat) (o o' : Option Addr) (co co' : Nat) (w : World) {L1 L2 L3 L4 : Nat} (hb : bk.length ≤ 1048576) (ho : ov.length ≤ 1048576) (h1 : StsAt L1 w a bk) (h2 : StsAt L2 w a' bk) (h3 : PtsAt L3 w o ov) (h4 : PtsAt L4 w o' ov) :
    Calls Tryz.prog 13 #[movedV code far joint s long (.slice a bk.length ca) (.slice o ov.length co), movedV code far joint s long (.slice a' bk.length ca') (.slice o' ov.length co')] w fun e w' => e = .returned (.bool true) ∧ Below w.heap.size w w' := by
  unfold movedV
  go_enter Tryz.func13, Tryz.ntmps13
  go_wp2_with fail
  refine (eqTrain_any _ _ ⟨s, long, bk⟩ _ hb ⟨a, ca, rfl, h1.below ?_⟩ ⟨a', ca', rfl, h2.below ?_⟩).mono ?_
  · exact (by repeat (first | with_reducible exact Below.refl _ _ | refine Below.setCell ?_ (by first | omega | (simp <;> omega) | (simp [World.setCell] <;> omega)) _ | refine Below.alloc ?_ (by first | omega | (simp <;> omega) | (simp [World.setCell] <;> omega)) _ | refine Below.drew ?_ | refine below_draws ?_ _ | exact Below.refl _ _))
  · exact (by repeat (first | with_reducible exact Below.refl _ _ | refine Below.setCell ?_ (by first | omega | (simp <;> omega) | (simp [World.setCell] <;> omega)) _ | refine Below.alloc ?_ (by first | omega | (simp <;> omega) | (simp [World.setCell] <;> omega)) _ | refine Below.drew ?_ | refine below_draws ?_ _ | exact Below.refl _ _))
  rintro e w1 ⟨rfl, hb1⟩
  have hbw1 : Below w.heap.size w w1 := below_then (by repeat (first | with_reducible exact Below.refl _ _ | refine Below.setCell ?_ (by first | omega | (simp <;> omega) | (simp [World.setCell] <;> omega)) _ | refine Below.alloc ?_ (by first | omega | (simp <;> omega) | (simp [World.setCell] <;> omega)) _ | refine Below.drew ?_ | refine below_draws ?_ _ | exact Below.refl _ _)) hb1
  have hX0 : Boxed w1 w.heap.size [.int .i64 code, .int .i64 far, .int .i64 joint, .int .i64 s.piece, .int .i64 s.at_, .int .i64 s.way, .int .i64 long, .slice a bk.length ca, .slice o ov.length co] := ((boxed_alloc _ _ _).alloc _).below hb1
  have hX1 : Boxed w1 (w.heap.size + 1) [.int .i64 code, .int .i64 far, .int .i64 joint, .int .i64 s.piece, .int .i64 s.at_, .int .i64 s.way, .int .i64 long, .slice a' bk.length ca', .slice o' ov.length co'] := (boxedN _ _ _ (by simp)).below hb1
  have x8 := hX0.2.1 8 _ rfl
  have y8 := hX1.2.1 8 _ rfl
  have xl := hX0.1
  have yl := hX1.1
  go_wp2_with fail
  refine (eqPartS_any o o' ov co co' _ ho (h3.below hbw1) (h4.below hbw1)).mono ?_
  rintro e w2 ⟨rfl, hb2⟩
  go_wp2
  go_ret
  exact ⟨rfl, below_then hbw1 hb2⟩

set_option maxRecDepth 100000 in
set_option maxHeartbeats 4000000 in
theorem markMoved_any (code far joint : Int) (s : Sp) (long : Int) (a : Option Addr) (n1 c1 : Nat) (o : Option Addr) (n2 c2 : Nat) (k0 : Int) (f g : Nat → Value) (w : World) (hn1 : n1 ≤ 1048576) (hn2 : n2 ≤ 1048576) (h0 : 0 ≤ k0) (h1 : k0 ≤ 1000000000000) (hf : OwnL w a (n1 * 2) f) (hg : OwnL w o (n2 * 3) g) (hao : ∀ k, blk o k → ¬ blk a k) (haw : ∀ k, blk a k → k < w.heap.size) :
    Calls Tryz.prog 20 #[movedV code far joint s long (.slice a n1 c1) (.slice o n2 c2), .int .i64 k0] w fun e w' => e = .returned (.int .i64 (k0 + (n1 * 2 : Nat) + (n2 * 3 : Nat))) ∧ OwnL w' a (n1 * 2) (marks k0) ∧ OwnL w' o (n2 * 3) (marks (k0 + (n1 * 2 : Nat))) ∧ Only (fun k => blk a k ∨ blk o k) w w' := by
  unfold movedV
  go_enter Tryz.func20, Tryz.ntmps20
  go_wp2_with fail
  have hb0 : Below w.heap.size w (w.alloc (.cells #[.int .i64 code, .int .i64 far, .int .i64 joint, .int .i64 s.piece, .int .i64 s.at_, .int .i64 s.way, .int .i64 long, .slice a n1 c1, .slice o n2 c2] 40)) := (by repeat (first | with_reducible exact Below.refl _ _ | refine Below.setCell ?_ (by first | omega | (simp <;> omega) | (simp [World.setCell] <;> omega)) _ | refine Below.alloc ?_ (by first | omega | (simp <;> omega) | (simp [World.setCell] <;> omega)) _ | refine Below.drew ?_ | refine below_draws ?_ _ | exact Below.refl _ _))
  refine (markTrain_any s.piece s.at_ s.way long a n1 c1 k0 f _ hn1 h0 (by omega) (hf.below hb0)).mono ?_
  rintro e w1 ⟨rfl, hm1, ho1⟩
  have hX1 : Boxed w1 w.heap.size [.int .i64 code, .int .i64 far, .int .i64 joint, .int .i64 s.piece, .int .i64 s.at_, .int .i64 s.way, .int .i64 long, .slice a n1 c1, .slice o n2 c2] := (boxed_alloc _ _ _).onlyS ho1 (fun h => by have := haw _ h; omega)
  have x8 := hX1.2.1 8 _ rfl
  have xl := hX1.1
  have hg1 := (hg.below hb0).only ho1 hao
  obtain ⟨k1, hk1⟩ : ∃ k1 : Int, k0 + ((n1 * 2 : Nat) : Int) = k1 := ⟨_, rfl⟩
  have hk1' : 0 ≤ k1 ∧ k1 ≤ 1000000000000000 := by omega
  rw [hk1]
  have HK1 := hide hk1
  clear hk1
  go_wp2_with fail
  refine (markPartS_any o n2 c2 k1 g _ hn2 hk1'.1 hk1'.2 hg1).mono ?_
  rintro e w2 ⟨rfl, hm2, ho2⟩
  go_wp2
  go_ret
  rw [unhide HK1]
  exact ⟨rfl, hm1.only ho2 (fun k hk hk' => hao k hk' hk), hm2, ((only_of_below hb0).trans (ho1.mono (fun k _ h => Or.inl h))).trans (ho2.mono (fun k _ h => Or.inr h))⟩

set_option maxRecDepth 100000 in
set_option maxHeartbeats 4000000 in
theorem heldMoved_any (code far joint : Int) (s : Sp) (long : Int) (a : Option Addr) (n1 c1 : Nat) (o : Option Addr) (n2 c2 : Nat) (k0 : Int) (w : World) (hn1 : n1 ≤ 1048576) (hn2 : n2 ≤ 1048576) (h0 : 0 ≤ k0) (h1 : k0 ≤ 1000000000000) (hf : OwnL w a (n1 * 2) (marks k0)) (hg : OwnL w o (n2 * 3) (marks (k0 + (n1 * 2 : Nat)))) :
    Calls Tryz.prog 21 #[movedV code far joint s long (.slice a n1 c1) (.slice o n2 c2), .int .i64 k0] w fun e w' => e = .returned (.int .i64 (k0 + (n1 * 2 : Nat) + (n2 * 3 : Nat))) ∧ Below w.heap.size w w' := by
  unfold movedV
  go_enter Tryz.func21, Tryz.ntmps21
  go_wp2_with fail
  have hb0 : Below w.heap.size w (w.alloc (.cells #[.int .i64 code, .int .i64 far, .int .i64 joint, .int .i64 s.piece, .int .i64 s.at_, .int .i64 s.way, .int .i64 long, .slice a n1 c1, .slice o n2 c2] 40)) := (by repeat (first | with_reducible exact Below.refl _ _ | refine Below.setCell ?_ (by first | omega | (simp <;> omega) | (simp [World.setCell] <;> omega)) _ | refine Below.alloc ?_ (by first | omega | (simp <;> omega) | (simp [World.setCell] <;> omega)) _ | refine Below.drew ?_ | refine below_draws ?_ _ | exact Below.refl _ _))
  refine (heldTrain_any s.piece s.at_ s.way long a n1 c1 k0 _ hn1 h0 (by omega) (hf.below hb0)).mono ?_
  rintro e w1 ⟨rfl, hb1⟩
  have hX1 : Boxed w1 w.heap.size [.int .i64 code, .int .i64 far, .int .i64 joint, .int .i64 s.piece, .int .i64 s.at_, .int .i64 s.way, .int .i64 long, .slice a n1 c1, .slice o n2 c2] := (boxed_alloc _ _ _).below hb1
  have x8 := hX1.2.1 8 _ rfl
  have xl := hX1.1
  have hbw1 := below_then hb0 hb1
  obtain ⟨k1, hk1⟩ : ∃ k1 : Int, k0 + ((n1 * 2 : Nat) : Int) = k1 := ⟨_, rfl⟩
  have hk1' : 0 ≤ k1 ∧ k1 ≤ 1000000000000000 := by omega
  have hn0 : ¬ k1 < 0 := by omega
  have hg1 := hg.below hbw1
  rw [hk1] at hg1 ⊢
  have HK1 := hide hk1
  clear hk1
  go_wp2_with fail
  refine (heldPartS_any o n2 c2 k1 _ hn2 hk1'.1 hk1'.2 hg1).mono ?_
  rintro e w2 ⟨rfl, rfl⟩
  have hn2' : ¬ k1 + ((n2 * 3 : Nat) : Int) < 0 := by omega
  go_wp2
  go_ret
  rw [unhide HK1]
  exact ⟨rfl, hbw1⟩
end Go.Proofs.YtbdggfpfpjijoabGreatDoor

namespace Go.Proofs.YtbdggfpfpjijoabGreatDoor
open Go.RowKit

/-- What Move answers, as plain data. -/
structure MvA where
  code : Int
  far : Int
  joint : Int
  tr : Tr
  over : List Pt
def noMv : MvA := ⟨5, 0, 0, ⟨⟨0, 0, 0⟩, 0, []⟩, []⟩
def MvIs (n : Nt) (zs : List Int) (t : Tr) (F : Int) (u : MvA) : Prop :=
  (OutOk n zs t F ∧ ∃ m : Mv, u.tr = ⟨m.s, t.long, m.xs⟩ ∧ u.far = m.far ∧ u.over = m.over ∧ RunIs n zs t.long F ⟨t.front, t.back, 0, []⟩ m u.code u.joint) ∨ (¬ OutOk n zs t F ∧ u = noMv)

theorem runIs_unique {n : Nt} (hG : NetGood n) {zs : List Int} {long F : Int} (hl : 0 < long) {m0 : Mv} (h0 : MvOk n long F m0) {m m' : Mv} {c j c' j' : Int} (h : RunIs n zs long F m0 m c j) (g : RunIs n zs long F m0 m' c' j') : m = m' ∧ c = c' ∧ j = j' := by
  rcases h with ⟨h1, h2, h3⟩ | ⟨h1, rfl, rfl, rfl⟩ <;> rcases g with ⟨g1, g2, g3⟩ | ⟨g1, rfl, rfl, rfl⟩
  · exact end_unique hG hl h0 h2 h3 g2 g3
  · exact absurd h1 g1
  · exact absurd g1 h1
  · exact ⟨rfl, rfl, rfl⟩

theorem MvIs.unique {n : Nt} {zs : List Int} {t : Tr} {F : Int} {u u' : MvA} (h : MvIs n zs t F u) (g : MvIs n zs t F u') : u = u' := by
  rcases h with ⟨h1, m, e1, e2, e3, e4⟩ | ⟨h1, rfl⟩ <;> rcases g with ⟨g1, m', d1, d2, d3, d4⟩ | ⟨g1, rfl⟩
  · obtain ⟨rfl, hc, hj⟩ := runIs_unique (netGood h1.1.1) (show 0 < t.long by have := h1.1.2.2.1.1; omega) (fits_mv h1.1.2 h1.2.2.1) e4 d4
    cases u
    cases u'
    simp only at e1 e2 e3 d1 d2 d3 hc hj
    rw [e1, e2, e3, d1, d2, d3, hc, hj]
  · exact absurd h1 g1
  · exact absurd g1 h1
  · rfl

theorem MvIs.len {n : Nt} {zs : List Int} {t : Tr} {F : Int} {u : MvA} (h : MvIs n zs t F u) : u.tr.back.length ≤ 200 ∧ u.over.length ≤ 10000 := by
  rcases h with ⟨h1, m, e1, e2, e3, e4⟩ | ⟨_, rfl⟩
  · have h0 := fits_mv h1.1.2 h1.2.2.1
    have hm : MvOk n t.long F m := by
      rcases e4 with ⟨_, hg, _⟩ | ⟨_, rfl, _⟩
      · exact hg.ok (netGood h1.1.1) (by have := h1.1.2.2.1.1; omega) h0
      · exact h0
    rw [e1, e3]
    have k1 := hm.len
    have k2 := hm.over
    have k3 := hm.farF
    have k4 := h1.2.2.2
    exact ⟨k1, by omega⟩
  · simp [noMv]

theorem mv_of {n : Nt} {zs : List Int} {t : Tr} {F : Int} {N : Nat} {e : Ending} {w' : World} (h : MovedIs n zs t F N e w') : ∃ (u : MvA) (pa : Option Addr) (pc : Nat) (oa : Option Addr) (oc : Nat), MvIs n zs t F u
    ∧ e = .returned (.agg #[.int .i64 u.code, .int .i64 u.far, .int .i64 u.joint, .int .i64 u.tr.front.piece, .int .i64 u.tr.front.at_, .int .i64 u.tr.front.way, .int .i64 u.tr.long, .slice pa u.tr.back.length pc, .slice oa u.over.length oc])
    ∧ StRow w' N (.slice pa u.tr.back.length pc) u.tr.back ∧ PtRow w' N (.slice oa u.over.length oc) u.over := by
  rcases h with ⟨h1, m, code, joint, ba, bc, oa, oc, rfl, h2, h3, h4⟩ | ⟨h1, rfl⟩
  · exact ⟨⟨code, m.far, joint, ⟨m.s, t.long, m.xs⟩, m.over⟩, ba, bc, oa, oc, Or.inl ⟨h1, m, rfl, rfl, rfl, h2⟩, rfl, h3, h4⟩
  · exact ⟨noMv, none, 0, none, 0, Or.inr ⟨h1, rfl⟩, rfl, Row.nil _ _ _ _ _, Row.nil _ _ _ _ _⟩

/-- The package's own variable, as it is laid. -/
def GlobAt (w : World) : Prop := 0 < w.heap.size ∧ w.cell? ⟨0, 0, none⟩ = some (.iface 273 (.agg #[.pointer (some ⟨4, 98, none⟩)]))
theorem GlobAt.below {w w' : World} (h : GlobAt w) (hb : Below w.heap.size w w') : GlobAt w' := ⟨Nat.lt_of_lt_of_le h.1 hb.size, (hb.cell h.1).trans h.2⟩

theorem specMove_law (v tv : Value) (n : Nt) (zq : Option Addr) (zs : List Int) (zc : Nat) (t : Tr) (F : Int) (w : World) {L L' L'' : Nat} (hv : NetAt L w v n) (hz : IntsAt L' w zq zs) (htv : TrAt L'' w tv t) (hbl : t.back.length ≤ 1048576)
    (hl : n.pieces.length ≤ 1048576) (hl' : n.joints.length ≤ 1048576) (hle : ∀ i (h : i < n.joints.length), n.joints[i].ends.length ≤ 1048576 ∧ n.joints[i].name.size ≤ maxLen) (hnm : ∀ i (h : i < n.pieces.length), n.pieces[i].name.size ≤ maxLen) :
    Calls Tryz.prog 8 #[v, .slice zq zs.length zc, tv, .int .i64 F] w fun e w' => (∃ (u : MvA) (pa : Option Addr) (pc : Nat) (oa : Option Addr) (oc : Nat), MvIs n zs t F u
    ∧ e = .returned (.agg #[.int .i64 u.code, .int .i64 u.far, .int .i64 u.joint, .int .i64 u.tr.front.piece, .int .i64 u.tr.front.at_, .int .i64 u.tr.front.way, .int .i64 u.tr.long, .slice pa u.tr.back.length pc, .slice oa u.over.length oc])
    ∧ StRow w' w.heap.size (.slice pa u.tr.back.length pc) u.tr.back ∧ PtRow w' w.heap.size (.slice oa u.over.length oc) u.over) ∧ Below w.heap.size w w' := by
  obtain ⟨a, cap, rfl, hst⟩ := htv
  exact (specMove_any v n a cap zq zs zc t F w hv (hst.mono (Nat.zero_le _)) hz hbl hl hl' hle hnm).mono fun e w' h => ⟨mv_of h.1, h.2⟩

theorem implMove_law (v : Value) (n : Nt) (t : Tr) (ba : Option Addr) (bc : Nat) (zq : Option Addr) (zs : List Int) (zc : Nat) (F : Int) (w : World) {L L' : Nat} (hv : NetAt L w v n) (hz : IntsAt L' w zq zs) (hst : StsAt 0 w ba t.back) (hg : GlobAt w) (hcap : t.back.length ≤ bc) (hbl : t.back.length ≤ 1048576)
    (hl : n.pieces.length ≤ 1048576) (hl' : n.joints.length ≤ 1048576) (hle : ∀ i (h : i < n.joints.length), n.joints[i].name.size ≤ maxLen) (hnm : ∀ i (h : i < n.pieces.length), n.pieces[i].name.size ≤ maxLen) :
    Calls Tryz.prog 12 #[v, .slice zq zs.length zc, .agg #[.int .i64 t.front.piece, .int .i64 t.front.at_, .int .i64 t.front.way, .int .i64 t.long, .slice ba t.back.length bc], .int .i64 F] w fun e w' => (∃ (u : MvA) (pa : Option Addr) (pc : Nat) (oa : Option Addr) (oc : Nat), MvIs n zs t F u
    ∧ e = .returned (.agg #[.int .i64 u.code, .int .i64 u.far, .int .i64 u.joint, .int .i64 u.tr.front.piece, .int .i64 u.tr.front.at_, .int .i64 u.tr.front.way, .int .i64 u.tr.long, .slice pa u.tr.back.length pc, .slice oa u.over.length oc])
    ∧ StRow w' w.heap.size (.slice pa u.tr.back.length pc) u.tr.back ∧ PtRow w' w.heap.size (.slice oa u.over.length oc) u.over) ∧ Below w.heap.size w w' := by
  obtain ⟨a, c, ca, cc, rfl, hp, hj⟩ := hv
  exact (implMove_any a c ca cc n t ba bc zq zs zc F w hp hj hst hz hcap hbl hl hl' hle hnm hg.2).mono fun e w' h => ⟨mv_of h.1, h.2⟩
end Go.Proofs.YtbdggfpfpjijoabGreatDoor

