import Derived.Test.YtbdggfpfpjijoaaGreatDoorSpec21
import Derived.Test.YtbdggfpfpjijoaaGreatDoorMKt35
import Derived.Test.YtbdggfpfpjijoaaGreatDoorMPlain2
namespace Go.Proofs.YtbdggfpfpjijoaaGreatDoor
open Go.RowKit

set_option maxRecDepth 100000 in
set_option maxHeartbeats 8000000 in
theorem specMove_any (v : Value) (n : Nt) (ba0 : Option Addr) (bc0 : Nat) (zq : Option Addr) (zs : List Int) (zc : Nat) (t : Tr) (F : Int) (w : World) {L L' : Nat} (hv : NetAt L w v n) (hst : StsAt 0 w ba0 t.back) (hz : IntsAt L' w zq zs) (hbl : t.back.length ≤ 1048576)
  (hl : n.pieces.length ≤ 1048576) (hl' : n.joints.length ≤ 1048576) (hle : ∀ i (h : i < n.joints.length), n.joints[i].ends.length ≤ 1048576 ∧ n.joints[i].name.size ≤ maxLen) (hnm : ∀ i (h : i < n.pieces.length), n.pieces[i].name.size ≤ maxLen) :
  Calls Tryz.prog 10 #[v, .slice zq zs.length zc, .agg #[.int .i64 t.front.piece, .int .i64 t.front.at_, .int .i64 t.front.way, .int .i64 t.long, .slice ba0 t.back.length bc0], .int .i64 F] w fun e w' => MovedIs n zs t F w.heap.size e w' ∧ Below w.heap.size w w' := by
 have hvv := hv
 obtain ⟨x, c, ca, cc, rfl, hp, hj⟩ := hv
 go_enter Tryz.func10, Tryz.ntmps10
 go_wp2_with fail
 refine (l3good_any _ _ n zq zs zc t F _ (hvv.below ?_) (hz.below ?_) ⟨ba0, bc0, rfl, hst.below ?_⟩ hl hl' hle hnm hbl).mono ?_
 ·exact bw0
 ·exact bw0
 ·exact bw0
 rintro e w1 ⟨hR, hb1⟩
 have hbw1 : Below w.heap.size w w1 := below_then bw0 hb1
 have hn1 : Boxed w1 w.heap.size [.slice x n.pieces.length ca, .slice c n.joints.length cc] := (((boxed_alloc _ _ _).alloc _).alloc _).below hb1
 have ht1 : Boxed w1 (w.heap.size + 1) [.int .i64 t.front.piece, .int .i64 t.front.at_, .int .i64 t.front.way, .int .i64 t.long, .slice ba0 t.back.length bc0] := ((boxedN _ _ _ (by simp)).alloc _).below hb1
 have hr1 : Boxed w1 (w.heap.size + 1 + 1) [.int .i64 0, .int .i64 0, .int .i64 0, .int .i64 0, .int .i64 0, .int .i64 0, .int .i64 0, .slice none 0 0, .slice none 0 0] := (boxedN _ _ _ (by simp)).below hb1
 have hrl := hr1.1
 rcases hR with ⟨rfl, hR⟩ | ⟨rfl, hR⟩
 ·have hG := netGood hR.1.1
  have HR := hide hR
  clear hR
  have p0 := hn1.2.1 0 _ rfl
  have p1 := hn1.2.1 1 _ rfl
  have p2 := ht1.2.1 0 _ rfl
  have p3 := ht1.2.1 1 _ rfl
  have p4 := ht1.2.1 2 _ rfl
  have p5 := ht1.2.1 3 _ rfl
  have p6 := ht1.2.1 4 _ rfl
  go_wp2_with fail
  refine (l3move_any _ n ba0 bc0 zq zs zc t F _ (hvv.below hbw1) (hst.below hbw1) (hz.below hbw1) hG (unhide HR).1.2 (unhide HR).2.1 (unhide HR).2.2).mono ?_
  rintro e w2 ⟨⟨m, code, joint, ba1, bc1, oa, oc, rfl, hrun, hbk, hrow⟩, hb2⟩
  clear p0 p1 p2 p3 p4 p5 p6
  have hr2 := hr1.below hb2
  have hrf := (((((((((hr2.setAt (i := 0) (by simp) (.int .i64 code)).setAt (i := 1) (by simp) (.int .i64 m.far)).setAt (i := 2) (by simp) (.int .i64 joint)).setAt (i := 3) (by simp) (.int .i64 m.s.piece)).setAt (i := 4) (by simp) (.int .i64 m.s.at_)).setAt (i := 5) (by simp) (.int .i64 m.s.way)).setAt (i := 6) (by simp) (.int .i64 t.long)).setAt (i := 7) (by simp) (.slice ba1 m.xs.length bc1)).setAt (i := 8) (by simp) (.slice oa m.over.length oc))
  have hof := (((((((((only_setCell (S := fun k => k = w.heap.size + 1 + 1) w2 (p := ⟨w.heap.size + 1 + 1, 0, none⟩) rfl (.int .i64 code)).trans (only_setCell (S := fun k => k = w.heap.size + 1 + 1) _ (p := ⟨w.heap.size + 1 + 1, 1, none⟩) rfl (.int .i64 m.far))).trans (only_setCell (S := fun k => k = w.heap.size + 1 + 1) _ (p := ⟨w.heap.size + 1 + 1, 2, none⟩) rfl (.int .i64 joint))).trans (only_setCell (S := fun k => k = w.heap.size + 1 + 1) _ (p := ⟨w.heap.size + 1 + 1, 3, none⟩) rfl (.int .i64 m.s.piece))).trans (only_setCell (S := fun k => k = w.heap.size + 1 + 1) _ (p := ⟨w.heap.size + 1 + 1, 4, none⟩) rfl (.int .i64 m.s.at_))).trans (only_setCell (S := fun k => k = w.heap.size + 1 + 1) _ (p := ⟨w.heap.size + 1 + 1, 5, none⟩) rfl (.int .i64 m.s.way))).trans (only_setCell (S := fun k => k = w.heap.size + 1 + 1) _ (p := ⟨w.heap.size + 1 + 1, 6, none⟩) rfl (.int .i64 t.long))).trans (only_setCell (S := fun k => k = w.heap.size + 1 + 1) _ (p := ⟨w.heap.size + 1 + 1, 7, none⟩) rfl (.slice ba1 m.xs.length bc1))).trans (only_setCell (S := fun k => k = w.heap.size + 1 + 1) _ (p := ⟨w.heap.size + 1 + 1, 8, none⟩) rfl (.slice oa m.over.length oc)))
  have hbw2 := below_then hbw1 hb2
  have hszb := hbw1.size
  have HST := hide (hbk.only hof (fun k hk (he : k = w.heap.size + 1 + 1) => by have := (hbk.lt k hk).1; omega))
  have HPT := hide (hrow.only hof (fun k hk (he : k = w.heap.size + 1 + 1) => by have := (hrow.lt k hk).1; omega))
  have HBF := hide (hbw2.trans (hof.below hbw2.size (fun k hk (he : k = w.heap.size + 1 + 1) => by omega)))
  have HRF := hide hrf
  have HRUN := hide hrun
  have r0 := hr2.2.1 0 _ rfl
  have r1 := hr2.2.1 1 _ rfl
  have r2 := hr2.2.1 2 _ rfl
  have r3 := hr2.2.1 3 _ rfl
  have r4 := hr2.2.1 4 _ rfl
  have r5 := hr2.2.1 5 _ rfl
  have r6 := hr2.2.1 6 _ rfl
  have r7 := hr2.2.1 7 _ rfl
  have r8 := hr2.2.1 8 _ rfl
  have rz := hr2.2.2
  have rl := hr2.1
  clear hrf hof hrun hbk hrow
  unfold movedV
  go_wp2
  have hrf := unhide HRF
  have f0 := hrf.2.1 0 _ rfl
  have f1 := hrf.2.1 1 _ rfl
  have f2 := hrf.2.1 2 _ rfl
  have f3 := hrf.2.1 3 _ rfl
  have f4 := hrf.2.1 4 _ rfl
  have f5 := hrf.2.1 5 _ rfl
  have f6 := hrf.2.1 6 _ rfl
  have f7 := hrf.2.1 7 _ rfl
  have f8 := hrf.2.1 8 _ rfl
  exact bodyPost_ret (v := movedV code m.far joint m.s t.long (.slice ba1 m.xs.length bc1) (.slice oa m.over.length oc)) (by simp [results, Tryz.results10, go_sem, f0, f1, f2, f3, f4, f5, f6, f7, f8, movedV]) rfl ⟨Or.inl ⟨⟨⟨(unhide HR).1.1, (unhide HR).2.1⟩, (unhide HR).1.2, (unhide HR).2.2⟩, m, code, joint, ba1, bc1, oa, oc, rfl, unhide HRUN, (unhide HST).mono (by omega), (unhide HPT).mono (by omega)⟩, unhide HBF⟩
 ·have HN : Hid (¬ OutOk n zs t F) := fun h => hR ⟨⟨h.1.1, h.2.1⟩, h.1.2, h.2.2⟩
  clear hR
  have r0 := hr1.2.1 0 _ rfl
  have r1 := hr1.2.1 1 _ rfl
  have r2 := hr1.2.1 2 _ rfl
  have r3 := hr1.2.1 3 _ rfl
  have r4 := hr1.2.1 4 _ rfl
  have r5 := hr1.2.1 5 _ rfl
  have r6 := hr1.2.1 6 _ rfl
  have r7 := hr1.2.1 7 _ rfl
  have r8 := hr1.2.1 8 _ rfl
  have rz := hr1.2.2
  go_wp2
  exact bodyPost_ret (v := movedV 5 0 0 ⟨0, 0, 0⟩ 0 (.slice none 0 0) (.slice none 0 0)) (by simp [results, Tryz.results10, go_sem, r0, r1, r2, r3, r4, r5, r6, r7, r8, movedV]) rfl ⟨Or.inr ⟨unhide HN, rfl⟩, (bw1 hbw1)⟩
end Go.Proofs.YtbdggfpfpjijoaaGreatDoor

namespace Go.Proofs.YtbdggfpfpjijoaaGreatDoor
open Go.RowKit

end Go.Proofs.YtbdggfpfpjijoaaGreatDoor
namespace Go.Proofs.YtbdggfpfpjijoaaGreatDoor
open Go.RowKit

structure MvA where
 code : Int
 far : Int
 joint : Int
 tr : Tr
 over : List Pt
def noMv : MvA := ⟨5, 0, 0, ⟨⟨0, 0, 0⟩, 0, []⟩, []⟩
def MvIs (n : Nt) (zs : List Int) (t : Tr) (F : Int) (u : MvA) : Prop :=
 (OutOk n zs t F ∧ ∃ m : Mv, u.tr = ⟨m.s, t.long, m.xs⟩ ∧ u.far = m.far ∧ u.over = m.over ∧ RunIs n zs t.long F ⟨t.front, t.back, 0, []⟩ m u.code u.joint) ∨ (¬ OutOk n zs t F ∧ u = noMv)

theorem runIs_unique {n : Nt} (hG : NetGood n) {zs : List Int} {long F : Int} (hl : 0 < long) {m0 : Mv} (h0 : MvOk n long F m0) {m m' : Mv} {c j c' j' : Int} (h : RunIs n zs long F m0 m c j) (g : RunIs n zs long F m0 m' c' j') : m = m' ∧ c = c' ∧ j = j' := by
 rcases h with ⟨h1, h2, h3⟩ | ⟨h1, rfl, rfl, rfl⟩ <;> rcases g with ⟨g1, g2, g3⟩ | ⟨g1, rfl, rfl, rfl⟩
 ·exact end_unique hG hl h0 h2 h3 g2 g3
 ·exact absurd h1 g1
 ·exact absurd g1 h1
 ·exact ⟨rfl, rfl, rfl⟩

theorem MvIs.unique {n : Nt} {zs : List Int} {t : Tr} {F : Int} {u u' : MvA} (h : MvIs n zs t F u) (g : MvIs n zs t F u') : u = u' := by
 rcases h with ⟨h1, m, e1, e2, e3, e4⟩ | ⟨h1, rfl⟩ <;> rcases g with ⟨g1, m', d1, d2, d3, d4⟩ | ⟨g1, rfl⟩
 ·obtain ⟨rfl, hc, hj⟩ := runIs_unique (netGood h1.1.1) (show 0 < t.long by have := h1.1.2.2.1.1; omega) (fits_mv h1.1.2 h1.2.2.1) e4 d4
  cases u
  cases u'
  simp only at e1 e2 e3 d1 d2 d3 hc hj
  rw [e1, e2, e3, d1, d2, d3, hc, hj]
 ·exact absurd h1 g1
 ·exact absurd g1 h1
 ·rfl

theorem MvIs.len {n : Nt} {zs : List Int} {t : Tr} {F : Int} {u : MvA} (h : MvIs n zs t F u) : u.tr.back.length ≤ 200 ∧ u.over.length ≤ 10000 := by
 rcases h with ⟨h1, m, e1, e2, e3, e4⟩ | ⟨_, rfl⟩
 ·have h0 := fits_mv h1.1.2 h1.2.2.1
  have hm : MvOk n t.long F m := by
   rcases e4 with ⟨_, hg, _⟩ | ⟨_, rfl, _⟩
   ·exact hg.ok (netGood h1.1.1) (by have := h1.1.2.2.1.1; omega) h0
   ·exact h0
  rw [e1, e3]
  have k1 := hm.len
  have k2 := hm.over
  have k3 := hm.farF
  have k4 := h1.2.2.2
  exact ⟨k1, by omega⟩
 ·simp [noMv]

theorem mv_of {n : Nt} {zs : List Int} {t : Tr} {F : Int} {N : Nat} {e : Ending} {w' : World} (h : MovedIs n zs t F N e w') : ∃ (u : MvA) (pa : Option Addr) (pc : Nat) (oa : Option Addr) (oc : Nat), MvIs n zs t F u
  ∧ e = .returned (.agg #[.int .i64 u.code, .int .i64 u.far, .int .i64 u.joint, .int .i64 u.tr.front.piece, .int .i64 u.tr.front.at_, .int .i64 u.tr.front.way, .int .i64 u.tr.long, .slice pa u.tr.back.length pc, .slice oa u.over.length oc])
  ∧ StRow w' N (.slice pa u.tr.back.length pc) u.tr.back ∧ PtRow w' N (.slice oa u.over.length oc) u.over := by
 rcases h with ⟨h1, m, code, joint, ba, bc, oa, oc, rfl, h2, h3, h4⟩ | ⟨h1, rfl⟩
 ·exact ⟨⟨code, m.far, joint, ⟨m.s, t.long, m.xs⟩, m.over⟩, ba, bc, oa, oc, Or.inl ⟨h1, m, rfl, rfl, rfl, h2⟩, rfl, h3, h4⟩
 ·exact ⟨noMv, none, 0, none, 0, Or.inr ⟨h1, rfl⟩, rfl, Row.nil _ _ _ _ _, Row.nil _ _ _ _ _⟩

def GlobAt (w : World) : Prop := 0 < w.heap.size ∧ w.cell? ⟨0, 0, none⟩ = some (.iface 267 (.agg #[.pointer (some ⟨4, 96, none⟩)]))
theorem GlobAt.below {w w' : World} (h : GlobAt w) (hb : Below w.heap.size w w') : GlobAt w' := ⟨Nat.lt_of_lt_of_le h.1 hb.size, (hb.cell h.1).trans h.2⟩

theorem specMove_law (v tv : Value) (n : Nt) (zq : Option Addr) (zs : List Int) (zc : Nat) (t : Tr) (F : Int) (w : World) {L L' L'' : Nat} (hv : NetAt L w v n) (hz : IntsAt L' w zq zs) (htv : TrAt L'' w tv t) (hbl : t.back.length ≤ 1048576)
  (hl : n.pieces.length ≤ 1048576) (hl' : n.joints.length ≤ 1048576) (hle : ∀ i (h : i < n.joints.length), n.joints[i].ends.length ≤ 1048576 ∧ n.joints[i].name.size ≤ maxLen) (hnm : ∀ i (h : i < n.pieces.length), n.pieces[i].name.size ≤ maxLen) :
  Calls Tryz.prog 10 #[v, .slice zq zs.length zc, tv, .int .i64 F] w fun e w' => (∃ (u : MvA) (pa : Option Addr) (pc : Nat) (oa : Option Addr) (oc : Nat), MvIs n zs t F u
  ∧ e = .returned (.agg #[.int .i64 u.code, .int .i64 u.far, .int .i64 u.joint, .int .i64 u.tr.front.piece, .int .i64 u.tr.front.at_, .int .i64 u.tr.front.way, .int .i64 u.tr.long, .slice pa u.tr.back.length pc, .slice oa u.over.length oc])
  ∧ StRow w' w.heap.size (.slice pa u.tr.back.length pc) u.tr.back ∧ PtRow w' w.heap.size (.slice oa u.over.length oc) u.over) ∧ Below w.heap.size w w' := by
 obtain ⟨a, cap, rfl, hst⟩ := htv
 exact (specMove_any v n a cap zq zs zc t F w hv (hst.mono (Nat.zero_le _)) hz hbl hl hl' hle hnm).mono fun e w' h => ⟨mv_of h.1, h.2⟩

theorem implMove_law (v : Value) (n : Nt) (t : Tr) (ba : Option Addr) (bc : Nat) (zq : Option Addr) (zs : List Int) (zc : Nat) (F : Int) (w : World) {L L' : Nat} (hv : NetAt L w v n) (hz : IntsAt L' w zq zs) (hst : StsAt 0 w ba t.back) (hg : GlobAt w) (hcap : t.back.length ≤ bc) (hbl : t.back.length ≤ 1048576)
  (hl : n.pieces.length ≤ 1048576) (hl' : n.joints.length ≤ 1048576) (hle : ∀ i (h : i < n.joints.length), n.joints[i].name.size ≤ maxLen) (hnm : ∀ i (h : i < n.pieces.length), n.pieces[i].name.size ≤ maxLen) :
  Calls Tryz.prog 9 #[v, .slice zq zs.length zc, .agg #[.int .i64 t.front.piece, .int .i64 t.front.at_, .int .i64 t.front.way, .int .i64 t.long, .slice ba t.back.length bc], .int .i64 F] w fun e w' => (∃ (u : MvA) (pa : Option Addr) (pc : Nat) (oa : Option Addr) (oc : Nat), MvIs n zs t F u
  ∧ e = .returned (.agg #[.int .i64 u.code, .int .i64 u.far, .int .i64 u.joint, .int .i64 u.tr.front.piece, .int .i64 u.tr.front.at_, .int .i64 u.tr.front.way, .int .i64 u.tr.long, .slice pa u.tr.back.length pc, .slice oa u.over.length oc])
  ∧ StRow w' w.heap.size (.slice pa u.tr.back.length pc) u.tr.back ∧ PtRow w' w.heap.size (.slice oa u.over.length oc) u.over) ∧ Below w.heap.size w w' := by
 obtain ⟨a, c, ca, cc, rfl, hp, hj⟩ := hv
 exact (implMove_any a c ca cc n t ba bc zq zs zc F w hp hj hst hz hcap hbl hl hl' hle hnm hg.2).mono fun e w' h => ⟨mv_of h.1, h.2⟩
end Go.Proofs.YtbdggfpfpjijoaaGreatDoor

