import Derived.Test.YtbdggfpfpjijoaaGreatDoorMFe1
import Derived.Test.YtbdggfpfpjijoaaGreatDoorDr14
import Derived.Test.YtbdggfpfpjijoaaGreatDoorMKt17
import Derived.Test.YtbdggfpfpjijoaaGreatDoorMQ1
import Derived.Test.YtbdggfpfpjijoaaGreatDoorMReadBy
set_option linter.unusedSimpArgs false
namespace Go.Proofs.YtbdggfpfpjijoaaGreatDoor
open Go.RowKit

structure Nw (n : Nt) (zs : List Int) (a1 a2 zq : Option Addr) (k1 k2 N : Nat) (w : World) : Prop where
 net : NetAt 0 w (.agg #[.slice a1 n.pieces.length k1, .slice a2 n.joints.length k2]) n
 lies : IntsAt 0 w zq zs
 bn : Boxed w N [.slice a1 n.pieces.length k1, .slice a2 n.joints.length k2]
theorem Nw.below {n : Nt} {zs : List Int} {a1 a2 zq : Option Addr} {k1 k2 N : Nat} {w w' : World} (h : Nw n zs a1 a2 zq k1 k2 N w) (hb : Below w.heap.size w w') : Nw n zs a1 a2 zq k1 k2 N w' :=
 ⟨h.net.below hb, IntsAt.below h.lies hb, h.bn.below hb⟩
structure Ts0 (t : Tr) (ta : Option Addr) (tc : Nat) (w : World) : Prop where
 sts : StsAt 0 w ta t.back
 cap : t.back.length ≤ tc
structure Tw (t : Tr) (ta : Option Addr) (tc T : Nat) (w : World) : Prop where
 s : Ts0 t ta tc w
 bt : Boxed w T [.int .i64 t.front.piece, .int .i64 t.front.at_, .int .i64 t.front.way, .int .i64 t.long, .slice ta t.back.length tc]
theorem Ts0.below {t : Tr} {ta : Option Addr} {tc : Nat} {w w' : World} (h : Ts0 t ta tc w) (hb : Below w.heap.size w w') : Ts0 t ta tc w' := ⟨h.sts.below hb, h.cap⟩
theorem Tw.below {t : Tr} {ta : Option Addr} {tc T : Nat} {w w' : World} (h : Tw t ta tc T w) (hb : Below w.heap.size w w') : Tw t ta tc T w' := ⟨h.s.below hb, h.bt.below hb⟩
theorem Ts0.tr {t : Tr} {ta : Option Addr} {tc : Nat} {w : World} (h : Ts0 t ta tc w) : TrAt 0 w (trV t ta tc) t := ⟨ta, tc, rfl, h.sts⟩
theorem stRow_ts0 {w : World} {base : Nat} {t : Tr} {a : Option Addr} {cap : Nat} (h : StRow w base (.slice a t.back.length cap) t.back) : Ts0 t a cap w := by
 obtain ⟨a', cap', e, hcap, hc⟩ := Row.shape (f := stF) (sz := 2) (fun _ => rfl) h
 simp at e
 obtain ⟨rfl, rfl⟩ := e
 refine ⟨fun i hi => ?_, hcap⟩
 obtain ⟨g, rfl, hl, hcell⟩ := hc i hi
 exact ⟨g, 0, rfl, ⟨Nat.zero_le _, hl.2⟩, by simpa [stF] using hcell 0 (by omega), by simpa [stF] using hcell 1 (by omega)⟩
theorem Tw.box {t : Tr} {ta : Option Addr} {tc : Nat} {w : World} (h : Ts0 t ta tc w) (ty : TypeId) : Tw t ta tc w.heap.size (w.alloc (.cells #[.int .i64 t.front.piece, .int .i64 t.front.at_, .int .i64 t.front.way, .int .i64 t.long, .slice ta t.back.length tc] ty)) :=
 ⟨h.below bw0, boxed_alloc _ _ _⟩
theorem drawn_boxes {w w1 : World} {n : Nt} {zs : List Int} {t : Tr} {a1 a2 zq ta : Option Addr} {k1 k2 zc tc : Nat} (tn tt : TypeId) (hN : NetAt w.heap.size w1 (.agg #[.slice a1 n.pieces.length k1, .slice a2 n.joints.length k2]) n) (hZ : IRow w1 w.heap.size (.slice zq zs.length zc) zs) (hS : StRow w1 w.heap.size (.slice ta t.back.length tc) t.back) (hB : Below w.heap.size w w1) :
  ∃ N T w2, N = w1.heap.size ∧ T = w1.heap.size + 1 ∧ w2 = (w1.alloc (.cells #[.slice a1 n.pieces.length k1, .slice a2 n.joints.length k2] tn)).alloc (.cells #[.int .i64 t.front.piece, .int .i64 t.front.at_, .int .i64 t.front.way, .int .i64 t.long, .slice ta t.back.length tc] tt)
   ∧ Nw n zs a1 a2 zq k1 k2 N w2 ∧ Tw t ta tc T w2 ∧ Below w.heap.size w w2 := by
 refine ⟨_, _, _, rfl, rfl, rfl, ?_, ?_, ?_⟩
 ·have hb1 : Below w1.heap.size w1 (w1.alloc (.cells #[.slice a1 n.pieces.length k1, .slice a2 n.joints.length k2] tn)) := bw0
  have : Nw n zs a1 a2 zq k1 k2 w1.heap.size (w1.alloc (.cells #[.slice a1 n.pieces.length k1, .slice a2 n.joints.length k2] tn)) := ⟨(hN.mono (Nat.zero_le _)).below hb1, IntsAt.below (fun i hi => by obtain ⟨b, o, e, hl, hc⟩ := iRow_ints hZ i hi; exact ⟨b, o, e, ⟨Nat.zero_le _, hl.2⟩, hc⟩) hb1, boxed_alloc _ _ _⟩
  exact this.below bw0
 ·have hb1 : Below w1.heap.size w1 (w1.alloc (.cells #[.slice a1 n.pieces.length k1, .slice a2 n.joints.length k2] tn)) := bw0
  have h := Tw.box ((stRow_ts0 hS).below hb1) tt
  rw [show (w1.alloc (.cells #[.slice a1 n.pieces.length k1, .slice a2 n.joints.length k2] tn)).heap.size = w1.heap.size + 1 by simp] at h
  exact h
 ·exact hB.trans (Below.mono (B := w1.heap.size) bw0 hB.size)
theorem retB_val {p : Prop} {e : Ending} (h : RetB p e) {b : Bool} (hb : p ↔ b = true) : e = .returned (.bool b) := by
 rcases h with ⟨rfl, hp⟩ | ⟨rfl, hp⟩
 ·rw [hb.1 hp]
 ·cases b with
  | true => exact absurd (hb.2 rfl) hp
  | false => rfl

theorem dTrainI {n : Nt} {zs : List Int} {t : Tr} {a1 a2 zq ta : Option Addr} {k1 k2 N tc : Nat} {w : World} (hN : Nw n zs a1 a2 zq k1 k2 N w) (hT : Ts0 t ta tc w) (hsm : NtSmall n) (hbl : t.back.length ≤ 200) {b : Bool} (hb : TrainRight n t ↔ b = true) :
  Calls Tryz.prog 15 #[.agg #[.slice a1 n.pieces.length k1, .slice a2 n.joints.length k2], .agg #[.int .i64 t.front.piece, .int .i64 t.front.at_, .int .i64 t.front.way, .int .i64 t.long, .slice ta t.back.length tc]] w fun e w' => e = .returned (.bool b) ∧ Below w.heap.size w w' :=
 (implTrainOk_any _ n t ta tc w hN.net hT.sts hT.cap (by omega) (by have := hsm.pcs; omega) (by have := hsm.jts; omega) (fun i h => (hsm.hle i h).2) hsm.hnm).mono fun e w' h => ⟨retB_val h.1 hb, h.2⟩

theorem dTrainS {n : Nt} {zs : List Int} {t : Tr} {a1 a2 zq ta : Option Addr} {k1 k2 N tc : Nat} {w : World} (hN : Nw n zs a1 a2 zq k1 k2 N w) (hT : Ts0 t ta tc w) (hsm : NtSmall n) (hbl : t.back.length ≤ 200) {b : Bool} (hb : TrainRight n t ↔ b = true) :
  Calls Tryz.prog 30 #[.agg #[.slice a1 n.pieces.length k1, .slice a2 n.joints.length k2], .agg #[.int .i64 t.front.piece, .int .i64 t.front.at_, .int .i64 t.front.way, .int .i64 t.long, .slice ta t.back.length tc]] w fun e w' => e = .returned (.bool b) ∧ Below w.heap.size w w' :=
 (specTrainOk_any _ _ n t w hN.net hT.tr (by have := hsm.pcs; omega) (by have := hsm.jts; omega) hsm.hle hsm.hnm (by omega)).mono fun e w' h => ⟨retB_val h.1 hb, h.2⟩

theorem dBodyI {n : Nt} {zs : List Int} {t : Tr} {a1 a2 zq ta : Option Addr} {k1 k2 N tc : Nat} {w : World} (hN : Nw n zs a1 a2 zq k1 k2 N w) (hT : Ts0 t ta tc w) (hsm : NtSmall n) (hR : TrainRight n t) :
  Calls Tryz.prog 14 #[.agg #[.slice a1 n.pieces.length k1, .slice a2 n.joints.length k2], .agg #[.int .i64 t.front.piece, .int .i64 t.front.at_, .int .i64 t.front.way, .int .i64 t.long, .slice ta t.back.length tc]] w fun e w' => ∃ a k, e = .returned (.slice a (bodyParts n t).length k) ∧ PtsAt 0 w' a (bodyParts n t) ∧ Below w.heap.size w w' :=
 (implBody_any _ n t ta tc w hN.net hT.sts hT.cap (by have := hR.2.2.2.1; omega) (by have := hsm.pcs; omega) (by have := hsm.jts; omega) (fun i h => (hsm.hle i h).2) hsm.hnm).mono fun e w' ⟨⟨a, k, ps, hps, he, hrow⟩, hb⟩ => by
  rcases hps with ⟨_, rfl⟩ | ⟨h, _⟩
  ·exact ⟨a, k, he, ptRow_at0 hrow, hb⟩
  ·exact absurd hR h

theorem dBodyS {n : Nt} {zs : List Int} {t : Tr} {a1 a2 zq ta : Option Addr} {k1 k2 N tc : Nat} {w : World} (hN : Nw n zs a1 a2 zq k1 k2 N w) (hT : Ts0 t ta tc w) (hsm : NtSmall n) (hR : TrainRight n t) :
  Calls Tryz.prog 19 #[.agg #[.slice a1 n.pieces.length k1, .slice a2 n.joints.length k2], .agg #[.int .i64 t.front.piece, .int .i64 t.front.at_, .int .i64 t.front.way, .int .i64 t.long, .slice ta t.back.length tc]] w fun e w' => ∃ a k, e = .returned (.slice a (bodyParts n t).length k) ∧ PtsAt 0 w' a (bodyParts n t) ∧ Below w.heap.size w w' :=
 (specBody_any _ _ n t w hN.net hT.tr (by have := hsm.pcs; omega) (by have := hsm.jts; omega) hsm.hle hsm.hnm (by have := hR.2.2.2.1; omega)).mono fun e w' ⟨⟨a, k, ps, hps, he, hrow⟩, hb⟩ => by
  rcases hps with ⟨_, rfl⟩ | ⟨h, _⟩
  ·exact ⟨a, k, he, ptRow_at0 hrow, hb⟩
  ·exact absurd hR h

end Go.Proofs.YtbdggfpfpjijoaaGreatDoor

set_option linter.unusedSimpArgs false
namespace Go.Proofs.YtbdggfpfpjijoaaGreatDoor
open Go.RowKit

structure Ms0 (u : MvA) (pa : Option Addr) (pc : Nat) (oa : Option Addr) (w : World) : Prop where
 s : Ts0 u.tr pa pc w
 o : PtsAt 0 w oa u.over
structure Mw (u : MvA) (pa : Option Addr) (pc : Nat) (oa : Option Addr) (oc M : Nat) (w : World) : Prop where
 s : Ms0 u pa pc oa w
 b : Boxed w M [.int .i64 u.code, .int .i64 u.far, .int .i64 u.joint, .int .i64 u.tr.front.piece, .int .i64 u.tr.front.at_, .int .i64 u.tr.front.way, .int .i64 u.tr.long, .slice pa u.tr.back.length pc, .slice oa u.over.length oc]
theorem Ms0.below {u : MvA} {pa : Option Addr} {pc : Nat} {oa : Option Addr} {w w' : World} (h : Ms0 u pa pc oa w) (hb : Below w.heap.size w w') : Ms0 u pa pc oa w' := ⟨h.s.below hb, h.o.below hb⟩
theorem Mw.below {u : MvA} {pa : Option Addr} {pc : Nat} {oa : Option Addr} {oc M : Nat} {w w' : World} (h : Mw u pa pc oa oc M w) (hb : Below w.heap.size w w') : Mw u pa pc oa oc M w' := ⟨h.s.below hb, h.b.below hb⟩
theorem Mw.box {u : MvA} {pa : Option Addr} {pc : Nat} {oa : Option Addr} {w : World} (h : Ms0 u pa pc oa w) (oc : Nat) (ty : TypeId) : Mw u pa pc oa oc w.heap.size (w.alloc (.cells #[.int .i64 u.code, .int .i64 u.far, .int .i64 u.joint, .int .i64 u.tr.front.piece, .int .i64 u.tr.front.at_, .int .i64 u.tr.front.way, .int .i64 u.tr.long, .slice pa u.tr.back.length pc, .slice oa u.over.length oc] ty)) :=
 ⟨h.below bw0, boxed_alloc _ _ _⟩

theorem dMoveI {n : Nt} {zs : List Int} {t : Tr} {a1 a2 zq ta : Option Addr} {k1 k2 N tc zc : Nat} {F : Int} {w : World} (hN : Nw n zs a1 a2 zq k1 k2 N w) (hT : Ts0 t ta tc w) (hg : GlobAt w) (hsm : NtSmall n) (hbl : t.back.length ≤ 200) :
  Calls Tryz.prog 9 #[.agg #[.slice a1 n.pieces.length k1, .slice a2 n.joints.length k2], .slice zq zs.length zc, .agg #[.int .i64 t.front.piece, .int .i64 t.front.at_, .int .i64 t.front.way, .int .i64 t.long, .slice ta t.back.length tc], .int .i64 F] w fun e w' => ∃ (u : MvA) (pa : Option Addr) (pc : Nat) (oa : Option Addr) (oc : Nat), MvIs n zs t F u
   ∧ e = .returned (.agg #[.int .i64 u.code, .int .i64 u.far, .int .i64 u.joint, .int .i64 u.tr.front.piece, .int .i64 u.tr.front.at_, .int .i64 u.tr.front.way, .int .i64 u.tr.long, .slice pa u.tr.back.length pc, .slice oa u.over.length oc]) ∧ Ms0 u pa pc oa w' ∧ Below w.heap.size w w' :=
 (implMove_law _ n t ta tc zq zs zc F w hN.net hN.lies hT.sts hg hT.cap (by omega) (by have := hsm.pcs; omega) (by have := hsm.jts; omega) (fun i h => (hsm.hle i h).2) hsm.hnm).mono fun e w' ⟨⟨u, pa, pc, oa, oc, h1, h2, h3, h4⟩, hb⟩ => ⟨u, pa, pc, oa, oc, h1, h2, ⟨stRow_ts0 h3, ptRow_at0 h4⟩, hb⟩

theorem dMoveS {n : Nt} {zs : List Int} {t : Tr} {a1 a2 zq ta : Option Addr} {k1 k2 N tc zc : Nat} {F : Int} {w : World} (hN : Nw n zs a1 a2 zq k1 k2 N w) (hT : Ts0 t ta tc w) (hsm : NtSmall n) (hbl : t.back.length ≤ 200) {u : MvA} (hu : MvIs n zs t F u) :
  Calls Tryz.prog 10 #[.agg #[.slice a1 n.pieces.length k1, .slice a2 n.joints.length k2], .slice zq zs.length zc, .agg #[.int .i64 t.front.piece, .int .i64 t.front.at_, .int .i64 t.front.way, .int .i64 t.long, .slice ta t.back.length tc], .int .i64 F] w fun e w' => ∃ (pa : Option Addr) (pc : Nat) (oa : Option Addr) (oc : Nat),
   e = .returned (.agg #[.int .i64 u.code, .int .i64 u.far, .int .i64 u.joint, .int .i64 u.tr.front.piece, .int .i64 u.tr.front.at_, .int .i64 u.tr.front.way, .int .i64 u.tr.long, .slice pa u.tr.back.length pc, .slice oa u.over.length oc]) ∧ Ms0 u pa pc oa w' ∧ Below w.heap.size w w' :=
 (specMove_law _ _ n zq zs zc t F w hN.net hN.lies hT.tr (by omega) (by have := hsm.pcs; omega) (by have := hsm.jts; omega) hsm.hle hsm.hnm).mono fun e w' ⟨⟨u', pa, pc, oa, oc, h1, h2, h3, h4⟩, hb⟩ => by
  obtain rfl := h1.unique hu
  exact ⟨pa, pc, oa, oc, h2, ⟨stRow_ts0 h3, ptRow_at0 h4⟩, hb⟩

structure Bg (ms : List Int) (ma : Option Addr) (w : World) : Prop where
 by_ : BytesAt w.heap.size w ma ms
 gl : GlobAt w
theorem Bg.below {ms : List Int} {ma : Option Addr} {w w' : World} (h : Bg ms ma w) (hb : Below w.heap.size w w') : Bg ms ma w' :=
 ⟨fun i hi => by obtain ⟨b, o, e, h1, h2, h3⟩ := h.by_ i hi; exact ⟨b, o, e, ⟨Nat.lt_of_lt_of_le h1.1 hb.size, Nat.lt_of_lt_of_le h1.2 hb.size⟩, (hb.cell h1.2).trans h2, h3⟩, h.gl.below hb⟩
theorem fit_body {n : Nt} {t : Tr} (h : TrainRight n t) : ∀ x ∈ bodyParts n t, 0 ≤ x.fr ∧ x.fr ≤ x.to ∧ x.to ≤ 10000000 := fun x hx => by
 have h1 := (body_fits h).1.1 x hx
 have h2 := (netGood h.1).len h1.1.1 h1.1.2
 exact ⟨h1.2.1, h1.2.2.1, by have := h1.2.2.2; omega⟩

theorem mw_late {u : MvA} {pa : Option Addr} {pc : Nat} {oa : Option Addr} {oc B base : Nat} {w : World} (hZ : Boxed w B [.int .i64 0, .int .i64 0, .int .i64 0, .int .i64 0, .int .i64 0, .int .i64 0, .int .i64 0, .slice none 0 0, .slice none 0 0]) (hs : StRow w base (.slice pa u.tr.back.length pc) u.tr.back) (ho : PtRow w base (.slice oa u.over.length oc) u.over) (hB : B < base) :
  Mw u pa pc oa oc B (((((((((w.setCell ⟨B, 0, none⟩ (.int .i64 u.code)).setCell ⟨B, 1, none⟩ (.int .i64 u.far)).setCell ⟨B, 2, none⟩ (.int .i64 u.joint)).setCell ⟨B, 3, none⟩ (.int .i64 u.tr.front.piece)).setCell ⟨B, 4, none⟩ (.int .i64 u.tr.front.at_)).setCell ⟨B, 5, none⟩ (.int .i64 u.tr.front.way)).setCell ⟨B, 6, none⟩ (.int .i64 u.tr.long)).setCell ⟨B, 7, none⟩ (.slice pa u.tr.back.length pc)).setCell ⟨B, 8, none⟩ (.slice oa u.over.length oc)) := by
 have h1 := hs.lt
 have h2 := ho.lt
 refine ⟨⟨stRow_ts0 (base := base) (hs.block fun k hk => ?_), ptRow_at0 (base := base) (ho.block fun k hk => ?_)⟩, (((((((((hZ.set (i := 0) (by simp) (.int .i64 u.code)).set (i := 1) (by simp) (.int .i64 u.far)).set (i := 2) (by simp) (.int .i64 u.joint)).set (i := 3) (by simp) (.int .i64 u.tr.front.piece)).set (i := 4) (by simp) (.int .i64 u.tr.front.at_)).set (i := 5) (by simp) (.int .i64 u.tr.front.way)).set (i := 6) (by simp) (.int .i64 u.tr.long)).set (i := 7) (by simp) (.slice pa u.tr.back.length pc)).set (i := 8) (by simp) (.slice oa u.over.length oc))⟩
 ·have hne : k ≠ B := by have := (h1 k hk).1; omega
  rw [Below.heap_setCell _ _ _ k (by simpa using hne), Below.heap_setCell _ _ _ k (by simpa using hne), Below.heap_setCell _ _ _ k (by simpa using hne), Below.heap_setCell _ _ _ k (by simpa using hne), Below.heap_setCell _ _ _ k (by simpa using hne), Below.heap_setCell _ _ _ k (by simpa using hne), Below.heap_setCell _ _ _ k (by simpa using hne), Below.heap_setCell _ _ _ k (by simpa using hne), Below.heap_setCell _ _ _ k (by simpa using hne)]
 ·have hne : k ≠ B := by have := (h2 k hk).1; omega
  rw [Below.heap_setCell _ _ _ k (by simpa using hne), Below.heap_setCell _ _ _ k (by simpa using hne), Below.heap_setCell _ _ _ k (by simpa using hne), Below.heap_setCell _ _ _ k (by simpa using hne), Below.heap_setCell _ _ _ k (by simpa using hne), Below.heap_setCell _ _ _ k (by simpa using hne), Below.heap_setCell _ _ _ k (by simpa using hne), Below.heap_setCell _ _ _ k (by simpa using hne), Below.heap_setCell _ _ _ k (by simpa using hne)]
theorem below_late {u : MvA} {pa : Option Addr} {pc : Nat} {oa : Option Addr} {oc B M : Nat} {w0 w : World} (hw : Below M w0 w) (hB : M ≤ B) : Below M w0 (((((((((w.setCell ⟨B, 0, none⟩ (.int .i64 u.code)).setCell ⟨B, 1, none⟩ (.int .i64 u.far)).setCell ⟨B, 2, none⟩ (.int .i64 u.joint)).setCell ⟨B, 3, none⟩ (.int .i64 u.tr.front.piece)).setCell ⟨B, 4, none⟩ (.int .i64 u.tr.front.at_)).setCell ⟨B, 5, none⟩ (.int .i64 u.tr.front.way)).setCell ⟨B, 6, none⟩ (.int .i64 u.tr.long)).setCell ⟨B, 7, none⟩ (.slice pa u.tr.back.length pc)).setCell ⟨B, 8, none⟩ (.slice oa u.over.length oc)) := (((((((((hw.setCell (p := ⟨B, 0, none⟩) hB (.int .i64 u.code)).setCell (p := ⟨B, 1, none⟩) hB (.int .i64 u.far)).setCell (p := ⟨B, 2, none⟩) hB (.int .i64 u.joint)).setCell (p := ⟨B, 3, none⟩) hB (.int .i64 u.tr.front.piece)).setCell (p := ⟨B, 4, none⟩) hB (.int .i64 u.tr.front.at_)).setCell (p := ⟨B, 5, none⟩) hB (.int .i64 u.tr.front.way)).setCell (p := ⟨B, 6, none⟩) hB (.int .i64 u.tr.long)).setCell (p := ⟨B, 7, none⟩) hB (.slice pa u.tr.back.length pc)).setCell (p := ⟨B, 8, none⟩) hB (.slice oa u.over.length oc))

theorem dMoveR {n : Nt} {zs : List Int} {t : Tr} {a1 a2 zq ta : Option Addr} {k1 k2 N tc zc : Nat} {F : Int} {w : World} (hN : Nw n zs a1 a2 zq k1 k2 N w) (hT : Ts0 t ta tc w) (hg : GlobAt w) (hsm : NtSmall n) (hbl : t.back.length ≤ 200) :
  Calls Tryz.prog 9 #[.agg #[.slice a1 n.pieces.length k1, .slice a2 n.joints.length k2], .slice zq zs.length zc, .agg #[.int .i64 t.front.piece, .int .i64 t.front.at_, .int .i64 t.front.way, .int .i64 t.long, .slice ta t.back.length tc], .int .i64 F] w fun e w' => ∃ (u : MvA) (pa : Option Addr) (pc : Nat) (oa : Option Addr) (oc : Nat), MvIs n zs t F u
   ∧ e = .returned (.agg #[.int .i64 u.code, .int .i64 u.far, .int .i64 u.joint, .int .i64 u.tr.front.piece, .int .i64 u.tr.front.at_, .int .i64 u.tr.front.way, .int .i64 u.tr.long, .slice pa u.tr.back.length pc, .slice oa u.over.length oc]) ∧ (StRow w' w.heap.size (.slice pa u.tr.back.length pc) u.tr.back ∧ PtRow w' w.heap.size (.slice oa u.over.length oc) u.over) ∧ Below w.heap.size w w' :=
 (implMove_law _ n t ta tc zq zs zc F w hN.net hN.lies hT.sts hg hT.cap (by omega) (by have := hsm.pcs; omega) (by have := hsm.jts; omega) (fun i h => (hsm.hle i h).2) hsm.hnm).mono fun e w' ⟨⟨u, pa, pc, oa, oc, h1, h2, h3, h4⟩, hb⟩ => ⟨u, pa, pc, oa, oc, h1, h2, ⟨h3, h4⟩, hb⟩

end Go.Proofs.YtbdggfpfpjijoaaGreatDoor

