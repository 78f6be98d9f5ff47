import Derived.Test.YtbdggfpfpjijoaaGreatG38
import Derived.Test.YtbdggfpfpjijoaaGreatDr14
import Derived.Test.YtbdggfpfpjijoaaGreatG27
import Derived.Test.YtbdggfpfpjijoaaGreatG31
import Derived.Test.YtbdggfpfpjijoaaGreatG28
import Derived.Test.YtbdggfpfpjijoaaGreatBf
set_option linter.unusedSimpArgs false
namespace Go.Proofs.YtbdggfpfpjijoaaGreat
open Go.RowKit

/-! ### What a law over drawn trains holds in memory, and what the functions answer there -/

/-- The net and the switches. -/
structure Nw (n : Nt) (zs : List Int) (a1 a2 zq : Option Addr) (k1 k2 N : Nat) (w : World) : Prop where
  net : NetAt 0 w (.agg #[.slice a1 n.pieces.length k1, .slice a2 n.joints.length k2]) n
  lies : IntsAt 0 w zq zs
  bn : Boxed w N [.slice a1 n.pieces.length k1, .slice a2 n.joints.length k2]
theorem Nw.below {n : Nt} {zs : List Int} {a1 a2 zq : Option Addr} {k1 k2 N : Nat} {w w' : World} (h : Nw n zs a1 a2 zq k1 k2 N w) (hb : Below w.heap.size w w') : Nw n zs a1 a2 zq k1 k2 N w' :=
  ⟨h.net.below hb, IntsAt.below h.lies hb, h.bn.below hb⟩
/-- A train's own steps, and its box. -/
structure Ts0 (t : Tr) (ta : Option Addr) (tc : Nat) (w : World) : Prop where
  sts : StsAt 0 w ta t.back
  cap : t.back.length ≤ tc
structure Tw (t : Tr) (ta : Option Addr) (tc T : Nat) (w : World) : Prop where
  s : Ts0 t ta tc w
  bt : Boxed w T [.int .i64 t.front.piece, .int .i64 t.front.at_, .int .i64 t.front.way, .int .i64 t.long, .slice ta t.back.length tc]
theorem Ts0.below {t : Tr} {ta : Option Addr} {tc : Nat} {w w' : World} (h : Ts0 t ta tc w) (hb : Below w.heap.size w w') : Ts0 t ta tc w' := ⟨h.sts.below hb, h.cap⟩
theorem Tw.below {t : Tr} {ta : Option Addr} {tc T : Nat} {w w' : World} (h : Tw t ta tc T w) (hb : Below w.heap.size w w') : Tw t ta tc T w' := ⟨h.s.below hb, h.bt.below hb⟩
theorem Ts0.tr {t : Tr} {ta : Option Addr} {tc : Nat} {w : World} (h : Ts0 t ta tc w) : TrAt 0 w (trV t ta tc) t := ⟨ta, tc, rfl, h.sts⟩
theorem stRow_ts0 {w : World} {base : Nat} {t : Tr} {a : Option Addr} {cap : Nat} (h : StRow w base (.slice a t.back.length cap) t.back) : Ts0 t a cap w := by
  obtain ⟨a', cap', e, hcap, hc⟩ := Row.shape (f := stF) (sz := 2) (fun _ => rfl) h
  simp at e
  obtain ⟨rfl, rfl⟩ := e
  refine ⟨fun i hi => ?_, hcap⟩
  obtain ⟨g, rfl, hl, hcell⟩ := hc i hi
  exact ⟨g, 0, rfl, ⟨Nat.zero_le _, hl.2⟩, by simpa [stF] using hcell 0 (by omega), by simpa [stF] using hcell 1 (by omega)⟩
theorem Tw.box {t : Tr} {ta : Option Addr} {tc : Nat} {w : World} (h : Ts0 t ta tc w) (ty : TypeId) : Tw t ta tc w.heap.size (w.alloc (.cells #[.int .i64 t.front.piece, .int .i64 t.front.at_, .int .i64 t.front.way, .int .i64 t.long, .slice ta t.back.length tc] ty)) :=
  ⟨h.below bw0, boxed_alloc _ _ _⟩
/-- What a drawn train's law begins with. -/
theorem drawn_boxes {w w1 : World} {n : Nt} {zs : List Int} {t : Tr} {a1 a2 zq ta : Option Addr} {k1 k2 zc tc : Nat} (tn tt : TypeId) (hN : NetAt w.heap.size w1 (.agg #[.slice a1 n.pieces.length k1, .slice a2 n.joints.length k2]) n) (hZ : IRow w1 w.heap.size (.slice zq zs.length zc) zs) (hS : StRow w1 w.heap.size (.slice ta t.back.length tc) t.back) (hB : Below w.heap.size w w1) :
    ∃ N T w2, N = w1.heap.size ∧ T = w1.heap.size + 1 ∧ w2 = (w1.alloc (.cells #[.slice a1 n.pieces.length k1, .slice a2 n.joints.length k2] tn)).alloc (.cells #[.int .i64 t.front.piece, .int .i64 t.front.at_, .int .i64 t.front.way, .int .i64 t.long, .slice ta t.back.length tc] tt)
      ∧ Nw n zs a1 a2 zq k1 k2 N w2 ∧ Tw t ta tc T w2 ∧ Below w.heap.size w w2 := by
  refine ⟨_, _, _, rfl, rfl, rfl, ?_, ?_, ?_⟩
  · have hb1 : Below w1.heap.size w1 (w1.alloc (.cells #[.slice a1 n.pieces.length k1, .slice a2 n.joints.length k2] tn)) := bw0
    have : Nw n zs a1 a2 zq k1 k2 w1.heap.size (w1.alloc (.cells #[.slice a1 n.pieces.length k1, .slice a2 n.joints.length k2] tn)) := ⟨(hN.mono (Nat.zero_le _)).below hb1, IntsAt.below (fun i hi => by obtain ⟨b, o, e, hl, hc⟩ := iRow_ints hZ i hi; exact ⟨b, o, e, ⟨Nat.zero_le _, hl.2⟩, hc⟩) hb1, boxed_alloc _ _ _⟩
    exact this.below bw0
  · have hb1 : Below w1.heap.size w1 (w1.alloc (.cells #[.slice a1 n.pieces.length k1, .slice a2 n.joints.length k2] tn)) := bw0
    have h := Tw.box ((stRow_ts0 hS).below hb1) tt
    rw [show (w1.alloc (.cells #[.slice a1 n.pieces.length k1, .slice a2 n.joints.length k2] tn)).heap.size = w1.heap.size + 1 by simp] at h
    exact h
  · exact hB.trans (Below.mono (B := w1.heap.size) bw0 hB.size)
theorem retB_val {p : Prop} {e : Ending} (h : RetB p e) {b : Bool} (hb : p ↔ b = true) : e = .returned (.bool b) := by
  rcases h with ⟨rfl, hp⟩ | ⟨rfl, hp⟩
  · rw [hb.1 hp]
  · cases b with
    | true => exact absurd (hb.2 rfl) hp
    | false => rfl

theorem dTrainI {n : Nt} {zs : List Int} {t : Tr} {a1 a2 zq ta : Option Addr} {k1 k2 N tc : Nat} {w : World} (hN : Nw n zs a1 a2 zq k1 k2 N w) (hT : Ts0 t ta tc w) (hsm : NtSmall n) (hbl : t.back.length ≤ 200) {b : Bool} (hb : TrainRight n t ↔ b = true) :
    Calls Tryz.prog 7 #[.agg #[.slice a1 n.pieces.length k1, .slice a2 n.joints.length k2], .agg #[.int .i64 t.front.piece, .int .i64 t.front.at_, .int .i64 t.front.way, .int .i64 t.long, .slice ta t.back.length tc]] w fun e w' => e = .returned (.bool b) ∧ Below w.heap.size w w' :=
  (implTrainOk_any _ n t ta tc w hN.net hT.sts hT.cap (by omega) (by have := hsm.pcs; omega) (by have := hsm.jts; omega) (fun i h => (hsm.hle i h).2) hsm.hnm).mono fun e w' h => ⟨retB_val h.1 hb, h.2⟩

theorem dTrainS {n : Nt} {zs : List Int} {t : Tr} {a1 a2 zq ta : Option Addr} {k1 k2 N tc : Nat} {w : World} (hN : Nw n zs a1 a2 zq k1 k2 N w) (hT : Ts0 t ta tc w) (hsm : NtSmall n) (hbl : t.back.length ≤ 200) {b : Bool} (hb : TrainRight n t ↔ b = true) :
    Calls Tryz.prog 8 #[.agg #[.slice a1 n.pieces.length k1, .slice a2 n.joints.length k2], .agg #[.int .i64 t.front.piece, .int .i64 t.front.at_, .int .i64 t.front.way, .int .i64 t.long, .slice ta t.back.length tc]] w fun e w' => e = .returned (.bool b) ∧ Below w.heap.size w w' :=
  (specTrainOk_any _ _ n t w hN.net hT.tr (by have := hsm.pcs; omega) (by have := hsm.jts; omega) hsm.hle hsm.hnm (by omega)).mono fun e w' h => ⟨retB_val h.1 hb, h.2⟩

theorem dSitsI {n : Nt} {zs : List Int} {t : Tr} {a1 a2 zq ta : Option Addr} {k1 k2 N tc zc : Nat} {w : World} (hN : Nw n zs a1 a2 zq k1 k2 N w) (hT : Ts0 t ta tc w) (hsm : NtSmall n) (hbl : t.back.length ≤ 200) {b : Bool} (hb : SitsRight n zs t ↔ b = true) :
    Calls Tryz.prog 14 #[.agg #[.slice a1 n.pieces.length k1, .slice a2 n.joints.length k2], .slice zq zs.length zc, .agg #[.int .i64 t.front.piece, .int .i64 t.front.at_, .int .i64 t.front.way, .int .i64 t.long, .slice ta t.back.length tc]] w fun e w' => e = .returned (.bool b) ∧ Below w.heap.size w w' :=
  (implSits_any _ n t ta tc zq zs zc w hN.net hT.sts hN.lies hT.cap (by omega) (by have := hsm.pcs; omega) (by have := hsm.jts; omega) (fun i h => (hsm.hle i h).2) hsm.hnm).mono fun e w' h => ⟨retB_val h.1 hb, h.2⟩

theorem dBodyI {n : Nt} {zs : List Int} {t : Tr} {a1 a2 zq ta : Option Addr} {k1 k2 N tc : Nat} {w : World} (hN : Nw n zs a1 a2 zq k1 k2 N w) (hT : Ts0 t ta tc w) (hsm : NtSmall n) (hR : TrainRight n t) :
    Calls Tryz.prog 9 #[.agg #[.slice a1 n.pieces.length k1, .slice a2 n.joints.length k2], .agg #[.int .i64 t.front.piece, .int .i64 t.front.at_, .int .i64 t.front.way, .int .i64 t.long, .slice ta t.back.length tc]] w fun e w' => ∃ a k, e = .returned (.slice a (bodyParts n t).length k) ∧ PtsAt 0 w' a (bodyParts n t) ∧ Below w.heap.size w w' :=
  (implBody_any _ n t ta tc w hN.net hT.sts hT.cap (by have := hR.2.2.2.1; omega) (by have := hsm.pcs; omega) (by have := hsm.jts; omega) (fun i h => (hsm.hle i h).2) hsm.hnm).mono fun e w' ⟨⟨a, k, ps, hps, he, hrow⟩, hb⟩ => by
    rcases hps with ⟨_, rfl⟩ | ⟨h, _⟩
    · exact ⟨a, k, he, ptRow_at0 hrow, hb⟩
    · exact absurd hR h

theorem dBodyS {n : Nt} {zs : List Int} {t : Tr} {a1 a2 zq ta : Option Addr} {k1 k2 N tc : Nat} {w : World} (hN : Nw n zs a1 a2 zq k1 k2 N w) (hT : Ts0 t ta tc w) (hsm : NtSmall n) (hR : TrainRight n t) :
    Calls Tryz.prog 12 #[.agg #[.slice a1 n.pieces.length k1, .slice a2 n.joints.length k2], .agg #[.int .i64 t.front.piece, .int .i64 t.front.at_, .int .i64 t.front.way, .int .i64 t.long, .slice ta t.back.length tc]] w fun e w' => ∃ a k, e = .returned (.slice a (bodyParts n t).length k) ∧ PtsAt 0 w' a (bodyParts n t) ∧ Below w.heap.size w w' :=
  (specBody_any _ _ n t w hN.net hT.tr (by have := hsm.pcs; omega) (by have := hsm.jts; omega) hsm.hle hsm.hnm (by have := hR.2.2.2.1; omega)).mono fun e w' ⟨⟨a, k, ps, hps, he, hrow⟩, hb⟩ => by
    rcases hps with ⟨_, rfl⟩ | ⟨h, _⟩
    · exact ⟨a, k, he, ptRow_at0 hrow, hb⟩
    · exact absurd hR h

theorem dTurnI {n : Nt} {zs : List Int} {t : Tr} {a1 a2 zq ta : Option Addr} {k1 k2 N tc : Nat} {w : World} (hN : Nw n zs a1 a2 zq k1 k2 N w) (hT : Ts0 t ta tc w) (hsm : NtSmall n) (hR : TrainRight n t) :
    Calls Tryz.prog 10 #[.agg #[.slice a1 n.pieces.length k1, .slice a2 n.joints.length k2], .agg #[.int .i64 t.front.piece, .int .i64 t.front.at_, .int .i64 t.front.way, .int .i64 t.long, .slice ta t.back.length tc]] w fun e w' => ∃ a k, e = .returned (trV (turnOf n t) a k) ∧ Ts0 (turnOf n t) a k w' ∧ Below w.heap.size w w' :=
  (implTurned_any _ n t ta tc w hN.net hT.sts hT.cap (by have := hR.2.2.2.1; omega) (by have := hsm.pcs; omega) (by have := hsm.jts; omega) (fun i h => (hsm.hle i h).2) hsm.hnm).mono fun e w' ⟨⟨u, a, k, hu, he, hrow⟩, hb⟩ => by
    rcases hu with ⟨_, rfl⟩ | ⟨h, _⟩
    · exact ⟨a, k, he, stRow_ts0 hrow, hb⟩
    · exact absurd hR h

theorem dTailI {n : Nt} {zs : List Int} {t : Tr} {a1 a2 zq ta : Option Addr} {k1 k2 N tc : Nat} {w : World} (hN : Nw n zs a1 a2 zq k1 k2 N w) (hT : Ts0 t ta tc w) (hsm : NtSmall n) (hR : TrainRight n t) :
    Calls Tryz.prog 16 #[.agg #[.slice a1 n.pieces.length k1, .slice a2 n.joints.length k2], .agg #[.int .i64 t.front.piece, .int .i64 t.front.at_, .int .i64 t.front.way, .int .i64 t.long, .slice ta t.back.length tc]] w fun e w' => e = .returned (.agg #[.int .i64 (tailOf n t).piece, .int .i64 (tailOf n t).at_, .int .i64 (tailOf n t).way]) ∧ Below w.heap.size w w' :=
  (implTail_any _ n t ta tc w hN.net hT.sts hT.cap (by have := hR.2.2.2.1; omega) (by have := hsm.pcs; omega) (by have := hsm.jts; omega) (fun i h => (hsm.hle i h).2) hsm.hnm).mono fun e w' ⟨h, hb⟩ => by
    rcases h with ⟨_, h⟩ | ⟨h, _⟩
    · exact ⟨h, hb⟩
    · exact absurd hR h

theorem dTailS {n : Nt} {zs : List Int} {t : Tr} {a1 a2 zq ta : Option Addr} {k1 k2 N tc : Nat} {w : World} (hN : Nw n zs a1 a2 zq k1 k2 N w) (hT : Ts0 t ta tc w) (hsm : NtSmall n) (hR : TrainRight n t) :
    Calls Tryz.prog 18 #[.agg #[.slice a1 n.pieces.length k1, .slice a2 n.joints.length k2], .agg #[.int .i64 t.front.piece, .int .i64 t.front.at_, .int .i64 t.front.way, .int .i64 t.long, .slice ta t.back.length tc]] w fun e w' => e = .returned (.agg #[.int .i64 (tailOf n t).piece, .int .i64 (tailOf n t).at_, .int .i64 (tailOf n t).way]) ∧ Below w.heap.size w w' :=
  (specTail_any _ _ n t w hN.net hT.tr (by have := hsm.pcs; omega) (by have := hsm.jts; omega) hsm.hle hsm.hnm (by have := hR.2.2.2.1; omega)).mono fun e w' ⟨h, hb⟩ => by
    rcases h with ⟨_, h⟩ | ⟨h, _⟩
    · exact ⟨h, hb⟩
    · exact absurd hR h

theorem dPlaceI {n : Nt} {zs : List Int} {t : Tr} {a1 a2 zq : Option Addr} {k1 k2 N zc : Nat} {w : World} (hN : Nw n zs a1 a2 zq k1 k2 N w) (hsm : NtSmall n) (hS : SitsRight n zs t) :
    Calls Tryz.prog 15 #[.agg #[.slice a1 n.pieces.length k1, .slice a2 n.joints.length k2], .slice zq zs.length zc, .agg #[.int .i64 t.front.piece, .int .i64 t.front.at_, .int .i64 t.front.way], .int .i64 t.long] w fun e w' => ∃ a k, e = .returned (.agg #[.bool true, .int .i64 t.front.piece, .int .i64 t.front.at_, .int .i64 t.front.way, .int .i64 t.long, .slice a t.back.length k]) ∧ Ts0 t a k w' ∧ Below w.heap.size w w' :=
  (implPlace_any _ n zq zs zc t.front t.long w hN.net hN.lies (by have := hsm.pcs; omega) (by have := hsm.jts; omega) (fun i h => (hsm.hle i h).2) hsm.hnm).mono fun e w' ⟨⟨ok, u, a, k, hp, he, hrow⟩, hb⟩ => by
    obtain ⟨rfl, rfl⟩ := hp.unique (place_same hS)
    exact ⟨a, k, he, stRow_ts0 hrow, hb⟩

end Go.Proofs.YtbdggfpfpjijoaaGreat

set_option linter.unusedSimpArgs false
namespace Go.Proofs.YtbdggfpfpjijoaaGreat
open Go.RowKit

set_option maxRecDepth 100000 in
set_option maxHeartbeats 8000000 in
theorem fnEnds_any (bs : List Int) (ba : Option Addr) (bcap : Nat) (w : World) (hba : BytesAt w.heap.size w ba bs) (hbs : BytesIn bs) :
    Calls Tryz.prog 3 #[.slice ba bs.length bcap] w fun e w' => e = .returned (.bool true) ∧ Below w.heap.size w w' := by
  have HBA := hide hba
  clear hba
  go_enter Tryz.func3, Tryz.ntmps3
  by_cases h1 : 1048576 < bs.length
  · have h1' : (1048576 : Int) < (bs.length : Int) := by omega
    go_wp2_with fail
    go_ret
    exact ⟨rfl, Below.refl _ _⟩
  · have h1' : ¬ (1048576 : Int) < (bs.length : Int) := by omega
    go_wp2_with fail
    refine (drawn_any bs ba bcap _ (unhide HBA) hbs).mono ?_
    rintro e w1 ⟨v, n, zq, zs, zc, t, ta, tc, ok, rfl, hdi, hok, hN1, hZ1, hS1, hB1⟩
    dsimp only [trV]
    have hsm := hdi.small
    have hbk := hdi.back
    have hN1' := hN1
    obtain ⟨a1, a2, k1, k2, rfl, _, _⟩ := hN1
    obtain ⟨N, T, w2, hNe, hTe, hw2, hNw, hTw, hB2⟩ := drawn_boxes 26 32 hN1' hZ1 hS1 hB1
    have HSM := hide hsm
    have HNE := hide hNe
    have HTE := hide hTe
    have HW2 := hide hw2
    have HN2 := hide hNw
    have HT2 := hide hTw
    have HB2 := hide hB2
    clear hdi hN1' hZ1 hS1 hB1 hsm hNe hTe hw2 hNw hTw hB2
    cases ok with
    | false =>
      clear hok
      obtain ⟨b, hb⟩ : ∃ b : Bool, TrainRight n t ↔ b = true := by
        by_cases h : TrainRight n t
        · exact ⟨true, by simp [h]⟩
        · exact ⟨false, by simp [h]⟩
      go_upto_region 5 with fail
      rw [← unhide HW2, ← unhide HTE, ← unhide HNE]
      clear HW2 HTE HNE
      have n0 := (unhide HN2).bn.2.1 0 _ rfl
      have n1 := (unhide HN2).bn.2.1 1 _ rfl
      have nl := (unhide HN2).bn.1
      have t0 := (unhide HT2).bt.2.1 0 _ rfl
      have t1 := (unhide HT2).bt.2.1 1 _ rfl
      have t2 := (unhide HT2).bt.2.1 2 _ rfl
      have t3 := (unhide HT2).bt.2.1 3 _ rfl
      have t4 := (unhide HT2).bt.2.1 4 _ rfl
      have tl := (unhide HT2).bt.1
      refine wp_region_grown (by kernel_rfl) (by kernel_rfl) (fun hgn hgc => ?_)
      repeat (go_big_quiet_step (first | (go_at_call 7; rename_i g; exact g.call (dTrainI ((unhide HN2).below g.below) ((unhide HT2).s.below g.below) (unhide HSM) hbk hb)) | (go_at_call 8; rename_i g; exact g.call (dTrainS ((unhide HN2).below g.below) ((unhide HT2).s.below g.below) (unhide HSM) hbk hb))))
      refine wpQuiet_nil ?_
      intro wq hwq
      have hbq : Below w2.heap.size w2 wq := by obtain ⟨g, rfl⟩ := hwq; exact g.below
      clear hwq hgc hgn hb
      cases b
      all_goals
        go_wp2_with fail
        go_ret
        exact ⟨rfl, (unhide HB2).trans (hbq.mono (unhide HB2).size)⟩
    | true =>
      obtain ⟨hTR, hSR⟩ := hok.1 rfl
      clear hok
      have hG := netGood hTR.1
      obtain ⟨⟨tp, tat, ty⟩, htl⟩ : ∃ tl, tailOf n t = tl := ⟨_, rfl⟩
      obtain ⟨ub, hub⟩ : ∃ ub, turnBack n t = ub := ⟨_, rfl⟩
      obtain ⟨qs, hqs⟩ : ∃ qs, bodyParts n t = qs := ⟨_, rfl⟩
      have hu : turnOf n t = ⟨⟨tp, tat, -ty⟩, t.long, ub⟩ := by unfold turnOf turnTail; rw [htl, hub]
      have hUR := turn_right hTR
      have hUS := turn_sits hSR
      have hbu := body_turn hG hTR.2
      have hbuu := body_turn hG hUR.2
      have hsum := body_sum hTR
      have hfit := (body_fits hTR).1.1
      have hql : qs.length ≤ 201 := by rw [← hqs]; exact bodyParts_len hG hTR.2
      have hq0 : qs.length ≠ 0 := by
        rw [← hqs]
        exact fun h => (body_fits hTR).2 (List.eq_nil_of_length_eq_zero h)
      have hubl : ub.length ≤ 200 := by rw [← hub]; exact Nat.le_trans turnBack_len hTR.2.2.2.1
      have hty : IntKind.i64.wrap (-ty) = -ty := by
        have h2 := (turn_right hTR).2.1.2.1
        rw [hu] at h2
        exact wrap_small (by dsimp only at h2; omega) (by dsimp only at h2; omega)
      rw [hu] at hUR hUS hbu hbuu
      rw [hqs] at hbu hsum hfit
      rw [hbu, List.reverse_reverse] at hbuu
      have HUR := hide hUR
      have HUS := hide hUS
      have HBU := hide hbu
      have HBUU := hide hbuu
      have HSUM := hide hsum
      have HTR := hide hTR
      have HSR := hide hSR
      have HQS := hide hqs
      have HU := hide hu
      have HTL := hide htl
      have HFIT : Hid (∀ x ∈ qs, 0 ≤ x.fr ∧ x.fr ≤ x.to ∧ x.to ≤ 10000000) := fun x hx => by
        have h1 := hfit x hx
        have h2 := hG.len h1.1.1 h1.1.2
        exact ⟨h1.2.1, h1.2.2.1, by have := h1.2.2.2; omega⟩
      clear hTR hSR hub hqs hu hUR hUS hbu hbuu hsum hfit htl hG
      go_upto_region 6 with fail
      rw [← unhide HW2, ← unhide HTE, ← unhide HNE]
      clear HW2 HTE HNE
      have n0 := (unhide HN2).bn.2.1 0 _ rfl
      have n1 := (unhide HN2).bn.2.1 1 _ rfl
      have nl := (unhide HN2).bn.1
      have t0 := (unhide HT2).bt.2.1 0 _ rfl
      have t1 := (unhide HT2).bt.2.1 1 _ rfl
      have t2 := (unhide HT2).bt.2.1 2 _ rfl
      have t3 := (unhide HT2).bt.2.1 3 _ rfl
      have t4 := (unhide HT2).bt.2.1 4 _ rfl
      have tl := (unhide HT2).bt.1
      go_wp2_with fail
      clear n0 n1 nl
      clear t0 t1 t2 t3 t4 tl
      refine (dBodyI (unhide HN2) (unhide HT2).s (unhide HSM) (unhide HTR)).mono ?_
      rintro e w3 ⟨pa, pk, rfl, hP3, hb3⟩
      rw [unhide HQS] at hP3 ⊢
      have HP3 := hide hP3
      have HN3 := hide ((unhide HN2).below hb3)
      have HT3 := hide ((unhide HT2).below hb3)
      have HB3 := hide ((unhide HB2).trans (hb3.mono (unhide HB2).size))
      clear hP3 hb3 HN2 HT2 HB2
      have n0 := (unhide HN3).bn.2.1 0 _ rfl
      have n1 := (unhide HN3).bn.2.1 1 _ rfl
      have nl := (unhide HN3).bn.1
      have t0 := (unhide HT3).bt.2.1 0 _ rfl
      have t1 := (unhide HT3).bt.2.1 1 _ rfl
      have t2 := (unhide HT3).bt.2.1 2 _ rfl
      have t3 := (unhide HT3).bt.2.1 3 _ rfl
      have t4 := (unhide HT3).bt.2.1 4 _ rfl
      have tl := (unhide HT3).bt.1
      go_wp2_with fail
      clear n0 n1 nl
      clear t0 t1 t2 t3 t4 tl
      refine (dTurnI (unhide HN3) (unhide HT3).s (unhide HSM) (unhide HTR)).mono ?_
      rintro e w4 ⟨ua, uk, rfl, hU4, hb4⟩
      rw [unhide HU] at hU4 ⊢
      dsimp only [trV]
      have hU5 := Tw.box hU4 32
      have hB45 : Below w4.heap.size w4 (w4.alloc (.cells #[.int .i64 tp, .int .i64 tat, .int .i64 (-ty), .int .i64 t.long, .slice ua ub.length uk] 32)) := bw0
      have hN4 := (unhide HN3).below hb4
      have n0 := hN4.bn.2.1 0 _ rfl
      have n1 := hN4.bn.2.1 1 _ rfl
      have nl := hN4.bn.1
      go_wp2_with fail
      clear n0 n1 nl
      (try dsimp only at hU5)
      obtain ⟨w5, hw5⟩ : ∃ w5, w4.alloc (.cells #[.int .i64 tp, .int .i64 tat, .int .i64 (-ty), .int .i64 t.long, .slice ua ub.length uk] 32) = w5 := ⟨_, rfl⟩
      obtain ⟨U, hUe⟩ : ∃ U, w4.heap.size = U := ⟨_, rfl⟩
      rw [hw5] at hU5 hB45 ⊢
      have hb35 := below_then hb4 hB45
      rw [hUe] at hU5 ⊢
      have HU5 := hide hU5
      have HN5 := hide ((unhide HN3).below hb35)
      have HT5 := hide ((unhide HT3).below hb35)
      have HP5 := hide ((unhide HP3).below hb35)
      have HB5 := hide ((unhide HB3).trans (hb35.mono (unhide HB3).size))
      clear hU4 hU5 hB45 hN4 hw5 hUe hb4 hb35 HN3 HT3 HP3 HB3
      refine (dBodyI (t := ⟨⟨tp, tat, -ty⟩, t.long, ub⟩) (unhide HN5) (unhide HU5).s (unhide HSM) (unhide HUR)).mono ?_
      rintro e w6 ⟨va, vk, rfl, hV6, hb6⟩
      rw [unhide HBU] at hV6 ⊢
      rw [List.length_reverse]
      have HV6 := hide hV6
      have HU6 := hide ((unhide HU5).below hb6)
      have HN6 := hide ((unhide HN5).below hb6)
      have HT6 := hide ((unhide HT5).below hb6)
      have HP6 := hide ((unhide HP5).below hb6)
      have HB6 := hide ((unhide HB5).trans (hb6.mono (unhide HB5).size))
      clear hV6 hb6 HU5 HN5 HT5 HP5 HB5
      have hq1 : ((qs.length : Int) == 0) = false := by rw [beq_eq_false_iff_ne]; omega
      have hq2 : ¬ (qs.length : Int) = 0 := by omega
      have n0 := (unhide HN6).bn.2.1 0 _ rfl
      have n1 := (unhide HN6).bn.2.1 1 _ rfl
      have nl := (unhide HN6).bn.1
      have t0 := (unhide HT6).bt.2.1 0 _ rfl
      have t1 := (unhide HT6).bt.2.1 1 _ rfl
      have t2 := (unhide HT6).bt.2.1 2 _ rfl
      have t3 := (unhide HT6).bt.2.1 3 _ rfl
      have t4 := (unhide HT6).bt.2.1 4 _ rfl
      have tl := (unhide HT6).bt.1
      have u0 := (unhide HU6).bt.2.1 0 _ rfl
      have u1 := (unhide HU6).bt.2.1 1 _ rfl
      have u2 := (unhide HU6).bt.2.1 2 _ rfl
      have u3 := (unhide HU6).bt.2.1 3 _ rfl
      have u4 := (unhide HU6).bt.2.1 4 _ rfl
      have ul := (unhide HU6).bt.1
      (try dsimp only at u0 u1 u2 u3 u4)
      go_upto_region 10 with fail
      refine wp_region_held_drew (S := fun w' => w'.cell? ⟨N, 0, none⟩ = some (.slice a1 n.pieces.length k1) ∧ w'.cell? ⟨N, 1, none⟩ = some (.slice a2 n.joints.length k2) ∧ w'.cell? ⟨T, 0, none⟩ = some (.int .i64 t.front.piece) ∧ w'.cell? ⟨T, 1, none⟩ = some (.int .i64 t.front.at_) ∧ w'.cell? ⟨T, 2, none⟩ = some (.int .i64 t.front.way) ∧ w'.cell? ⟨T, 3, none⟩ = some (.int .i64 t.long) ∧ w'.cell? ⟨T, 4, none⟩ = some (.slice ta t.back.length tc) ∧ w'.cell? ⟨U, 0, none⟩ = some (.int .i64 tp) ∧ w'.cell? ⟨U, 1, none⟩ = some (.int .i64 tat) ∧ w'.cell? ⟨U, 2, none⟩ = some (.int .i64 (-ty)) ∧ w'.cell? ⟨U, 3, none⟩ = some (.int .i64 t.long) ∧ w'.cell? ⟨U, 4, none⟩ = some (.slice ua ub.length uk)) (by kernel_rfl) ?_ (fun hHeld => ?_)
      · exact ⟨by simpa using n0, by simpa using n1, by simpa using t0, by simpa using t1, by simpa using t2, by simpa using t3, by simpa using t4, by simpa using u0, by simpa using u1, by simpa using u2, by simpa using u3, by simpa using u4⟩
      refine wpAnyH_take (i := 0) (v := ?va1) rfl (by kernel_rfl) (by kernel_rfl) (by kernel_rfl) (fun _ _ _ h => h) (Or.inl ⟨by rfl, ?ya1⟩) (by assumption) ?ra1
      case ya1 => (intro w0 hSw; (try dsimp only at hSw); go_simp; (try with_reducible rfl))
      (try simp only [Act.put, List.getElem_toArray, List.getElem_cons_zero, List.getElem_cons_succ, List.setIfInBounds_toArray, List.set_cons_zero, List.set_cons_succ])
      refine wpAnyH_take (i := 1) (v := ?va2) rfl (by kernel_rfl) (by kernel_rfl) (by kernel_rfl) (fun _ _ _ h => h) (Or.inl ⟨by rfl, ?ya2⟩) (by assumption) ?ra2
      case ya2 => (intro w0 hSw; (try dsimp only at hSw); go_simp; (try with_reducible rfl))
      (try simp only [Act.put, List.getElem_toArray, List.getElem_cons_zero, List.getElem_cons_succ, List.setIfInBounds_toArray, List.set_cons_zero, List.set_cons_succ])
      refine wpAnyH_take (i := 2) (v := ?va3) rfl (by kernel_rfl) (by kernel_rfl) (by kernel_rfl) (fun _ _ _ h => h) (Or.inl ⟨by rfl, ?ya3⟩) (by assumption) ?ra3
      case ya3 => (intro w0 hSw; (try dsimp only at hSw); go_simp; (try with_reducible rfl))
      (try simp only [Act.put, List.getElem_toArray, List.getElem_cons_zero, List.getElem_cons_succ, List.setIfInBounds_toArray, List.set_cons_zero, List.set_cons_succ])
      refine wpAnyH_ready (rs := [3]) (by kernel_rfl) (by simp) ?_
      refine (AllReadyH.cons rfl (fun K hK => ?_) AllReadyH.nil)
      go_simp
      refine (dBodyS ((unhide HN6).below bw0) ((unhide HT6).s.below bw0) (unhide HSM) (unhide HTR)).mono ?_
      rintro e w7 ⟨sa, sk, rfl, hP7, hb7⟩
      dsimp only
      rw [unhide HQS] at hP7 ⊢
      have hB7 : Below w6.heap.size w6 w7 := below_then bw0 hb7
      have hX7 := (unhide HN6).bn.below hB7
      have hY7 := (unhide HT6).bt.below hB7
      have hZ7 := (unhide HU6).bt.below hB7
      have nl7 := hX7.1
      have tl7 := hY7.1
      have ul7 := hZ7.1
      have HP7 := hide hP7
      have HB7 := hide hB7
      have hH7 : (fun w' => w'.cell? ⟨N, 0, none⟩ = some (.slice a1 n.pieces.length k1) ∧ w'.cell? ⟨N, 1, none⟩ = some (.slice a2 n.joints.length k2) ∧ w'.cell? ⟨T, 0, none⟩ = some (.int .i64 t.front.piece) ∧ w'.cell? ⟨T, 1, none⟩ = some (.int .i64 t.front.at_) ∧ w'.cell? ⟨T, 2, none⟩ = some (.int .i64 t.front.way) ∧ w'.cell? ⟨T, 3, none⟩ = some (.int .i64 t.long) ∧ w'.cell? ⟨T, 4, none⟩ = some (.slice ta t.back.length tc) ∧ w'.cell? ⟨U, 0, none⟩ = some (.int .i64 tp) ∧ w'.cell? ⟨U, 1, none⟩ = some (.int .i64 tat) ∧ w'.cell? ⟨U, 2, none⟩ = some (.int .i64 (-ty)) ∧ w'.cell? ⟨U, 3, none⟩ = some (.int .i64 t.long) ∧ w'.cell? ⟨U, 4, none⟩ = some (.slice ua ub.length uk)) w7 := ⟨hX7.2.1 0 _ rfl, hX7.2.1 1 _ rfl, hY7.2.1 0 _ rfl, hY7.2.1 1 _ rfl, hY7.2.1 2 _ rfl, hY7.2.1 3 _ rfl, hY7.2.1 4 _ rfl, hZ7.2.1 0 _ rfl, hZ7.2.1 1 _ rfl, hZ7.2.1 2 _ rfl, hZ7.2.1 3 _ rfl, hZ7.2.1 4 _ rfl⟩
      clear hP7 hb7 hB7 hX7 hY7 hZ7
      refine hK.out _ _ hH7 (fun hHeld => ?_)
      clear hK K
      (try simp only [Act.put, List.getElem_toArray, List.getElem_cons_zero, List.getElem_cons_succ, List.setIfInBounds_toArray, List.set_cons_zero, List.set_cons_succ])
      refine wpAnyH_ready (rs := [4]) (by kernel_rfl) (by simp) ?_
      refine (AllReadyH.cons rfl (fun K hK => ?_) AllReadyH.nil)
      go_simp
      refine (wParts_same qs pa sa pk sk _ (((unhide HP6).below (unhide HB7)).below bw0) ((unhide HP7).below bw0) (by omega)).mono ?_
      rintro e w8 ⟨rfl, hb8⟩
      dsimp only
      have hB8 : Below w6.heap.size w6 w8 := below_then (unhide HB7) (below_then bw0 hb8)
      have hX8 := (unhide HN6).bn.below hB8
      have hY8 := (unhide HT6).bt.below hB8
      have hZ8 := (unhide HU6).bt.below hB8
      have nl8 := hX8.1
      have tl8 := hY8.1
      have ul8 := hZ8.1
      have HB8 := hide hB8
      have hH8 : (fun w' => w'.cell? ⟨N, 0, none⟩ = some (.slice a1 n.pieces.length k1) ∧ w'.cell? ⟨N, 1, none⟩ = some (.slice a2 n.joints.length k2) ∧ w'.cell? ⟨T, 0, none⟩ = some (.int .i64 t.front.piece) ∧ w'.cell? ⟨T, 1, none⟩ = some (.int .i64 t.front.at_) ∧ w'.cell? ⟨T, 2, none⟩ = some (.int .i64 t.front.way) ∧ w'.cell? ⟨T, 3, none⟩ = some (.int .i64 t.long) ∧ w'.cell? ⟨T, 4, none⟩ = some (.slice ta t.back.length tc) ∧ w'.cell? ⟨U, 0, none⟩ = some (.int .i64 tp) ∧ w'.cell? ⟨U, 1, none⟩ = some (.int .i64 tat) ∧ w'.cell? ⟨U, 2, none⟩ = some (.int .i64 (-ty)) ∧ w'.cell? ⟨U, 3, none⟩ = some (.int .i64 t.long) ∧ w'.cell? ⟨U, 4, none⟩ = some (.slice ua ub.length uk)) w8 := ⟨hX8.2.1 0 _ rfl, hX8.2.1 1 _ rfl, hY8.2.1 0 _ rfl, hY8.2.1 1 _ rfl, hY8.2.1 2 _ rfl, hY8.2.1 3 _ rfl, hY8.2.1 4 _ rfl, hZ8.2.1 0 _ rfl, hZ8.2.1 1 _ rfl, hZ8.2.1 2 _ rfl, hZ8.2.1 3 _ rfl, hZ8.2.1 4 _ rfl⟩
      clear hb8 hB8 hX8 hY8 hZ8
      refine hK.out _ _ hH8 (fun hHeld => ?_)
      clear hK K
      (try simp only [Act.put, List.getElem_toArray, List.getElem_cons_zero, List.getElem_cons_succ, List.setIfInBounds_toArray, List.set_cons_zero, List.set_cons_succ])
      refine wpAnyH_take (i := 5) (v := ?va4) rfl (by kernel_rfl) (by kernel_rfl) (by kernel_rfl) (fun _ _ _ h => h) (Or.inl ⟨by rfl, ?ya4⟩) (by assumption) ?ra4
      case ya4 => (intro w0 hSw; (try dsimp only at hSw); go_simp; (try with_reducible rfl))
      (try simp only [Act.put, List.getElem_toArray, List.getElem_cons_zero, List.getElem_cons_succ, List.setIfInBounds_toArray, List.set_cons_zero, List.set_cons_succ])
      refine wpAnyH_take (i := 6) (v := ?va5) rfl (by kernel_rfl) (by kernel_rfl) (by kernel_rfl) (fun _ _ _ h => h) (Or.inl ⟨by rfl, ?ya5⟩) (by assumption) ?ra5
      case ya5 => (intro w0 hSw; (try dsimp only at hSw); go_simp; (try with_reducible rfl))
      (try simp only [Act.put, List.getElem_toArray, List.getElem_cons_zero, List.getElem_cons_succ, List.setIfInBounds_toArray, List.set_cons_zero, List.set_cons_succ])
      refine wpAnyH_take (i := 7) (v := ?va6) rfl (by kernel_rfl) (by kernel_rfl) (by kernel_rfl) (fun _ _ _ h => h) (Or.inl ⟨by rfl, ?ya6⟩) (by assumption) ?ra6
      case ya6 => (intro w0 hSw; (try dsimp only at hSw); go_simp; (try with_reducible rfl))
      (try simp only [Act.put, List.getElem_toArray, List.getElem_cons_zero, List.getElem_cons_succ, List.setIfInBounds_toArray, List.set_cons_zero, List.set_cons_succ])
      refine wpAnyH_take (i := 8) (v := ?va7) rfl (by kernel_rfl) (by kernel_rfl) (by kernel_rfl) (fun _ _ _ h => h) (Or.inl ⟨by rfl, ?ya7⟩) (by assumption) ?ra7
      case ya7 => (intro w0 hSw; (try dsimp only at hSw); go_simp; (try with_reducible rfl))
      (try simp only [Act.put, List.getElem_toArray, List.getElem_cons_zero, List.getElem_cons_succ, List.setIfInBounds_toArray, List.set_cons_zero, List.set_cons_succ])
      refine wpAnyH_take (i := 9) (v := ?va8) rfl (by kernel_rfl) (by kernel_rfl) (by kernel_rfl) (fun _ _ _ h => h) (Or.inl ⟨by rfl, ?ya8⟩) (by assumption) ?ra8
      case ya8 => (intro w0 hSw; (try dsimp only at hSw); go_simp; (try with_reducible rfl))
      (try simp only [Act.put, List.getElem_toArray, List.getElem_cons_zero, List.getElem_cons_succ, List.setIfInBounds_toArray, List.set_cons_zero, List.set_cons_succ])
      refine wpAnyH_take (i := 10) (v := ?va9) rfl (by kernel_rfl) (by kernel_rfl) (by kernel_rfl) (fun _ _ _ h => h) (Or.inl ⟨by rfl, ?ya9⟩) (by assumption) ?ra9
      case ya9 => (intro w0 hSw; (try dsimp only at hSw); go_simp; (try with_reducible rfl))
      (try simp only [Act.put, List.getElem_toArray, List.getElem_cons_zero, List.getElem_cons_succ, List.setIfInBounds_toArray, List.set_cons_zero, List.set_cons_succ])
      refine wpAnyH_take (i := 11) (v := ?va10) rfl (by kernel_rfl) (by kernel_rfl) (by kernel_rfl) (fun _ _ _ h => h) (Or.inl ⟨by rfl, ?ya10⟩) (by assumption) ?ra10
      case ya10 => (intro w0 hSw; (try dsimp only at hSw); go_simp; (try with_reducible rfl))
      (try simp only [Act.put, List.getElem_toArray, List.getElem_cons_zero, List.getElem_cons_succ, List.setIfInBounds_toArray, List.set_cons_zero, List.set_cons_succ])
      refine wpAnyH_take (i := 12) (v := ?va11) rfl (by kernel_rfl) (by kernel_rfl) (by kernel_rfl) (fun _ _ _ h => h) (Or.inl ⟨by rfl, ?ya11⟩) (by assumption) ?ra11
      case ya11 => (intro w0 hSw; (try dsimp only at hSw); go_simp; (try with_reducible rfl))
      (try simp only [Act.put, List.getElem_toArray, List.getElem_cons_zero, List.getElem_cons_succ, List.setIfInBounds_toArray, List.set_cons_zero, List.set_cons_succ])
      refine wpAnyH_take (i := 13) (v := ?va12) rfl (by kernel_rfl) (by kernel_rfl) (by kernel_rfl) (fun _ _ _ h => h) (Or.inl ⟨by rfl, ?ya12⟩) (by assumption) ?ra12
      case ya12 => (intro w0 hSw; (try dsimp only at hSw); go_simp; (try with_reducible rfl))
      (try simp only [Act.put, List.getElem_toArray, List.getElem_cons_zero, List.getElem_cons_succ, List.setIfInBounds_toArray, List.set_cons_zero, List.set_cons_succ])
      refine wpAnyH_take (i := 14) (v := ?va13) rfl (by kernel_rfl) (by kernel_rfl) (by kernel_rfl) (fun _ _ _ h => h) (Or.inl ⟨by rfl, ?ya13⟩) (by assumption) ?ra13
      case ya13 => (intro w0 hSw; (try dsimp only at hSw); go_simp; (try with_reducible rfl))
      (try simp only [Act.put, List.getElem_toArray, List.getElem_cons_zero, List.getElem_cons_succ, List.setIfInBounds_toArray, List.set_cons_zero, List.set_cons_succ])
      refine wpAnyH_take (i := 15) (v := ?va14) rfl (by kernel_rfl) (by kernel_rfl) (by kernel_rfl) (fun _ _ _ h => h) (Or.inl ⟨by rfl, ?ya14⟩) (by assumption) ?ra14
      case ya14 => (intro w0 hSw; (try dsimp only at hSw); go_simp; (try with_reducible rfl))
      (try simp only [Act.put, List.getElem_toArray, List.getElem_cons_zero, List.getElem_cons_succ, List.setIfInBounds_toArray, List.set_cons_zero, List.set_cons_succ])
      refine wpAnyH_take (i := 16) (v := ?va15) rfl (by kernel_rfl) (by kernel_rfl) (by kernel_rfl) (fun _ _ _ h => h) (Or.inl ⟨by rfl, ?ya15⟩) (by assumption) ?ra15
      case ya15 => (intro w0 hSw; (try dsimp only at hSw); go_simp; (try with_reducible rfl))
      (try simp only [Act.put, List.getElem_toArray, List.getElem_cons_zero, List.getElem_cons_succ, List.setIfInBounds_toArray, List.set_cons_zero, List.set_cons_succ])
      refine wpAnyH_take (i := 17) (v := ?va16) rfl (by kernel_rfl) (by kernel_rfl) (by kernel_rfl) (fun _ _ _ h => h) (Or.inl ⟨by rfl, ?ya16⟩) (by assumption) ?ra16
      case ya16 => (intro w0 hSw; (try dsimp only at hSw); go_simp; (try with_reducible rfl))
      (try simp only [Act.put, List.getElem_toArray, List.getElem_cons_zero, List.getElem_cons_succ, List.setIfInBounds_toArray, List.set_cons_zero, List.set_cons_succ])
      refine wpAnyH_take (i := 19) (v := ?va17) rfl (by kernel_rfl) (by kernel_rfl) (by kernel_rfl) (fun _ _ _ h => h) (Or.inl ⟨by rfl, ?ya17⟩) (by assumption) ?ra17
      case ya17 => (intro w0 hSw; (try dsimp only at hSw); go_simp; (try with_reducible rfl))
      (try simp only [Act.put, List.getElem_toArray, List.getElem_cons_zero, List.getElem_cons_succ, List.setIfInBounds_toArray, List.set_cons_zero, List.set_cons_succ])
      refine wpAnyH_take (i := 20) (v := ?va18) rfl (by kernel_rfl) (by kernel_rfl) (by kernel_rfl) (fun _ _ _ h => h) (Or.inl ⟨by rfl, ?ya18⟩) (by assumption) ?ra18
      case ya18 => (intro w0 hSw; (try dsimp only at hSw); go_simp; (try with_reducible rfl))
      (try simp only [Act.put, List.getElem_toArray, List.getElem_cons_zero, List.getElem_cons_succ, List.setIfInBounds_toArray, List.set_cons_zero, List.set_cons_succ])
      refine wpAnyH_ready (rs := [18]) (by kernel_rfl) (by simp) ?_
      refine (AllReadyH.cons rfl (fun K hK => ?_) AllReadyH.nil)
      go_simp
      refine (wLen_any qs pa pk _ (((unhide HP6).below (unhide HB8)).below bw0) (by omega) (unhide HFIT)).mono ?_
      rintro e w9 ⟨rfl, hb9⟩
      dsimp only
      rw [unhide HSUM]
      have hB9 : Below w6.heap.size w6 w9 := below_then (unhide HB8) (below_then bw0 hb9)
      have hX9 := (unhide HN6).bn.below hB9
      have hY9 := (unhide HT6).bt.below hB9
      have hZ9 := (unhide HU6).bt.below hB9
      have nl9 := hX9.1
      have tl9 := hY9.1
      have ul9 := hZ9.1
      have HB9 := hide hB9
      have hH9 : (fun w' => w'.cell? ⟨N, 0, none⟩ = some (.slice a1 n.pieces.length k1) ∧ w'.cell? ⟨N, 1, none⟩ = some (.slice a2 n.joints.length k2) ∧ w'.cell? ⟨T, 0, none⟩ = some (.int .i64 t.front.piece) ∧ w'.cell? ⟨T, 1, none⟩ = some (.int .i64 t.front.at_) ∧ w'.cell? ⟨T, 2, none⟩ = some (.int .i64 t.front.way) ∧ w'.cell? ⟨T, 3, none⟩ = some (.int .i64 t.long) ∧ w'.cell? ⟨T, 4, none⟩ = some (.slice ta t.back.length tc) ∧ w'.cell? ⟨U, 0, none⟩ = some (.int .i64 tp) ∧ w'.cell? ⟨U, 1, none⟩ = some (.int .i64 tat) ∧ w'.cell? ⟨U, 2, none⟩ = some (.int .i64 (-ty)) ∧ w'.cell? ⟨U, 3, none⟩ = some (.int .i64 t.long) ∧ w'.cell? ⟨U, 4, none⟩ = some (.slice ua ub.length uk)) w9 := ⟨hX9.2.1 0 _ rfl, hX9.2.1 1 _ rfl, hY9.2.1 0 _ rfl, hY9.2.1 1 _ rfl, hY9.2.1 2 _ rfl, hY9.2.1 3 _ rfl, hY9.2.1 4 _ rfl, hZ9.2.1 0 _ rfl, hZ9.2.1 1 _ rfl, hZ9.2.1 2 _ rfl, hZ9.2.1 3 _ rfl, hZ9.2.1 4 _ rfl⟩
      clear hb9 hB9 hX9 hY9 hZ9
      refine hK.out _ _ hH9 (fun hHeld => ?_)
      clear hK K
      (try simp only [Act.put, List.getElem_toArray, List.getElem_cons_zero, List.getElem_cons_succ, List.setIfInBounds_toArray, List.set_cons_zero, List.set_cons_succ])
      refine wpAnyH_take (i := 21) (v := ?va19) rfl (by kernel_rfl) (by kernel_rfl) (by kernel_rfl) (fun _ _ _ h => h) (Or.inl ⟨by rfl, ?ya19⟩) (by assumption) ?ra19
      case ya19 => (intro w0 hSw; (try dsimp only at hSw); go_simp; (try with_reducible rfl))
      (try simp only [Act.put, List.getElem_toArray, List.getElem_cons_zero, List.getElem_cons_succ, List.setIfInBounds_toArray, List.set_cons_zero, List.set_cons_succ])
      refine wpAnyH_take (i := 22) (v := ?va20) rfl (by kernel_rfl) (by kernel_rfl) (by kernel_rfl) (fun _ _ _ h => h) (Or.inl ⟨by rfl, ?ya20⟩) (by assumption) ?ra20
      case ya20 => (intro w0 hSw; (try dsimp only at hSw); go_simp; (try with_reducible rfl))
      (try simp only [Act.put, List.getElem_toArray, List.getElem_cons_zero, List.getElem_cons_succ, List.setIfInBounds_toArray, List.set_cons_zero, List.set_cons_succ])
      refine wpAnyH_take (i := 23) (v := ?va21) rfl (by kernel_rfl) (by kernel_rfl) (by kernel_rfl) (fun _ _ _ h => h) (Or.inl ⟨by rfl, ?ya21⟩) (by assumption) ?ra21
      case ya21 => (intro w0 hSw; (try dsimp only at hSw); go_simp; (try with_reducible rfl))
      (try simp only [Act.put, List.getElem_toArray, List.getElem_cons_zero, List.getElem_cons_succ, List.setIfInBounds_toArray, List.set_cons_zero, List.set_cons_succ])
      refine wpAnyH_take (i := 24) (v := ?va22) rfl (by kernel_rfl) (by kernel_rfl) (by kernel_rfl) (fun _ _ _ h => h) (Or.inl ⟨by rfl, ?ya22⟩) (by assumption) ?ra22
      case ya22 => (intro w0 hSw; (try dsimp only at hSw); go_simp; (try with_reducible rfl))
      (try simp only [Act.put, List.getElem_toArray, List.getElem_cons_zero, List.getElem_cons_succ, List.setIfInBounds_toArray, List.set_cons_zero, List.set_cons_succ])
      refine wpAnyH_take (i := 25) (v := ?va23) rfl (by kernel_rfl) (by kernel_rfl) (by kernel_rfl) (fun _ _ _ h => h) (Or.inl ⟨by rfl, ?ya23⟩) (by assumption) ?ra23
      case ya23 => (intro w0 hSw; (try dsimp only at hSw); go_simp; (try with_reducible rfl))
      (try simp only [Act.put, List.getElem_toArray, List.getElem_cons_zero, List.getElem_cons_succ, List.setIfInBounds_toArray, List.set_cons_zero, List.set_cons_succ])
      refine wpAnyH_take (i := 26) (v := ?va24) rfl (by kernel_rfl) (by kernel_rfl) (by kernel_rfl) (fun _ _ _ h => h) (Or.inl ⟨by rfl, ?ya24⟩) (by assumption) ?ra24
      case ya24 => (intro w0 hSw; (try dsimp only at hSw); go_simp; (try with_reducible rfl))
      (try simp only [Act.put, List.getElem_toArray, List.getElem_cons_zero, List.getElem_cons_succ, List.setIfInBounds_toArray, List.set_cons_zero, List.set_cons_succ])
      refine wpAnyH_ready (rs := [27]) (by kernel_rfl) (by simp) ?_
      refine (AllReadyH.cons rfl (fun K hK => ?_) AllReadyH.nil)
      go_simp
      refine (dSitsI (t := ⟨⟨tp, tat, -ty⟩, t.long, ub⟩) (b := true) (((unhide HN6).below (unhide HB9)).below bw0) (((unhide HU6).s.below (unhide HB9)).below bw0) (unhide HSM) hubl (by simp [unhide HUS])).mono ?_
      rintro e w10 ⟨rfl, hb10⟩
      dsimp only
      have hB10 : Below w6.heap.size w6 w10 := below_then (unhide HB9) (below_then bw0 hb10)
      have hX10 := (unhide HN6).bn.below hB10
      have hY10 := (unhide HT6).bt.below hB10
      have hZ10 := (unhide HU6).bt.below hB10
      have nl10 := hX10.1
      have tl10 := hY10.1
      have ul10 := hZ10.1
      have HB10 := hide hB10
      have hH10 : (fun w' => w'.cell? ⟨N, 0, none⟩ = some (.slice a1 n.pieces.length k1) ∧ w'.cell? ⟨N, 1, none⟩ = some (.slice a2 n.joints.length k2) ∧ w'.cell? ⟨T, 0, none⟩ = some (.int .i64 t.front.piece) ∧ w'.cell? ⟨T, 1, none⟩ = some (.int .i64 t.front.at_) ∧ w'.cell? ⟨T, 2, none⟩ = some (.int .i64 t.front.way) ∧ w'.cell? ⟨T, 3, none⟩ = some (.int .i64 t.long) ∧ w'.cell? ⟨T, 4, none⟩ = some (.slice ta t.back.length tc) ∧ w'.cell? ⟨U, 0, none⟩ = some (.int .i64 tp) ∧ w'.cell? ⟨U, 1, none⟩ = some (.int .i64 tat) ∧ w'.cell? ⟨U, 2, none⟩ = some (.int .i64 (-ty)) ∧ w'.cell? ⟨U, 3, none⟩ = some (.int .i64 t.long) ∧ w'.cell? ⟨U, 4, none⟩ = some (.slice ua ub.length uk)) w10 := ⟨hX10.2.1 0 _ rfl, hX10.2.1 1 _ rfl, hY10.2.1 0 _ rfl, hY10.2.1 1 _ rfl, hY10.2.1 2 _ rfl, hY10.2.1 3 _ rfl, hY10.2.1 4 _ rfl, hZ10.2.1 0 _ rfl, hZ10.2.1 1 _ rfl, hZ10.2.1 2 _ rfl, hZ10.2.1 3 _ rfl, hZ10.2.1 4 _ rfl⟩
      clear hb10 hB10 hX10 hY10 hZ10
      refine hK.out _ _ hH10 (fun hHeld => ?_)
      clear hK K
      (try simp only [Act.put, List.getElem_toArray, List.getElem_cons_zero, List.getElem_cons_succ, List.setIfInBounds_toArray, List.set_cons_zero, List.set_cons_succ])
      refine wpAnyH_take (i := 28) (v := ?va25) rfl (by kernel_rfl) (by kernel_rfl) (by kernel_rfl) (fun _ _ _ h => h) (Or.inl ⟨by rfl, ?ya25⟩) (by assumption) ?ra25
      case ya25 => (intro w0 hSw; (try dsimp only at hSw); go_simp; (try with_reducible rfl))
      (try simp only [Act.put, List.getElem_toArray, List.getElem_cons_zero, List.getElem_cons_succ, List.setIfInBounds_toArray, List.set_cons_zero, List.set_cons_succ])
      refine wpAnyH_take (i := 29) (v := ?va26) rfl (by kernel_rfl) (by kernel_rfl) (by kernel_rfl) (fun _ _ _ h => h) (Or.inl ⟨by rfl, ?ya26⟩) (by assumption) ?ra26
      case ya26 => (intro w0 hSw; (try dsimp only at hSw); go_simp; (try with_reducible rfl))
      (try simp only [Act.put, List.getElem_toArray, List.getElem_cons_zero, List.getElem_cons_succ, List.setIfInBounds_toArray, List.set_cons_zero, List.set_cons_succ])
      refine wpAnyH_done (by kernel_rfl) ?_ _

      clear hHeld hH7 hH8 hH9 hH10 nl7 tl7 ul7 nl8 tl8 ul8 nl9 tl9 ul9 nl10 tl10 ul10 hq1 hq2
      clear n0 n1 nl
      clear t0 t1 t2 t3 t4 tl
      clear u0 u1 u2 u3 u4 ul
      have HN8 := hide ((unhide HN6).below (unhide HB10))
      have HT8 := hide ((unhide HT6).below (unhide HB10))
      have HU8 := hide ((unhide HU6).below (unhide HB10))
      have HP8 := hide ((unhide HP6).below (unhide HB10))
      have HV8 := hide ((unhide HV6).below (unhide HB10))
      have HBW := hide ((unhide HB6).trans ((unhide HB10).mono (unhide HB6).size))
      clear HP7 HB7 HB8 HB9 HB10 HN6 HT6 HU6 HP6 HV6 HB6
      go_wp2_with fail
      go_loopw [76] (fun z wr => ∃ i : Nat, z = .int .i64 i ∧ i ≤ qs.length ∧ Below w10.heap.size w10 wr) (fun z _ => qs.length - (intOf z).toNat)
      case atStart => exact ⟨0, rfl, Nat.zero_le _, bw0⟩
      case round =>
        obtain ⟨i, rfl, hi, hbr⟩ := hrel
        by_cases hlt : i < qs.length
        · have hlt' : (i : Int) < (qs.length : Int) := by omega
          have hrv : qs.reverse[qs.length - 1 - i]'(by simp; omega) = qs[i] := by
            rw [List.getElem_reverse]
            congr 1
            omega
          obtain ⟨b1, o1, rfl, hl1, p0, p1, p2⟩ := ((unhide HP8).below hbr) i hlt
          obtain ⟨b2, o2, rfl, hl2, q0, q1, q2⟩ := ((unhide HV8).below hbr) (qs.length - 1 - i) (by simp; omega)
          rw [hrv] at q0 q1 q2
          generalize qs[i] = x at *
          obtain ⟨xp, xf, xt⟩ := x
          dsimp only at p0 p1 p2 q0 q1 q2
          obtain ⟨j, hj⟩ : ∃ j, qs.length - 1 - i = j := ⟨_, rfl⟩
          rw [hj] at q0 q1 q2
          have e1 := hl1.2
          have e2 := hl2.2
          have hwi : IntKind.i64.wrap ((i : Int) + 1) = ((i + 1 : Nat) : Int) := (wrap_small (by omega) (by omega)).trans (by omega)
          have hw1 : IntKind.i64.wrap ((qs.length : Int) - 1) = (qs.length : Int) - 1 := wrap_small (by omega) (by omega)
          have hw2 : IntKind.i64.wrap ((qs.length : Int) - 1 - (i : Int)) = (j : Int) := (wrap_small (by omega) (by omega)).trans (by omega)
          have hjl : (j : Int) < (qs.length : Int) := by omega
          have HJ := hide hj
          clear hj hrv
          go_wp2_with fail
          go_quiet (fail)
          go_wp2_with fail
          exact ⟨⟨i + 1, rfl, by omega, hbr.trans bw0⟩, by simp [intOf]; omega⟩
        · have hlt' : ¬ (i : Int) < (qs.length : Int) := by omega
          have HNr := hide ((unhide HN8).below hbr)
          have HTr := hide ((unhide HT8).below hbr)
          have HUr := hide ((unhide HU8).below hbr)
          have HPr := hide ((unhide HP8).below hbr)
          have HBr := hide ((unhide HBW).trans (hbr.mono (unhide HBW).size))
          clear hbr HN8 HT8 HU8 HP8 HV8 HBW hi hlt
          have n0 := (unhide HNr).bn.2.1 0 _ rfl
          have n1 := (unhide HNr).bn.2.1 1 _ rfl
          have nl := (unhide HNr).bn.1
          have t0 := (unhide HTr).bt.2.1 0 _ rfl
          have t1 := (unhide HTr).bt.2.1 1 _ rfl
          have t2 := (unhide HTr).bt.2.1 2 _ rfl
          have t3 := (unhide HTr).bt.2.1 3 _ rfl
          have t4 := (unhide HTr).bt.2.1 4 _ rfl
          have tl := (unhide HTr).bt.1
          go_wp2_with fail
          clear n0 n1 nl
          clear t0 t1 t2 t3 t4 tl
          refine (dPlaceI (unhide HNr) (unhide HSM) (unhide HSR)).mono ?_
          rintro e w11 ⟨ra, rk, rfl, hR11, hb11⟩
          have hN11 := (unhide HNr).below hb11
          have hT11 := (unhide HTr).below hb11
          have n0 := hN11.bn.2.1 0 _ rfl
          have n1 := hN11.bn.2.1 1 _ rfl
          have nl := hN11.bn.1
          have t0 := hT11.bt.2.1 0 _ rfl
          have t1 := hT11.bt.2.1 1 _ rfl
          have t2 := hT11.bt.2.1 2 _ rfl
          have t3 := hT11.bt.2.1 3 _ rfl
          have t4 := hT11.bt.2.1 4 _ rfl
          have tl := hT11.bt.1
          clear hN11 hT11
          go_wp2_with fail
          clear n0 n1 nl
          clear t0 t1 t2 t3 t4 tl
          have hR12 : Boxed (w11.alloc (.cells #[.bool true, .int .i64 t.front.piece, .int .i64 t.front.at_, .int .i64 t.front.way, .int .i64 t.long, .slice ra t.back.length rk] 45)) w11.heap.size [.bool true, .int .i64 t.front.piece, .int .i64 t.front.at_, .int .i64 t.front.way, .int .i64 t.long, .slice ra t.back.length rk] := boxed_alloc _ _ _
          have hB12 : Below w11.heap.size w11 (w11.alloc (.cells #[.bool true, .int .i64 t.front.piece, .int .i64 t.front.at_, .int .i64 t.front.way, .int .i64 t.long, .slice ra t.back.length rk] 45)) := bw0
          obtain ⟨w12, hw12⟩ : ∃ w12, w11.alloc (.cells #[.bool true, .int .i64 t.front.piece, .int .i64 t.front.at_, .int .i64 t.front.way, .int .i64 t.long, .slice ra t.back.length rk] 45) = w12 := ⟨_, rfl⟩
          obtain ⟨R, hRe⟩ : ∃ R, w11.heap.size = R := ⟨_, rfl⟩
          rw [hw12] at hR12 hB12 ⊢
          have hbr2 := below_then hb11 hB12
          have HR12 := hide (And.intro (hR11.below hB12) (hRe ▸ hR12))
          rw [hRe]
          have HN12 := hide ((unhide HNr).below hbr2)
          have HT12 := hide ((unhide HTr).below hbr2)
          have HU12 := hide ((unhide HUr).below hbr2)
          have HP12 := hide ((unhide HPr).below hbr2)
          have HB12 := hide ((unhide HBr).trans (hbr2.mono (unhide HBr).size))
          clear hR11 hb11 hR12 hB12 hw12 hRe hbr2 HNr HTr HUr HPr HBr
          refine (dTailI (unhide HN12) (unhide HT12).s (unhide HSM) (unhide HTR)).mono ?_
          rintro e w13' ⟨rfl, hb13⟩
          rw [unhide HTL]
          dsimp only
          go_upto_region 20 with fail
          have hQ13 : Boxed (w13'.alloc (.cells #[.int .i64 tp, .int .i64 tat, .int .i64 ty] 29)) w13'.heap.size [.int .i64 tp, .int .i64 tat, .int .i64 ty] := boxed_alloc _ _ _
          have hB13 : Below w13'.heap.size w13' (w13'.alloc (.cells #[.int .i64 tp, .int .i64 tat, .int .i64 ty] 29)) := bw0
          obtain ⟨w13, hw13⟩ : ∃ w13, w13'.alloc (.cells #[.int .i64 tp, .int .i64 tat, .int .i64 ty] 29) = w13 := ⟨_, rfl⟩
          obtain ⟨Q, hQe⟩ : ∃ Q, w13'.heap.size = Q := ⟨_, rfl⟩
          rw [hw13] at hQ13 hB13 ⊢
          have hbr3 := below_then hb13 hB13
          rw [hQe] at hQ13 ⊢
          have HQ13 := hide hQ13
          have HR13 := hide (And.intro ((unhide HR12).1.below hbr3) ((unhide HR12).2.below hbr3))
          have HN13 := hide ((unhide HN12).below hbr3)
          have HT13 := hide ((unhide HT12).below hbr3)
          have HU13 := hide ((unhide HU12).below hbr3)
          have HP13 := hide ((unhide HP12).below hbr3)
          have HB13 := hide ((unhide HB12).trans (hbr3.mono (unhide HB12).size))
          clear hb13 hQ13 hB13 hw13 hQe hbr3 HR12 HN12 HT12 HU12 HP12 HB12
          have n0 := (unhide HN13).bn.2.1 0 _ rfl
          have n1 := (unhide HN13).bn.2.1 1 _ rfl
          have nl := (unhide HN13).bn.1
          have t0 := (unhide HT13).bt.2.1 0 _ rfl
          have t1 := (unhide HT13).bt.2.1 1 _ rfl
          have t2 := (unhide HT13).bt.2.1 2 _ rfl
          have t3 := (unhide HT13).bt.2.1 3 _ rfl
          have t4 := (unhide HT13).bt.2.1 4 _ rfl
          have tl := (unhide HT13).bt.1
          have u0 := (unhide HU13).bt.2.1 0 _ rfl
          have u1 := (unhide HU13).bt.2.1 1 _ rfl
          have u2 := (unhide HU13).bt.2.1 2 _ rfl
          have u3 := (unhide HU13).bt.2.1 3 _ rfl
          have u4 := (unhide HU13).bt.2.1 4 _ rfl
          have ul := (unhide HU13).bt.1
          have r0 := (unhide HR13).2.2.1 0 _ rfl
          have r1 := (unhide HR13).2.2.1 1 _ rfl
          have r2 := (unhide HR13).2.2.1 2 _ rfl
          have r3 := (unhide HR13).2.2.1 3 _ rfl
          have r4 := (unhide HR13).2.2.1 4 _ rfl
          have r5 := (unhide HR13).2.2.1 5 _ rfl
          have rl := (unhide HR13).2.1
          have q0 := (unhide HQ13).2.1 0 _ rfl
          have q1 := (unhide HQ13).2.1 1 _ rfl
          have q2 := (unhide HQ13).2.1 2 _ rfl
          have ql := (unhide HQ13).1
          (try dsimp only at u0 u1 u2 u3 u4)
          refine wp_region_held_drew (S := fun w' => w'.cell? ⟨N, 0, none⟩ = some (.slice a1 n.pieces.length k1) ∧ w'.cell? ⟨N, 1, none⟩ = some (.slice a2 n.joints.length k2) ∧ w'.cell? ⟨T, 0, none⟩ = some (.int .i64 t.front.piece) ∧ w'.cell? ⟨T, 1, none⟩ = some (.int .i64 t.front.at_) ∧ w'.cell? ⟨T, 2, none⟩ = some (.int .i64 t.front.way) ∧ w'.cell? ⟨T, 3, none⟩ = some (.int .i64 t.long) ∧ w'.cell? ⟨T, 4, none⟩ = some (.slice ta t.back.length tc) ∧ w'.cell? ⟨U, 0, none⟩ = some (.int .i64 tp) ∧ w'.cell? ⟨U, 1, none⟩ = some (.int .i64 tat) ∧ w'.cell? ⟨U, 2, none⟩ = some (.int .i64 (-ty)) ∧ w'.cell? ⟨U, 3, none⟩ = some (.int .i64 t.long) ∧ w'.cell? ⟨U, 4, none⟩ = some (.slice ua ub.length uk) ∧ w'.cell? ⟨R, 0, none⟩ = some (.bool true) ∧ w'.cell? ⟨R, 1, none⟩ = some (.int .i64 t.front.piece) ∧ w'.cell? ⟨R, 2, none⟩ = some (.int .i64 t.front.at_) ∧ w'.cell? ⟨R, 3, none⟩ = some (.int .i64 t.front.way) ∧ w'.cell? ⟨R, 4, none⟩ = some (.int .i64 t.long) ∧ w'.cell? ⟨R, 5, none⟩ = some (.slice ra t.back.length rk) ∧ w'.cell? ⟨Q, 0, none⟩ = some (.int .i64 tp) ∧ w'.cell? ⟨Q, 1, none⟩ = some (.int .i64 tat) ∧ w'.cell? ⟨Q, 2, none⟩ = some (.int .i64 ty)) (by kernel_rfl) ?_ (fun hHeld => ?_)
          · exact ⟨by simpa using n0, by simpa using n1, by simpa using t0, by simpa using t1, by simpa using t2, by simpa using t3, by simpa using t4, by simpa using u0, by simpa using u1, by simpa using u2, by simpa using u3, by simpa using u4, by simpa using r0, by simpa using r1, by simpa using r2, by simpa using r3, by simpa using r4, by simpa using r5, by simpa using q0, by simpa using q1, by simpa using q2⟩
          refine wpAnyH_take (i := 0) (v := ?vb1) rfl (by kernel_rfl) (by kernel_rfl) (by kernel_rfl) (fun _ _ _ h => h) (Or.inl ⟨by rfl, ?yb1⟩) (by assumption) ?rb1
          case yb1 => (intro w0 hSw; (try dsimp only at hSw); go_simp; (try with_reducible rfl))
          (try simp only [Act.put, List.getElem_toArray, List.getElem_cons_zero, List.getElem_cons_succ, List.setIfInBounds_toArray, List.set_cons_zero, List.set_cons_succ])
          refine wpAnyH_take (i := 1) (v := ?vb2) rfl (by kernel_rfl) (by kernel_rfl) (by kernel_rfl) (fun _ _ _ h => h) (Or.inl ⟨by rfl, ?yb2⟩) (by assumption) ?rb2
          case yb2 => (intro w0 hSw; (try dsimp only at hSw); go_simp; (try with_reducible rfl))
          (try simp only [Act.put, List.getElem_toArray, List.getElem_cons_zero, List.getElem_cons_succ, List.setIfInBounds_toArray, List.set_cons_zero, List.set_cons_succ])
          refine wpAnyH_take (i := 2) (v := ?vb3) rfl (by kernel_rfl) (by kernel_rfl) (by kernel_rfl) (fun _ _ _ h => h) (Or.inl ⟨by rfl, ?yb3⟩) (by assumption) ?rb3
          case yb3 => (intro w0 hSw; (try dsimp only at hSw); go_simp; (try with_reducible rfl))
          (try simp only [Act.put, List.getElem_toArray, List.getElem_cons_zero, List.getElem_cons_succ, List.setIfInBounds_toArray, List.set_cons_zero, List.set_cons_succ])
          refine wpAnyH_take (i := 3) (v := ?vb4) rfl (by kernel_rfl) (by kernel_rfl) (by kernel_rfl) (fun _ _ _ h => h) (Or.inl ⟨by rfl, ?yb4⟩) (by assumption) ?rb4
          case yb4 => (intro w0 hSw; (try dsimp only at hSw); go_simp; (try with_reducible rfl))
          (try simp only [Act.put, List.getElem_toArray, List.getElem_cons_zero, List.getElem_cons_succ, List.setIfInBounds_toArray, List.set_cons_zero, List.set_cons_succ])
          refine wpAnyH_take (i := 4) (v := ?vb5) rfl (by kernel_rfl) (by kernel_rfl) (by kernel_rfl) (fun _ _ _ h => h) (Or.inl ⟨by rfl, ?yb5⟩) (by assumption) ?rb5
          case yb5 => (intro w0 hSw; (try dsimp only at hSw); go_simp; (try with_reducible rfl))
          (try simp only [Act.put, List.getElem_toArray, List.getElem_cons_zero, List.getElem_cons_succ, List.setIfInBounds_toArray, List.set_cons_zero, List.set_cons_succ])
          refine wpAnyH_take (i := 5) (v := ?vb6) rfl (by kernel_rfl) (by kernel_rfl) (by kernel_rfl) (fun _ _ _ h => h) (Or.inl ⟨by rfl, ?yb6⟩) (by assumption) ?rb6
          case yb6 => (intro w0 hSw; (try dsimp only at hSw); go_simp; (try with_reducible rfl))
          (try simp only [Act.put, List.getElem_toArray, List.getElem_cons_zero, List.getElem_cons_succ, List.setIfInBounds_toArray, List.set_cons_zero, List.set_cons_succ])
          refine wpAnyH_take (i := 6) (v := ?vb7) rfl (by kernel_rfl) (by kernel_rfl) (by kernel_rfl) (fun _ _ _ h => h) (Or.inl ⟨by rfl, ?yb7⟩) (by assumption) ?rb7
          case yb7 => (intro w0 hSw; (try dsimp only at hSw); go_simp; (try with_reducible rfl))
          (try simp only [Act.put, List.getElem_toArray, List.getElem_cons_zero, List.getElem_cons_succ, List.setIfInBounds_toArray, List.set_cons_zero, List.set_cons_succ])
          refine wpAnyH_ready (rs := [7]) (by kernel_rfl) (by simp) ?_
          refine (AllReadyH.cons rfl (fun K hK => ?_) AllReadyH.nil)
          go_simp
          refine (wTrain_same t ra ta rk tc _ ((unhide HR13).1.sts.below bw0) ((unhide HT13).s.sts.below bw0) (by omega)).mono ?_
          rintro e w14 ⟨rfl, hb14⟩
          dsimp only
          have hB14 : Below w13.heap.size w13 w14 := below_then bw0 hb14
          have hX14 := (unhide HN13).bn.below hB14
          have hY14 := (unhide HT13).bt.below hB14
          have hZ14 := (unhide HU13).bt.below hB14
          have hR14 := (unhide HR13).2.below hB14
          have hQ14 := (unhide HQ13).below hB14
          have nl14 := hX14.1
          have tl14 := hY14.1
          have ul14 := hZ14.1
          have rl14 := hR14.1
          have ql14 := hQ14.1
          have HB14 := hide hB14
          have hH14 : (fun w' => w'.cell? ⟨N, 0, none⟩ = some (.slice a1 n.pieces.length k1) ∧ w'.cell? ⟨N, 1, none⟩ = some (.slice a2 n.joints.length k2) ∧ w'.cell? ⟨T, 0, none⟩ = some (.int .i64 t.front.piece) ∧ w'.cell? ⟨T, 1, none⟩ = some (.int .i64 t.front.at_) ∧ w'.cell? ⟨T, 2, none⟩ = some (.int .i64 t.front.way) ∧ w'.cell? ⟨T, 3, none⟩ = some (.int .i64 t.long) ∧ w'.cell? ⟨T, 4, none⟩ = some (.slice ta t.back.length tc) ∧ w'.cell? ⟨U, 0, none⟩ = some (.int .i64 tp) ∧ w'.cell? ⟨U, 1, none⟩ = some (.int .i64 tat) ∧ w'.cell? ⟨U, 2, none⟩ = some (.int .i64 (-ty)) ∧ w'.cell? ⟨U, 3, none⟩ = some (.int .i64 t.long) ∧ w'.cell? ⟨U, 4, none⟩ = some (.slice ua ub.length uk) ∧ w'.cell? ⟨R, 0, none⟩ = some (.bool true) ∧ w'.cell? ⟨R, 1, none⟩ = some (.int .i64 t.front.piece) ∧ w'.cell? ⟨R, 2, none⟩ = some (.int .i64 t.front.at_) ∧ w'.cell? ⟨R, 3, none⟩ = some (.int .i64 t.front.way) ∧ w'.cell? ⟨R, 4, none⟩ = some (.int .i64 t.long) ∧ w'.cell? ⟨R, 5, none⟩ = some (.slice ra t.back.length rk) ∧ w'.cell? ⟨Q, 0, none⟩ = some (.int .i64 tp) ∧ w'.cell? ⟨Q, 1, none⟩ = some (.int .i64 tat) ∧ w'.cell? ⟨Q, 2, none⟩ = some (.int .i64 ty)) w14 := ⟨hX14.2.1 0 _ rfl, hX14.2.1 1 _ rfl, hY14.2.1 0 _ rfl, hY14.2.1 1 _ rfl, hY14.2.1 2 _ rfl, hY14.2.1 3 _ rfl, hY14.2.1 4 _ rfl, hZ14.2.1 0 _ rfl, hZ14.2.1 1 _ rfl, hZ14.2.1 2 _ rfl, hZ14.2.1 3 _ rfl, hZ14.2.1 4 _ rfl, hR14.2.1 0 _ rfl, hR14.2.1 1 _ rfl, hR14.2.1 2 _ rfl, hR14.2.1 3 _ rfl, hR14.2.1 4 _ rfl, hR14.2.1 5 _ rfl, hQ14.2.1 0 _ rfl, hQ14.2.1 1 _ rfl, hQ14.2.1 2 _ rfl⟩
          clear hb14 hB14 hX14 hY14 hZ14 hR14 hQ14
          refine hK.out _ _ hH14 (fun hHeld => ?_)
          clear hK K
          (try simp only [Act.put, List.getElem_toArray, List.getElem_cons_zero, List.getElem_cons_succ, List.setIfInBounds_toArray, List.set_cons_zero, List.set_cons_succ])
          refine wpAnyH_take (i := 8) (v := ?vb8) rfl (by kernel_rfl) (by kernel_rfl) (by kernel_rfl) (fun _ _ _ h => h) (Or.inl ⟨by rfl, ?yb8⟩) (by assumption) ?rb8
          case yb8 => (intro w0 hSw; (try dsimp only at hSw); go_simp; (try with_reducible rfl))
          (try simp only [Act.put, List.getElem_toArray, List.getElem_cons_zero, List.getElem_cons_succ, List.setIfInBounds_toArray, List.set_cons_zero, List.set_cons_succ])
          refine wpAnyH_take (i := 9) (v := ?vb9) rfl (by kernel_rfl) (by kernel_rfl) (by kernel_rfl) (fun _ _ _ h => h) (Or.inl ⟨by rfl, ?yb9⟩) (by assumption) ?rb9
          case yb9 => (intro w0 hSw; (try dsimp only at hSw); go_simp; (try with_reducible rfl))
          (try simp only [Act.put, List.getElem_toArray, List.getElem_cons_zero, List.getElem_cons_succ, List.setIfInBounds_toArray, List.set_cons_zero, List.set_cons_succ])
          refine wpAnyH_take (i := 10) (v := ?vb10) rfl (by kernel_rfl) (by kernel_rfl) (by kernel_rfl) (fun _ _ _ h => h) (Or.inl ⟨by rfl, ?yb10⟩) (by assumption) ?rb10
          case yb10 => (intro w0 hSw; (try dsimp only at hSw); go_simp; (try with_reducible rfl))
          (try simp only [Act.put, List.getElem_toArray, List.getElem_cons_zero, List.getElem_cons_succ, List.setIfInBounds_toArray, List.set_cons_zero, List.set_cons_succ])
          refine wpAnyH_take (i := 11) (v := ?vb11) rfl (by kernel_rfl) (by kernel_rfl) (by kernel_rfl) (fun _ _ _ h => h) (Or.inl ⟨by rfl, ?yb11⟩) (by assumption) ?rb11
          case yb11 => (intro w0 hSw; (try dsimp only at hSw); go_simp; (try with_reducible rfl))
          (try simp only [Act.put, List.getElem_toArray, List.getElem_cons_zero, List.getElem_cons_succ, List.setIfInBounds_toArray, List.set_cons_zero, List.set_cons_succ])
          refine wpAnyH_take (i := 12) (v := ?vb12) rfl (by kernel_rfl) (by kernel_rfl) (by kernel_rfl) (fun _ _ _ h => h) (Or.inl ⟨by rfl, ?yb12⟩) (by assumption) ?rb12
          case yb12 => (intro w0 hSw; (try dsimp only at hSw); go_simp; (try with_reducible rfl))
          (try simp only [Act.put, List.getElem_toArray, List.getElem_cons_zero, List.getElem_cons_succ, List.setIfInBounds_toArray, List.set_cons_zero, List.set_cons_succ])
          refine wpAnyH_take (i := 13) (v := ?vb13) rfl (by kernel_rfl) (by kernel_rfl) (by kernel_rfl) (fun _ _ _ h => h) (Or.inl ⟨by rfl, ?yb13⟩) (by assumption) ?rb13
          case yb13 => (intro w0 hSw; (try dsimp only at hSw); go_simp; (try with_reducible rfl))
          (try simp only [Act.put, List.getElem_toArray, List.getElem_cons_zero, List.getElem_cons_succ, List.setIfInBounds_toArray, List.set_cons_zero, List.set_cons_succ])
          refine wpAnyH_ready (rs := [14]) (by kernel_rfl) (by simp) ?_
          refine (AllReadyH.cons rfl (fun K hK => ?_) AllReadyH.nil)
          go_simp
          refine (dTailS (((unhide HN13).below (unhide HB14)).below bw0) (((unhide HT13).s.below (unhide HB14)).below bw0) (unhide HSM) (unhide HTR)).mono ?_
          rintro e w15 ⟨rfl, hb15⟩
          dsimp only
          rw [unhide HTL]
          dsimp only
          have hB15 : Below w13.heap.size w13 w15 := below_then (unhide HB14) (below_then bw0 hb15)
          have hX15 := (unhide HN13).bn.below hB15
          have hY15 := (unhide HT13).bt.below hB15
          have hZ15 := (unhide HU13).bt.below hB15
          have hR15 := (unhide HR13).2.below hB15
          have hQ15 := (unhide HQ13).below hB15
          have nl15 := hX15.1
          have tl15 := hY15.1
          have ul15 := hZ15.1
          have rl15 := hR15.1
          have ql15 := hQ15.1
          have HB15 := hide hB15
          have hH15 : (fun w' => w'.cell? ⟨N, 0, none⟩ = some (.slice a1 n.pieces.length k1) ∧ w'.cell? ⟨N, 1, none⟩ = some (.slice a2 n.joints.length k2) ∧ w'.cell? ⟨T, 0, none⟩ = some (.int .i64 t.front.piece) ∧ w'.cell? ⟨T, 1, none⟩ = some (.int .i64 t.front.at_) ∧ w'.cell? ⟨T, 2, none⟩ = some (.int .i64 t.front.way) ∧ w'.cell? ⟨T, 3, none⟩ = some (.int .i64 t.long) ∧ w'.cell? ⟨T, 4, none⟩ = some (.slice ta t.back.length tc) ∧ w'.cell? ⟨U, 0, none⟩ = some (.int .i64 tp) ∧ w'.cell? ⟨U, 1, none⟩ = some (.int .i64 tat) ∧ w'.cell? ⟨U, 2, none⟩ = some (.int .i64 (-ty)) ∧ w'.cell? ⟨U, 3, none⟩ = some (.int .i64 t.long) ∧ w'.cell? ⟨U, 4, none⟩ = some (.slice ua ub.length uk) ∧ w'.cell? ⟨R, 0, none⟩ = some (.bool true) ∧ w'.cell? ⟨R, 1, none⟩ = some (.int .i64 t.front.piece) ∧ w'.cell? ⟨R, 2, none⟩ = some (.int .i64 t.front.at_) ∧ w'.cell? ⟨R, 3, none⟩ = some (.int .i64 t.front.way) ∧ w'.cell? ⟨R, 4, none⟩ = some (.int .i64 t.long) ∧ w'.cell? ⟨R, 5, none⟩ = some (.slice ra t.back.length rk) ∧ w'.cell? ⟨Q, 0, none⟩ = some (.int .i64 tp) ∧ w'.cell? ⟨Q, 1, none⟩ = some (.int .i64 tat) ∧ w'.cell? ⟨Q, 2, none⟩ = some (.int .i64 ty)) w15 := ⟨hX15.2.1 0 _ rfl, hX15.2.1 1 _ rfl, hY15.2.1 0 _ rfl, hY15.2.1 1 _ rfl, hY15.2.1 2 _ rfl, hY15.2.1 3 _ rfl, hY15.2.1 4 _ rfl, hZ15.2.1 0 _ rfl, hZ15.2.1 1 _ rfl, hZ15.2.1 2 _ rfl, hZ15.2.1 3 _ rfl, hZ15.2.1 4 _ rfl, hR15.2.1 0 _ rfl, hR15.2.1 1 _ rfl, hR15.2.1 2 _ rfl, hR15.2.1 3 _ rfl, hR15.2.1 4 _ rfl, hR15.2.1 5 _ rfl, hQ15.2.1 0 _ rfl, hQ15.2.1 1 _ rfl, hQ15.2.1 2 _ rfl⟩
          clear hb15 hB15 hX15 hY15 hZ15 hR15 hQ15
          refine hK.out _ _ hH15 (fun hHeld => ?_)
          clear hK K
          (try simp only [Act.put, List.getElem_toArray, List.getElem_cons_zero, List.getElem_cons_succ, List.setIfInBounds_toArray, List.set_cons_zero, List.set_cons_succ])
          refine wpAnyH_take (i := 15) (v := ?vb14) rfl (by kernel_rfl) (by kernel_rfl) (by kernel_rfl) (fun _ _ _ h => h) (Or.inl ⟨by rfl, ?yb14⟩) (by assumption) ?rb14
          case yb14 => (intro w0 hSw; (try dsimp only at hSw); go_simp; (try with_reducible rfl))
          (try simp only [Act.put, List.getElem_toArray, List.getElem_cons_zero, List.getElem_cons_succ, List.setIfInBounds_toArray, List.set_cons_zero, List.set_cons_succ])
          refine wpAnyH_take (i := 16) (v := ?vb15) rfl (by kernel_rfl) (by kernel_rfl) (by kernel_rfl) (fun _ _ _ h => h) (Or.inl ⟨by rfl, ?yb15⟩) (by assumption) ?rb15
          case yb15 => (intro w0 hSw; (try dsimp only at hSw); go_simp; (try with_reducible rfl))
          (try simp only [Act.put, List.getElem_toArray, List.getElem_cons_zero, List.getElem_cons_succ, List.setIfInBounds_toArray, List.set_cons_zero, List.set_cons_succ])
          refine wpAnyH_take (i := 17) (v := ?vb16) rfl (by kernel_rfl) (by kernel_rfl) (by kernel_rfl) (fun _ _ _ h => h) (Or.inl ⟨by rfl, ?yb16⟩) (by assumption) ?rb16
          case yb16 => (intro w0 hSw; (try dsimp only at hSw); go_simp; (try with_reducible rfl))
          (try simp only [Act.put, List.getElem_toArray, List.getElem_cons_zero, List.getElem_cons_succ, List.setIfInBounds_toArray, List.set_cons_zero, List.set_cons_succ])
          refine wpAnyH_take (i := 18) (v := ?vb17) rfl (by kernel_rfl) (by kernel_rfl) (by kernel_rfl) (fun _ _ _ h => h) (Or.inl ⟨by rfl, ?yb17⟩) (by assumption) ?rb17
          case yb17 => (intro w0 hSw; (try dsimp only at hSw); go_simp; (try with_reducible rfl))
          (try simp only [Act.put, List.getElem_toArray, List.getElem_cons_zero, List.getElem_cons_succ, List.setIfInBounds_toArray, List.set_cons_zero, List.set_cons_succ])
          refine wpAnyH_take (i := 19) (v := ?vb18) rfl (by kernel_rfl) (by kernel_rfl) (by kernel_rfl) (fun _ _ _ h => h) (Or.inl ⟨by rfl, ?yb18⟩) (by assumption) ?rb18
          case yb18 => (intro w0 hSw; (try dsimp only at hSw); go_simp; (try with_reducible rfl))
          (try simp only [Act.put, List.getElem_toArray, List.getElem_cons_zero, List.getElem_cons_succ, List.setIfInBounds_toArray, List.set_cons_zero, List.set_cons_succ])
          refine wpAnyH_take (i := 20) (v := ?vb19) rfl (by kernel_rfl) (by kernel_rfl) (by kernel_rfl) (fun _ _ _ h => h) (Or.inl ⟨by rfl, ?yb19⟩) (by assumption) ?rb19
          case yb19 => (intro w0 hSw; (try dsimp only at hSw); go_simp; (try with_reducible rfl))
          (try simp only [Act.put, List.getElem_toArray, List.getElem_cons_zero, List.getElem_cons_succ, List.setIfInBounds_toArray, List.set_cons_zero, List.set_cons_succ])
          refine wpAnyH_take (i := 21) (v := ?vb20) rfl (by kernel_rfl) (by kernel_rfl) (by kernel_rfl) (fun _ _ _ h => h) (Or.inl ⟨by rfl, ?yb20⟩) (by assumption) ?rb20
          case yb20 => (intro w0 hSw; (try dsimp only at hSw); go_simp; (try with_reducible rfl))
          (try simp only [Act.put, List.getElem_toArray, List.getElem_cons_zero, List.getElem_cons_succ, List.setIfInBounds_toArray, List.set_cons_zero, List.set_cons_succ])
          refine wpAnyH_take (i := 22) (v := ?vb21) rfl (by kernel_rfl) (by kernel_rfl) (by kernel_rfl) (fun _ _ _ h => h) (Or.inl ⟨by rfl, ?yb21⟩) (by assumption) ?rb21
          case yb21 => (intro w0 hSw; (try dsimp only at hSw); go_simp; (try with_reducible rfl))
          (try simp only [Act.put, List.getElem_toArray, List.getElem_cons_zero, List.getElem_cons_succ, List.setIfInBounds_toArray, List.set_cons_zero, List.set_cons_succ])
          refine wpAnyH_take (i := 23) (v := ?vb22) rfl (by kernel_rfl) (by kernel_rfl) (by kernel_rfl) (fun _ _ _ h => h) (Or.inl ⟨by rfl, ?yb22⟩) (by assumption) ?rb22
          case yb22 => (intro w0 hSw; (try dsimp only at hSw); go_simp; (try with_reducible rfl))
          (try simp only [Act.put, List.getElem_toArray, List.getElem_cons_zero, List.getElem_cons_succ, List.setIfInBounds_toArray, List.set_cons_zero, List.set_cons_succ])
          refine wpAnyH_take (i := 24) (v := ?vb23) rfl (by kernel_rfl) (by kernel_rfl) (by kernel_rfl) (fun _ _ _ h => h) (Or.inl ⟨by rfl, ?yb23⟩) (by assumption) ?rb23
          case yb23 => (intro w0 hSw; (try dsimp only at hSw); go_simp; (try with_reducible rfl))
          (try simp only [Act.put, List.getElem_toArray, List.getElem_cons_zero, List.getElem_cons_succ, List.setIfInBounds_toArray, List.set_cons_zero, List.set_cons_succ])
          refine wpAnyH_take (i := 25) (v := ?vb24) rfl (by kernel_rfl) (by kernel_rfl) (by kernel_rfl) (fun _ _ _ h => h) (Or.inl ⟨by rfl, ?yb24⟩) (by assumption) ?rb24
          case yb24 => (intro w0 hSw; (try dsimp only at hSw); go_simp; (try with_reducible rfl))
          (try simp only [Act.put, List.getElem_toArray, List.getElem_cons_zero, List.getElem_cons_succ, List.setIfInBounds_toArray, List.set_cons_zero, List.set_cons_succ])
          refine wpAnyH_take (i := 26) (v := ?vb25) rfl (by kernel_rfl) (by kernel_rfl) (by kernel_rfl) (fun _ _ _ h => h) (Or.inl ⟨by rfl, ?yb25⟩) (by assumption) ?rb25
          case yb25 => (intro w0 hSw; (try dsimp only at hSw); go_simp; (try with_reducible rfl))
          (try simp only [Act.put, List.getElem_toArray, List.getElem_cons_zero, List.getElem_cons_succ, List.setIfInBounds_toArray, List.set_cons_zero, List.set_cons_succ])
          refine wpAnyH_take (i := 27) (v := ?vb26) rfl (by kernel_rfl) (by kernel_rfl) (by kernel_rfl) (fun _ _ _ h => h) (Or.inl ⟨by rfl, ?yb26⟩) (by assumption) ?rb26
          case yb26 => (intro w0 hSw; (try dsimp only at hSw); go_simp; (try with_reducible rfl))
          (try simp only [Act.put, List.getElem_toArray, List.getElem_cons_zero, List.getElem_cons_succ, List.setIfInBounds_toArray, List.set_cons_zero, List.set_cons_succ])
          refine wpAnyH_take (i := 28) (v := ?vb27) rfl (by kernel_rfl) (by kernel_rfl) (by kernel_rfl) (fun _ _ _ h => h) (Or.inl ⟨by rfl, ?yb27⟩) (by assumption) ?rb27
          case yb27 => (intro w0 hSw; (try dsimp only at hSw); go_simp; (try with_reducible rfl))
          (try simp only [Act.put, List.getElem_toArray, List.getElem_cons_zero, List.getElem_cons_succ, List.setIfInBounds_toArray, List.set_cons_zero, List.set_cons_succ])
          refine wpAnyH_take (i := 29) (v := ?vb28) rfl (by kernel_rfl) (by kernel_rfl) (by kernel_rfl) (fun _ _ _ h => h) (Or.inl ⟨by rfl, ?yb28⟩) (by assumption) ?rb28
          case yb28 => (intro w0 hSw; (try dsimp only at hSw); go_simp; (try with_reducible rfl))
          (try simp only [Act.put, List.getElem_toArray, List.getElem_cons_zero, List.getElem_cons_succ, List.setIfInBounds_toArray, List.set_cons_zero, List.set_cons_succ])
          refine wpAnyH_take (i := 30) (v := ?vb29) rfl (by kernel_rfl) (by kernel_rfl) (by kernel_rfl) (fun _ _ _ h => h) (Or.inl ⟨by rfl, ?yb29⟩) (by assumption) ?rb29
          case yb29 => (intro w0 hSw; (try dsimp only at hSw); go_simp; (try with_reducible rfl))
          (try simp only [Act.put, List.getElem_toArray, List.getElem_cons_zero, List.getElem_cons_succ, List.setIfInBounds_toArray, List.set_cons_zero, List.set_cons_succ])
          refine wpAnyH_take (i := 31) (v := ?vb30) rfl (by kernel_rfl) (by kernel_rfl) (by kernel_rfl) (fun _ _ _ h => h) (Or.inl ⟨by rfl, ?yb30⟩) (by assumption) ?rb30
          case yb30 => (intro w0 hSw; (try dsimp only at hSw); go_simp; (try with_reducible rfl))
          (try simp only [Act.put, List.getElem_toArray, List.getElem_cons_zero, List.getElem_cons_succ, List.setIfInBounds_toArray, List.set_cons_zero, List.set_cons_succ])
          refine wpAnyH_take (i := 32) (v := ?vb31) rfl (by kernel_rfl) (by kernel_rfl) (by kernel_rfl) (fun _ _ _ h => h) (Or.inl ⟨by rfl, ?yb31⟩) (by assumption) ?rb31
          case yb31 => (intro w0 hSw; (try dsimp only at hSw); go_simp; (try with_reducible rfl))
          (try simp only [Act.put, List.getElem_toArray, List.getElem_cons_zero, List.getElem_cons_succ, List.setIfInBounds_toArray, List.set_cons_zero, List.set_cons_succ])
          refine wpAnyH_take (i := 33) (v := ?vb32) rfl (by kernel_rfl) (by kernel_rfl) (by kernel_rfl) (fun _ _ _ h => h) (Or.inl ⟨by rfl, ?yb32⟩) (by assumption) ?rb32
          case yb32 => (intro w0 hSw; (try dsimp only at hSw); go_simp; (try with_reducible rfl))
          (try simp only [Act.put, List.getElem_toArray, List.getElem_cons_zero, List.getElem_cons_succ, List.setIfInBounds_toArray, List.set_cons_zero, List.set_cons_succ])
          refine wpAnyH_take (i := 34) (v := ?vb33) rfl (by kernel_rfl) (by kernel_rfl) (by kernel_rfl) (fun _ _ _ h => h) (Or.inl ⟨by rfl, ?yb33⟩) (by assumption) ?rb33
          case yb33 => (intro w0 hSw; (try dsimp only at hSw); go_simp; (try with_reducible rfl))
          (try simp only [Act.put, List.getElem_toArray, List.getElem_cons_zero, List.getElem_cons_succ, List.setIfInBounds_toArray, List.set_cons_zero, List.set_cons_succ])
          refine wpAnyH_take (i := 35) (v := ?vb34) rfl (by kernel_rfl) (by kernel_rfl) (by kernel_rfl) (fun _ _ _ h => h) (Or.inl ⟨by rfl, ?yb34⟩) (by assumption) ?rb34
          case yb34 => (intro w0 hSw; (try dsimp only at hSw); go_simp; (try with_reducible rfl))
          (try simp only [Act.put, List.getElem_toArray, List.getElem_cons_zero, List.getElem_cons_succ, List.setIfInBounds_toArray, List.set_cons_zero, List.set_cons_succ])
          refine wpAnyH_take (i := 36) (v := ?vb35) rfl (by kernel_rfl) (by kernel_rfl) (by kernel_rfl) (fun _ _ _ h => h) (Or.inl ⟨by rfl, ?yb35⟩) (by assumption) ?rb35
          case yb35 => (intro w0 hSw; (try dsimp only at hSw); go_simp; (try with_reducible rfl))
          (try simp only [Act.put, List.getElem_toArray, List.getElem_cons_zero, List.getElem_cons_succ, List.setIfInBounds_toArray, List.set_cons_zero, List.set_cons_succ])
          refine wpAnyH_take (i := 37) (v := ?vb36) rfl (by kernel_rfl) (by kernel_rfl) (by kernel_rfl) (fun _ _ _ h => h) (Or.inl ⟨by rfl, ?yb36⟩) (by assumption) ?rb36
          case yb36 => (intro w0 hSw; (try dsimp only at hSw); go_simp; (try with_reducible rfl))
          (try simp only [Act.put, List.getElem_toArray, List.getElem_cons_zero, List.getElem_cons_succ, List.setIfInBounds_toArray, List.set_cons_zero, List.set_cons_succ])
          refine wpAnyH_take (i := 38) (v := ?vb37) rfl (by kernel_rfl) (by kernel_rfl) (by kernel_rfl) (fun _ _ _ h => h) (Or.inl ⟨by rfl, ?yb37⟩) (by assumption) ?rb37
          case yb37 => (intro w0 hSw; (try dsimp only at hSw); go_simp; (try with_reducible rfl))
          (try simp only [Act.put, List.getElem_toArray, List.getElem_cons_zero, List.getElem_cons_succ, List.setIfInBounds_toArray, List.set_cons_zero, List.set_cons_succ])
          refine wpAnyH_take (i := 39) (v := ?vb38) rfl (by kernel_rfl) (by kernel_rfl) (by kernel_rfl) (fun _ _ _ h => h) (Or.inl ⟨by rfl, ?yb38⟩) (by assumption) ?rb38
          case yb38 => (intro w0 hSw; (try dsimp only at hSw); go_simp; (try with_reducible rfl))
          (try simp only [Act.put, List.getElem_toArray, List.getElem_cons_zero, List.getElem_cons_succ, List.setIfInBounds_toArray, List.set_cons_zero, List.set_cons_succ])
          refine wpAnyH_take (i := 40) (v := ?vb39) rfl (by kernel_rfl) (by kernel_rfl) (by kernel_rfl) (fun _ _ _ h => h) (Or.inl ⟨by rfl, ?yb39⟩) (by assumption) ?rb39
          case yb39 => (intro w0 hSw; (try dsimp only at hSw); go_simp; (try with_reducible rfl))
          (try simp only [Act.put, List.getElem_toArray, List.getElem_cons_zero, List.getElem_cons_succ, List.setIfInBounds_toArray, List.set_cons_zero, List.set_cons_succ])
          refine wpAnyH_take (i := 41) (v := ?vb40) rfl (by kernel_rfl) (by kernel_rfl) (by kernel_rfl) (fun _ _ _ h => h) (Or.inl ⟨by rfl, ?yb40⟩) (by assumption) ?rb40
          case yb40 => (intro w0 hSw; (try dsimp only at hSw); go_simp; (try with_reducible rfl))
          (try simp only [Act.put, List.getElem_toArray, List.getElem_cons_zero, List.getElem_cons_succ, List.setIfInBounds_toArray, List.set_cons_zero, List.set_cons_succ])
          refine wpAnyH_done (by kernel_rfl) ?_ _

          clear hHeld hH14 hH15 nl14 tl14 ul14 rl14 ql14 nl15 tl15 ul15 rl15 ql15
          clear n0 n1 nl
          clear t0 t1 t2 t3 t4 tl
          clear u0 u1 u2 u3 u4 ul
          clear r0 r1 r2 r3 r4 r5 rl
          clear q0 q1 q2 ql
          have HN16 := hide ((unhide HN13).below (unhide HB15))
          have HU16 := hide ((unhide HU13).below (unhide HB15))
          have HP16 := hide ((unhide HP13).below (unhide HB15))
          have HB16 := hide ((unhide HB13).trans ((unhide HB15).mono (unhide HB13).size))
          clear HN13 HT13 HU13 HP13 HR13 HQ13 HB13 HB14 HB15
          have n0 := (unhide HN16).bn.2.1 0 _ rfl
          have n1 := (unhide HN16).bn.2.1 1 _ rfl
          have nl := (unhide HN16).bn.1
          have u0 := (unhide HU16).bt.2.1 0 _ rfl
          have u1 := (unhide HU16).bt.2.1 1 _ rfl
          have u2 := (unhide HU16).bt.2.1 2 _ rfl
          have u3 := (unhide HU16).bt.2.1 3 _ rfl
          have u4 := (unhide HU16).bt.2.1 4 _ rfl
          have ul := (unhide HU16).bt.1
          (try dsimp only at u0 u1 u2 u3 u4)
          go_upto_region 22 with fail
          refine wp_region_held_drew (S := fun w' => w'.cell? ⟨N, 0, none⟩ = some (.slice a1 n.pieces.length k1) ∧ w'.cell? ⟨N, 1, none⟩ = some (.slice a2 n.joints.length k2) ∧ w'.cell? ⟨U, 0, none⟩ = some (.int .i64 tp) ∧ w'.cell? ⟨U, 1, none⟩ = some (.int .i64 tat) ∧ w'.cell? ⟨U, 2, none⟩ = some (.int .i64 (-ty)) ∧ w'.cell? ⟨U, 3, none⟩ = some (.int .i64 t.long) ∧ w'.cell? ⟨U, 4, none⟩ = some (.slice ua ub.length uk)) (by kernel_rfl) ?_ (fun hHeld => ?_)
          · exact ⟨by simpa using n0, by simpa using n1, by simpa using u0, by simpa using u1, by simpa using u2, by simpa using u3, by simpa using u4⟩
          refine wpAnyH_take (i := 0) (v := ?vc1) rfl (by kernel_rfl) (by kernel_rfl) (by kernel_rfl) (fun _ _ _ h => h) (Or.inl ⟨by rfl, ?yc1⟩) (by assumption) ?rc1
          case yc1 => (intro w0 hSw; (try dsimp only at hSw); go_simp; (try with_reducible rfl))
          (try simp only [Act.put, List.getElem_toArray, List.getElem_cons_zero, List.getElem_cons_succ, List.setIfInBounds_toArray, List.set_cons_zero, List.set_cons_succ])
          refine wpAnyH_take (i := 1) (v := ?vc2) rfl (by kernel_rfl) (by kernel_rfl) (by kernel_rfl) (fun _ _ _ h => h) (Or.inl ⟨by rfl, ?yc2⟩) (by assumption) ?rc2
          case yc2 => (intro w0 hSw; (try dsimp only at hSw); go_simp; (try with_reducible rfl))
          (try simp only [Act.put, List.getElem_toArray, List.getElem_cons_zero, List.getElem_cons_succ, List.setIfInBounds_toArray, List.set_cons_zero, List.set_cons_succ])
          refine wpAnyH_take (i := 2) (v := ?vc3) rfl (by kernel_rfl) (by kernel_rfl) (by kernel_rfl) (fun _ _ _ h => h) (Or.inl ⟨by rfl, ?yc3⟩) (by assumption) ?rc3
          case yc3 => (intro w0 hSw; (try dsimp only at hSw); go_simp; (try with_reducible rfl))
          (try simp only [Act.put, List.getElem_toArray, List.getElem_cons_zero, List.getElem_cons_succ, List.setIfInBounds_toArray, List.set_cons_zero, List.set_cons_succ])
          refine wpAnyH_take (i := 5) (v := ?vc4) rfl (by kernel_rfl) (by kernel_rfl) (by kernel_rfl) (fun _ _ _ h => h) (Or.inl ⟨by rfl, ?yc4⟩) (by assumption) ?rc4
          case yc4 => (intro w0 hSw; (try dsimp only at hSw); go_simp; (try with_reducible rfl))
          (try simp only [Act.put, List.getElem_toArray, List.getElem_cons_zero, List.getElem_cons_succ, List.setIfInBounds_toArray, List.set_cons_zero, List.set_cons_succ])
          refine wpAnyH_ready (rs := [3]) (by kernel_rfl) (by simp) ?_
          refine (AllReadyH.cons rfl (fun K hK => ?_) AllReadyH.nil)
          go_simp
          refine (dTurnI (t := ⟨⟨tp, tat, -ty⟩, t.long, ub⟩) ((unhide HN16).below bw0) ((unhide HU16).s.below bw0) (unhide HSM) (unhide HUR)).mono ?_
          rintro e w17 ⟨xa, xk, rfl, hX17, hb17⟩
          dsimp only [trV]
          obtain ⟨x, hx⟩ : ∃ x, turnOf n ⟨⟨tp, tat, -ty⟩, t.long, ub⟩ = x := ⟨_, rfl⟩
          have hXR := turn_right (unhide HUR)
          have hXB := unhide HBUU
          rw [hx] at hX17 hXR hXB ⊢
          have HX17 := hide hX17
          have HXR := hide hXR
          have HXB := hide hXB
          have hB17 : Below w15.heap.size w15 w17 := below_then bw0 hb17
          have hn17 := (unhide HN16).bn.below hB17
          have hu17 := (unhide HU16).bt.below hB17
          have nl17 := hn17.1
          have ul17 := hu17.1
          have HB17 := hide hB17
          have hH17 : (fun w' => w'.cell? ⟨N, 0, none⟩ = some (.slice a1 n.pieces.length k1) ∧ w'.cell? ⟨N, 1, none⟩ = some (.slice a2 n.joints.length k2) ∧ w'.cell? ⟨U, 0, none⟩ = some (.int .i64 tp) ∧ w'.cell? ⟨U, 1, none⟩ = some (.int .i64 tat) ∧ w'.cell? ⟨U, 2, none⟩ = some (.int .i64 (-ty)) ∧ w'.cell? ⟨U, 3, none⟩ = some (.int .i64 t.long) ∧ w'.cell? ⟨U, 4, none⟩ = some (.slice ua ub.length uk)) w17 := ⟨hn17.2.1 0 _ rfl, hn17.2.1 1 _ rfl, hu17.2.1 0 _ rfl, hu17.2.1 1 _ rfl, hu17.2.1 2 _ rfl, hu17.2.1 3 _ rfl, hu17.2.1 4 _ rfl⟩
          clear hx hX17 hXR hXB hb17 hB17 hn17 hu17
          refine hK.out _ _ hH17 (fun hHeld => ?_)
          clear hK K
          (try simp only [Act.put, List.getElem_toArray, List.getElem_cons_zero, List.getElem_cons_succ, List.setIfInBounds_toArray, List.set_cons_zero, List.set_cons_succ])
          refine wpAnyH_ready (rs := [4]) (by kernel_rfl) (by simp) ?_
          refine (AllReadyH.cons rfl (fun K hK => ?_) AllReadyH.nil)
          go_simp
          refine (dBodyI (t := x) (((unhide HN16).below (unhide HB17)).below bw0) ((unhide HX17).below bw0) (unhide HSM) (unhide HXR)).mono ?_
          rintro e w18 ⟨ya, yk, rfl, hP18, hb18⟩
          dsimp only
          rw [unhide HXB] at hP18 ⊢
          have HP18 := hide hP18
          have hB18 : Below w15.heap.size w15 w18 := below_then (unhide HB17) (below_then bw0 hb18)
          have hn18 := (unhide HN16).bn.below hB18
          have hu18 := (unhide HU16).bt.below hB18
          have nl18 := hn18.1
          have ul18 := hu18.1
          have HB18 := hide hB18
          have hH18 : (fun w' => w'.cell? ⟨N, 0, none⟩ = some (.slice a1 n.pieces.length k1) ∧ w'.cell? ⟨N, 1, none⟩ = some (.slice a2 n.joints.length k2) ∧ w'.cell? ⟨U, 0, none⟩ = some (.int .i64 tp) ∧ w'.cell? ⟨U, 1, none⟩ = some (.int .i64 tat) ∧ w'.cell? ⟨U, 2, none⟩ = some (.int .i64 (-ty)) ∧ w'.cell? ⟨U, 3, none⟩ = some (.int .i64 t.long) ∧ w'.cell? ⟨U, 4, none⟩ = some (.slice ua ub.length uk)) w18 := ⟨hn18.2.1 0 _ rfl, hn18.2.1 1 _ rfl, hu18.2.1 0 _ rfl, hu18.2.1 1 _ rfl, hu18.2.1 2 _ rfl, hu18.2.1 3 _ rfl, hu18.2.1 4 _ rfl⟩
          clear hP18 hb18 hB18 hn18 hu18
          refine hK.out _ _ hH18 (fun hHeld => ?_)
          clear hK K
          (try simp only [Act.put, List.getElem_toArray, List.getElem_cons_zero, List.getElem_cons_succ, List.setIfInBounds_toArray, List.set_cons_zero, List.set_cons_succ])
          refine wpAnyH_ready (rs := [6]) (by kernel_rfl) (by simp) ?_
          refine (AllReadyH.cons rfl (fun K hK => ?_) AllReadyH.nil)
          go_simp
          refine (wParts_same qs ya pa yk pk _ ((unhide HP18).below bw0) (((unhide HP16).below (unhide HB18)).below bw0) (by omega)).mono ?_
          rintro e w19 ⟨rfl, hb19⟩
          dsimp only
          have hB19 : Below w15.heap.size w15 w19 := below_then (unhide HB18) (below_then bw0 hb19)
          have hn19 := (unhide HN16).bn.below hB19
          have hu19 := (unhide HU16).bt.below hB19
          have HB19 := hide hB19
          have hH19 : (fun w' => w'.cell? ⟨N, 0, none⟩ = some (.slice a1 n.pieces.length k1) ∧ w'.cell? ⟨N, 1, none⟩ = some (.slice a2 n.joints.length k2) ∧ w'.cell? ⟨U, 0, none⟩ = some (.int .i64 tp) ∧ w'.cell? ⟨U, 1, none⟩ = some (.int .i64 tat) ∧ w'.cell? ⟨U, 2, none⟩ = some (.int .i64 (-ty)) ∧ w'.cell? ⟨U, 3, none⟩ = some (.int .i64 t.long) ∧ w'.cell? ⟨U, 4, none⟩ = some (.slice ua ub.length uk)) w19 := ⟨hn19.2.1 0 _ rfl, hn19.2.1 1 _ rfl, hu19.2.1 0 _ rfl, hu19.2.1 1 _ rfl, hu19.2.1 2 _ rfl, hu19.2.1 3 _ rfl, hu19.2.1 4 _ rfl⟩
          clear hb19 hB19 hn19 hu19
          refine hK.out _ _ hH19 (fun hHeld => ?_)
          clear hK K
          (try simp only [Act.put, List.getElem_toArray, List.getElem_cons_zero, List.getElem_cons_succ, List.setIfInBounds_toArray, List.set_cons_zero, List.set_cons_succ])
          refine wpAnyH_take (i := 7) (v := ?vc5) rfl (by kernel_rfl) (by kernel_rfl) (by kernel_rfl) (fun _ _ _ h => h) (Or.inl ⟨by rfl, ?yc5⟩) (by assumption) ?rc5
          case yc5 => (intro w0 hSw; (try dsimp only at hSw); go_simp; (try with_reducible rfl))
          (try simp only [Act.put, List.getElem_toArray, List.getElem_cons_zero, List.getElem_cons_succ, List.setIfInBounds_toArray, List.set_cons_zero, List.set_cons_succ])
          refine wpAnyH_done (by kernel_rfl) ?_ _

          go_wp2_with fail
          go_ret
          exact ⟨rfl, (unhide HB16).trans ((unhide HB19).mono (unhide HB16).size)⟩

end Go.Proofs.YtbdggfpfpjijoaaGreat

