import Derived.Test.YtjacbppeebnjfaaGreatMFe1
import Derived.Test.YtjacbppeebnjfaaGreatMIr
import Derived.Test.YtjacbppeebnjfaaGreatMKt17
import Derived.Test.YtjacbppeebnjfaaGreatMPlain
import Derived.Test.YtjacbppeebnjfaaGreatMKt22
import Derived.Test.YtjacbppeebnjfaaGreatMDr11
set_option linter.unusedSimpArgs false
namespace Go.Proofs.YtjacbppeebnjfaaGreat
open Go.RowKit

structure Nw (n : Nt) (zs : List Int) (a1 a2 zq : Option Addr) (k1 k2 N : Nat) (w : World) : Prop where
 net : NetAt 0 w (.agg #[.slice a1 n.pieces.length k1, .slice a2 n.joints.length k2]) n
 lies : IntsAt 0 w zq zs
 bn : Boxed w N [.slice a1 n.pieces.length k1, .slice a2 n.joints.length k2]
theorem Nw.below {n : Nt} {zs : List Int} {a1 a2 zq : Option Addr} {k1 k2 N : Nat} {w w' : World} (h : Nw n zs a1 a2 zq k1 k2 N w) (hb : Below w.heap.size w w') : Nw n zs a1 a2 zq k1 k2 N w' :=
 ⟨h.net.below hb, IntsAt.below h.lies hb, h.bn.below hb⟩
structure Ts0 (t : Tr) (ta : Option Addr) (tc : Nat) (w : World) : Prop where
 sts : StsAt 0 w ta t.back
 cap : t.back.length ≤ tc
structure Tw (t : Tr) (ta : Option Addr) (tc T : Nat) (w : World) : Prop where
 s : Ts0 t ta tc w
 bt : Boxed w T [.int .i64 t.front.piece, .int .i64 t.front.at_, .int .i64 t.front.way, .int .i64 t.long, .slice ta t.back.length tc]
theorem Ts0.below {t : Tr} {ta : Option Addr} {tc : Nat} {w w' : World} (h : Ts0 t ta tc w) (hb : Below w.heap.size w w') : Ts0 t ta tc w' := ⟨h.sts.below hb, h.cap⟩
theorem Tw.below {t : Tr} {ta : Option Addr} {tc T : Nat} {w w' : World} (h : Tw t ta tc T w) (hb : Below w.heap.size w w') : Tw t ta tc T w' := ⟨h.s.below hb, h.bt.below hb⟩
theorem Ts0.tr {t : Tr} {ta : Option Addr} {tc : Nat} {w : World} (h : Ts0 t ta tc w) : TrAt 0 w (trV t ta tc) t := ⟨ta, tc, rfl, h.sts⟩
theorem stRow_ts0 {w : World} {base : Nat} {t : Tr} {a : Option Addr} {cap : Nat} (h : StRow w base (.slice a t.back.length cap) t.back) : Ts0 t a cap w := by
 obtain ⟨a', cap', e, hcap, hc⟩ := Row.shape (f := stF) (sz := 2) (fun _ => rfl) h
 simp at e
 obtain ⟨rfl, rfl⟩ := e
 refine ⟨fun i hi => ?_, hcap⟩
 obtain ⟨g, rfl, hl, hcell⟩ := hc i hi
 exact ⟨g, 0, rfl, ⟨Nat.zero_le _, hl.2⟩, by simpa [stF] using hcell 0 (by omega), by simpa [stF] using hcell 1 (by omega)⟩
theorem Tw.box {t : Tr} {ta : Option Addr} {tc : Nat} {w : World} (h : Ts0 t ta tc w) (ty : TypeId) : Tw t ta tc w.heap.size (w.alloc (.cells #[.int .i64 t.front.piece, .int .i64 t.front.at_, .int .i64 t.front.way, .int .i64 t.long, .slice ta t.back.length tc] ty)) :=
 ⟨h.below bw0, boxed_alloc _ _ _⟩
theorem drawn_boxes {w w1 : World} {n : Nt} {zs : List Int} {t : Tr} {a1 a2 zq ta : Option Addr} {k1 k2 zc tc : Nat} (tn tt : TypeId) (hN : NetAt w.heap.size w1 (.agg #[.slice a1 n.pieces.length k1, .slice a2 n.joints.length k2]) n) (hZ : IRow w1 w.heap.size (.slice zq zs.length zc) zs) (hS : StRow w1 w.heap.size (.slice ta t.back.length tc) t.back) (hB : Below w.heap.size w w1) :
  ∃ N T w2, N = w1.heap.size ∧ T = w1.heap.size + 1 ∧ w2 = (w1.alloc (.cells #[.slice a1 n.pieces.length k1, .slice a2 n.joints.length k2] tn)).alloc (.cells #[.int .i64 t.front.piece, .int .i64 t.front.at_, .int .i64 t.front.way, .int .i64 t.long, .slice ta t.back.length tc] tt)
   ∧ Nw n zs a1 a2 zq k1 k2 N w2 ∧ Tw t ta tc T w2 ∧ Below w.heap.size w w2 := by
 refine ⟨_, _, _, rfl, rfl, rfl, ?_, ?_, ?_⟩
 ·have hb1 : Below w1.heap.size w1 (w1.alloc (.cells #[.slice a1 n.pieces.length k1, .slice a2 n.joints.length k2] tn)) := bw0
  have : Nw n zs a1 a2 zq k1 k2 w1.heap.size (w1.alloc (.cells #[.slice a1 n.pieces.length k1, .slice a2 n.joints.length k2] tn)) := ⟨(hN.mono (Nat.zero_le _)).below hb1, IntsAt.below (fun i hi => by obtain ⟨b, o, e, hl, hc⟩ := iRow_ints hZ i hi; exact ⟨b, o, e, ⟨Nat.zero_le _, hl.2⟩, hc⟩) hb1, boxed_alloc _ _ _⟩
  exact this.below bw0
 ·have hb1 : Below w1.heap.size w1 (w1.alloc (.cells #[.slice a1 n.pieces.length k1, .slice a2 n.joints.length k2] tn)) := bw0
  have h := Tw.box ((stRow_ts0 hS).below hb1) tt
  rw [show (w1.alloc (.cells #[.slice a1 n.pieces.length k1, .slice a2 n.joints.length k2] tn)).heap.size = w1.heap.size + 1 by simp] at h
  exact h
 ·exact hB.trans (Below.mono (B := w1.heap.size) bw0 hB.size)
end Go.Proofs.YtjacbppeebnjfaaGreat

set_option linter.unusedSimpArgs false
namespace Go.Proofs.YtjacbppeebnjfaaGreat
open Go.RowKit

def tvF (p : Tr × Value) : List Value := [.int .i64 p.1.front.piece, .int .i64 p.1.front.at_, .int .i64 p.1.front.way, .int .i64 p.1.long, p.2]
theorem tvF_len (p : Tr × Value) : (tvF p).length = 5 := rfl
abbrev TvRow (w : World) (base : Nat) (v : Value) (qs : List (Tr × Value)) : Prop := Row w base 32 5 tvF v qs
theorem info_Train : (Tryz.prog.info? 32).map (fun i => (i.zero, i.size, i.bytes)) = some (some (.agg #[.int .i64 0, .int .i64 0, .int .i64 0, .int .i64 0, .slice none 0 0]), 5, 56) := by kernel_rfl
theorem tv_one (t : Tr) (a : Option Addr) (m c : Nat) : ∀ u ∈ tvF (t, .slice a m c), u.oneCell' = true := by
 intro u hu
 simp [tvF] at hu
 rcases hu with rfl | rfl | rfl | rfl | rfl <;> rfl
def TnRow (w : World) (base : Nat) (v : Value) (ts : List Tr) : Prop := ∃ qs : List (Tr × Value), qs.map Prod.fst = ts ∧ TvRow w base v qs ∧ ∀ q ∈ qs, ∃ a cap, q.2 = .slice a q.1.back.length cap ∧ StRow w base q.2 q.1.back
theorem tnRow_nil (w : World) (base : Nat) : TnRow w base (.slice none 0 0) [] := ⟨[], rfl, Row.nil _ _ _ _ _, fun q hq => by cases hq⟩
theorem TnRow.blocks {w w' : World} {base : Nat} {v : Value} {ts : List Tr} (h : TnRow w base v ts) (hb : ∀ k, base ≤ k → k < w.heap.size → w'.heap[k]? = w.heap[k]?) : TnRow w' base v ts := by
 obtain ⟨qs, e, h1, h2⟩ := h
 refine ⟨qs, e, h1.block fun k hk => hb k (h1.lt k hk).1 (h1.lt k hk).2, fun q hq => ?_⟩
 obtain ⟨a, cap, he, hr⟩ := h2 q hq
 exact ⟨a, cap, he, hr.block fun k hk => hb k (hr.lt k hk).1 (hr.lt k hk).2⟩
theorem TnRow.mono {w : World} {base base' : Nat} {v : Value} {ts : List Tr} (h : TnRow w base v ts) (hb : base' ≤ base) : TnRow w base' v ts := by
 obtain ⟨qs, e, h1, h2⟩ := h
 refine ⟨qs, e, Row.mono h1 hb, fun q hq => ?_⟩
 obtain ⟨a, cap, he, hr⟩ := h2 q hq
 exact ⟨a, cap, he, Row.mono hr hb⟩

end Go.Proofs.YtjacbppeebnjfaaGreat

set_option linter.unusedSimpArgs false
namespace Go.Proofs.YtjacbppeebnjfaaGreat
open Go.RowKit

structure MoW (C base0 : Nat) (bs : List Int) (n : Nt) (w3 : World) (c : Cu) (u : Value) (ts : List Tr) (w : World) : Prop where
 cur : CurAt w C bs c
 row : TnRow w base0 u ts
 ok : ∀ t ∈ ts, TrainRight n t
 but : But (fun k => k = C) base0 w3 w
 base_ : base0 ≤ w.heap.size
theorem MoW.draw {C base0 : Nat} {bs : List Int} {n : Nt} {w3 w w' : World} {c c' : Cu} {u : Value} {ts : List Tr} (h : MoW C base0 bs n w3 c u ts w) (ho : But (fun k => k = C) w.heap.size w w') (hc : CurAt w' C bs c') (hC : C < base0) : MoW C base0 bs n w3 c' u ts w' :=
 ⟨hc, h.row.blocks fun k hk hlt => ho.block k hlt (show ¬ k = C by omega), h.ok, h.but.trans (ho.mono h.base_ (fun _ _ e => e)), Nat.le_trans h.base_ ho.size⟩
theorem MoW.below {C base0 : Nat} {bs : List Int} {n : Nt} {w3 w w' : World} {c : Cu} {u : Value} {ts : List Tr} (h : MoW C base0 bs n w3 c u ts w) (hb : Below w.heap.size w w') (hC : C < base0) : MoW C base0 bs n w3 c u ts w' := h.draw (but_of_below hb) (h.cur.below hb) hC
theorem MoW.add {C base0 : Nat} {bs : List Int} {n : Nt} {w3 w w' : World} {c : Cu} {u u' : Value} {ts : List Tr} {t : Tr} {a : Option Addr} {cap : Nat} {qs : List (Tr × Value)} (h : MoW C base0 bs n w3 c u ts w) (hqs : qs.map Prod.fst = ts) (hv : TvRow w base0 u qs) (hqe : ∀ q ∈ qs, ∃ a cap, q.2 = .slice a q.1.back.length cap ∧ StRow w base0 q.2 q.1.back)
  (ht : TrainRight n t) (hst : StRow w base0 (.slice a t.back.length cap) t.back) (hg : w.grownBy w' u.ownBlock) (hown : TvRow w' base0 u' (qs ++ [(t, .slice a t.back.length cap)])) (hC : C < base0) : MoW C base0 bs n w3 c u' (ts ++ [t]) w' := by
 have hne : ∀ k, u.ownBlock = some k → base0 ≤ k := fun k hk => (hv.lt k hk).1
 have hb : Below base0 w w' := Below.grown (Below.refl base0 w) hg h.base_ hne
 refine ⟨h.cur.of_below hb hC, ⟨qs ++ [(t, .slice a t.back.length cap)], by simp [hqs], hown, fun q hq => ?_⟩, fun x hx => ?_, h.but.trans (but_below hb (Nat.le_refl _)), Nat.le_trans h.base_ hb.size⟩
 ·rcases List.mem_append.1 hq with hq | hq
  ·obtain ⟨a', cap', he, hr⟩ := hqe q hq
   exact ⟨a', cap', he, hr.kept hg (fun k hk hc => Row.apart hr hv (by decide) k hk hc)⟩
  ·simp at hq
   subst hq
   exact ⟨a, cap, rfl, hst.kept hg (fun k hk hc => Row.apart hst hv (by decide) k hk hc)⟩
 ·rcases List.mem_append.1 hx with hx | hx
  ·exact h.ok x hx
  ·simp at hx
   subst hx
   exact ht
def RetMo (n : Nt) (w : World) (e : Ending) (w' : World) : Prop :=
 ∃ u ts p ps, e = .returned (.tuple #[u, p]) ∧ TnRow w' w.heap.size u ts ∧ ts.length ≤ 3 ∧ (∀ t ∈ ts, TrainRight n t) ∧ PoRow w' w.heap.size p ps ∧ ps.length ≤ 6 ∧ Below w.heap.size w w'

set_option maxRecDepth 100000 in
set_option maxHeartbeats 8000000 in
theorem more_any (bs : List Int) (v : Value) (n : Nt) (zq : Option Addr) (zs : List Int) (zc : Nat) (ba : Option Addr) (bcap : Nat) (w : World) {L L' : Nat} (hv : NetAt L w v n) (hz : IntsAt L' w zq zs) (hba : BytesAt w.heap.size w ba bs) (hbs : BytesIn bs) (hsm : NtSmall n) :
  Calls Tryz.prog 5 #[v, .slice zq zs.length zc, .slice ba bs.length bcap] w (RetMo n w) := by
 obtain ⟨i1, hj1, hy0, hy1, hy2⟩ := info_parts info_Train
 obtain ⟨a1, a2, k1, k2, hve, hp, hj⟩ := hv
 have hbel : Below w.heap.size w ((w.alloc (.cells #[.slice a1 n.pieces.length k1, .slice a2 n.joints.length k2] 26)).alloc (.cells #[.slice ba bs.length bcap, .int .i64 0, .int .u64 0] 52)) := bw0
 have HNK : Hid (NetK (w.heap.size + 1) ((w.alloc (.cells #[.slice a1 n.pieces.length k1, .slice a2 n.joints.length k2] 26)).alloc (.cells #[.slice ba bs.length bcap, .int .i64 0, .int .u64 0] 52)) v n) := netK_lo ⟨a1, a2, k1, k2, hve, hp, hj⟩ hbel (by omega)
 have HZK : Hid (IntsK (w.heap.size + 1) ((w.alloc (.cells #[.slice a1 n.pieces.length k1, .slice a2 n.joints.length k2] 26)).alloc (.cells #[.slice ba bs.length bcap, .int .i64 0, .int .u64 0] 52)) zq zs) := intsK_lo hz hbel (by omega)
 have HCU : Hid (CurAt ((w.alloc (.cells #[.slice a1 n.pieces.length k1, .slice a2 n.joints.length k2] 26)).alloc (.cells #[.slice ba bs.length bcap, .int .i64 0, .int .u64 0] 52)) (w.heap.size + 1) bs cur0) := by
  refine ⟨ba, bcap, boxedN _ _ _ (by simp), fun i hi => ?_⟩
  obtain ⟨b, off, e, hb, hc, hr⟩ := hba i hi
  exact ⟨b, off, e, ⟨by omega, Nat.lt_of_lt_of_le hb.2 hbel.size⟩, (hbel.cell hb.2).trans hc, hr⟩
 have HXB : Hid (Boxed ((w.alloc (.cells #[.slice a1 n.pieces.length k1, .slice a2 n.joints.length k2] 26)).alloc (.cells #[.slice ba bs.length bcap, .int .i64 0, .int .u64 0] 52)) w.heap.size [.slice a1 n.pieces.length k1, .slice a2 n.joints.length k2]) := (boxed_alloc w #[.slice a1 n.pieces.length k1, .slice a2 n.joints.length k2] 26).alloc _
 have HBE := hide hbel
 subst hve
 have HSM := hide hsm
 clear hp hj hz hba hbel hsm
 go_enter Tryz.func5, Tryz.ntmps5
 go_wp2_with fail
 obtain ⟨wb, hwb⟩ : ∃ wb, ((w.alloc (.cells #[.slice a1 n.pieces.length k1, .slice a2 n.joints.length k2] 26)).alloc (.cells #[.slice ba bs.length bcap, .int .i64 0, .int .u64 0] 52)) = wb := ⟨_, rfl⟩
 have hwbs : wb.heap.size = w.heap.size + 2 := by rw [← hwb]; simp
 rw [hwb] at HNK HZK HCU HXB HBE ⊢
 clear hwb
 obtain ⟨C, hC⟩ : ∃ C, w.heap.size + 1 = C := ⟨_, rfl⟩
 rw [hC] at HNK HZK HCU ⊢
 obtain ⟨X, hX⟩ : ∃ X, w.heap.size = X := ⟨_, rfl⟩
 have hXw : w.heap.size ≤ X ∧ X ≤ w.heap.size := by omega
 have HXB' : Hid (Boxed wb X [.slice a1 n.pieces.length k1, .slice a2 n.joints.length k2]) := by rw [← hX]; exact unhide HXB
 rw [hX]
 have hord : X < C ∧ C < wb.heap.size := by omega
 obtain ⟨base0, hb0⟩ : ∃ base0, wb.heap.size = base0 := ⟨_, rfl⟩
 have hob : base0 ≤ wb.heap.size ∧ wb.heap.size ≤ base0 := by omega
 clear hC hX HXB hwbs hb0
 have hpi := pickC_in bs cur0 3
 have hpa := pickC_at bs cur0 3
 have hc0 : cur0.at_ = 0 := rfl
 refine (pick_any C bs cur0 3 _ (unhide HCU) hbs (by omega) (by omega)).mono ?_
 rintro e w1 ⟨rfl, hcu1, ho1⟩
 obtain ⟨k0, hk0⟩ : ∃ k0 : Nat, (pickC bs cur0 3).1 = k0 := ⟨(pickC bs cur0 3).1.toNat, by omega⟩
 obtain ⟨c1, hc1⟩ : ∃ c1, (pickC bs cur0 3).2 = c1 := ⟨_, rfl⟩
 rw [hk0] at hpi ⊢
 rw [hc1] at hpa hcu1
 have hca : c1.at_ ≤ 2 := by omega
 have hs1 := ho1.size
 have HM1 : Hid (MoW C base0 bs n wb c1 (.slice none 0 0) [] w1) := ⟨hcu1, tnRow_nil _ _, (fun t ht => by cases ht), but_only ho1 (fun _ _ e => e) (by omega), by omega⟩
 clear hk0 hc1 hpa hc0 hcu1 ho1 HCU
 have hwk : IntKind.i64.wrap (1 + (k0 : Int)) = ((1 + k0 : Nat) : Int) := (wrap_small (by omega) (by omega)).trans (by omega)
 go_wp2_with fail
 go_loopw [9, 10] (fun y z wr => ∃ (k : Nat) (ts : List Tr) (c2 : Cu), z = .int .i64 k ∧ k + ts.length ≤ 3 ∧ c2.at_ + 100 * k ≤ 310 ∧ Hid (MoW C base0 bs n wb c2 y ts wr)) (fun _ z _ => (intOf z).toNat)
 case atStart => exact ⟨1 + k0, [], c1, by simp, by simp; omega, by omega, HM1⟩
 case round =>
  clear HM1
  obtain ⟨k, ts, c2, rfl, hkt, hat, HMR⟩ := hrel
  have hXr := (unhide HXB').blk (unhide HMR).but.size ((unhide HMR).but.block X (by omega) (show ¬ X = C by omega))
  have x0 := hXr.2.1 0 _ rfl
  have x1 := hXr.2.1 1 _ rfl
  have xl := hXr.1
  clear hXr
  have HBR : Hid (But (fun k => k = C) wb.heap.size wb wr) := (unhide HMR).but.mono (by omega) (fun _ _ e => e)
  by_cases hkp : 0 < k
  ·have hkp' : (0 : Int) < (k : Int) := by omega
   have hkw : IntKind.i64.wrap ((k : Int) - 1) = ((k - 1 : Nat) : Int) := (wrap_small (by omega) (by omega)).trans (by omega)
   go_wp2_with fail
   refine (drawTrain_any C bs c2 _ n zq zs zc _ (unhide HMR).cur hbs (by omega) ((unhide HNK).on (unhide HBR)) ((unhide HZK).on (unhide HBR)) (unhide HSM)).mono ?_
   rintro e w5 ⟨t, ta, tc, c3, rfl, htn, hrow5, hcu5, hb5⟩
   dsimp only [trV]
   have hta := htn.at_
   have htl := htn.len
   have hs5 := hb5.size
   have HM5 := hide ((unhide HMR).draw hb5 hcu5 (by omega))
   have hrb := (unhide HMR).base_
   have HST5 := hide (hrow5.mono hrb)
   have hX5 := (unhide HXB').blk (unhide HM5).but.size ((unhide HM5).but.block X (by omega) (show ¬ X = C by omega))
   have HB5 : Hid (But (fun k => k = C) wb.heap.size wb w5) := (unhide HM5).but.mono (by omega) (fun _ _ e => e)
   have x0 := hX5.2.1 0 _ rfl
   have x1 := hX5.2.1 1 _ rfl
   have xl := hX5.1
   clear hcu5 hb5 hrow5 htn hX5 HMR
   go_wp2_with fail
   have hBA : Below w5.heap.size w5 (w5.alloc (.cells #[.int .i64 t.front.piece, .int .i64 t.front.at_, .int .i64 t.front.way, .int .i64 t.long, .slice ta t.back.length tc] 32)) := bw0
   refine (specTrainOk_any _ _ n t _ ((unhide HNK) _ (but_then (unhide HB5) (but_of_below hBA))) ((stRow_tr (unhide HST5)).below hBA) (by have := (unhide HSM).pcs; omega) (by have := (unhide HSM).jts; omega) (unhide HSM).hle (unhide HSM).hnm (by omega)).mono ?_
   rintro e w7 ⟨hr, hb7⟩
   have hBT : Boxed w7 w5.heap.size [.int .i64 t.front.piece, .int .i64 t.front.at_, .int .i64 t.front.way, .int .i64 t.long, .slice ta t.back.length tc] := (boxed_alloc _ _ _).below hb7
   have HM7 := hide ((unhide HM5).below (below_then hBA hb7) (by omega))
   have HST7 := hide ((unhide HST5).below (below_then hBA hb7))
   have hs7 := (unhide HM7).base_
   clear hb7 hBA x0 x1 xl
   rcases hr with ⟨rfl, hTR⟩ | ⟨rfl, hTR⟩
   ·obtain ⟨qs, hqs, hqv, hqe⟩ := (unhide HM7).row
    obtain ⟨va, vc, hve, _⟩ := hqv.shape tvF_len
    subst hve
    have hql : qs.length ≤ 3 := by
     have : qs.length = ts.length := by rw [← hqs, List.length_map]
     omega
    have HQV := hide hqv
    have HQE := hide hqe
    have HQS := hide hqs
    have t0 := hBT.2.1 0 _ rfl
    have t1 := hBT.2.1 1 _ rfl
    have t2 := hBT.2.1 2 _ rfl
    have t3 := hBT.2.1 3 _ rfl
    have t4 := hBT.2.1 4 _ rfl
    have tl := hBT.1
    clear hqs hqv hqe
    go_wp2_with (at_builtin; refine wpList_append_own _ rfl (.tmp 29) (.tmp 31) 35 rfl base0 32 i1 (.agg #[.int .i64 0, .int .i64 0, .int .i64 0, .int .i64 0, .slice none 0 0]) 5 56 Tryz.underlying35 hj1 hy0 hy1 hy2 rfl (by decide) _ _ _ rfl ((unhide HQV).below bw0) ⟨w7.heap.size, 0, none⟩ 1 1 (tvF (t, .slice ta t.back.length tc)) rfl rfl ?c1 (tv_one _ _ _ _) ?c2 ?c3 ?c4 ?_)
    case c1 => (first | exact fun _ _ h => h | exact box_news (boxedN _ _ _ (by first | rfl | simp)))
    case c2 => unfold maxLen; omega
    case c3 => omega
    case c4 => (first | omega | (simp; omega))
    intro u' w9 hown9 hgrow9 _
    have hrow9 : TvRow w9 base0 u' (qs ++ [(t, .slice ta t.back.length tc)]) := Row.snoc (f := tvF) hown9
    have hBB : Below w7.heap.size w7 (w7.alloc (.cells #[.int .i64 t.front.piece, .int .i64 t.front.at_, .int .i64 t.front.way, .int .i64 t.long, .slice ta t.back.length tc] 32)) := bw0
    have HM9 := hide (((unhide HM7).below hBB (by omega)).add (unhide HQS) ((unhide HQV).below hBB) (fun q hq => by
     obtain ⟨a', cap', he, hr⟩ := unhide HQE q hq
     exact ⟨a', cap', he, hr.below hBB⟩) hTR ((unhide HST7).below hBB) hgrow9 hrow9 (by omega))
    clear hown9 hgrow9 hrow9 hBB t0 t1 t2 t3 t4 tl
    go_wp2_with fail
    exact ⟨⟨k - 1, ts ++ [t], c3, rfl, by rw [List.length_append, List.length_singleton]; omega, by omega, HM9⟩, by simp [intOf]; omega⟩
   ·go_wp2_with fail
    exact ⟨⟨k - 1, ts, c3, rfl, by omega, by omega, HM7⟩, by simp [intOf]; omega⟩
  ·have hkp' : ¬ (0 : Int) < (k : Int) := by omega
   go_wp2_with fail
   refine (posts_any C bs c2 _ n _ (unhide HMR).cur hbs (by omega) ((unhide HNK).on (unhide HBR)) (by have := (unhide HSM).pcs; omega) (unhide HSM).lens).mono ?_
   rintro e w5 ⟨p, ps, c3, rfl, hrow5, hpl, hcu5, _, hb5⟩
   have HM5 := hide ((unhide HMR).draw hb5 hcu5 (by omega))
   have hsw := (unhide HMR).base_
   have HP5 := hide (hrow5.mono (show w.heap.size ≤ wr.heap.size by omega))
   clear hrow5 hcu5 hb5 x0 x1 xl
   go_wp2_with fail
   have hfin : Below w.heap.size w w5 := (unhide HBE).trans ((unhide HM5).but.below (by omega) (fun k hk (e : k = C) => by omega))
   exact bodyPost_ret (by simp [results, Tryz.results5, go_sem]) rfl ⟨_, ts, p, ps, rfl, (unhide HM5).row.mono (by omega), by omega, (unhide HM5).ok, unhide HP5, hpl, hfin⟩
end Go.Proofs.YtjacbppeebnjfaaGreat

