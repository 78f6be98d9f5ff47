import Derived.Test.YthdioeofdofleaaGreatDoorMIr
import Derived.Test.YthdioeofdofleaaGreatDoorMDr11
import Derived.Test.YthdioeofdofleaaGreatDoorMTk7
import Derived.Test.YthdioeofdofleaaGreatDoorMKw5
import Derived.Test.YthdioeofdofleaaGreatDoorMKt17
import Derived.Test.YthdioeofdofleaaGreatDoorMPlain2
import Derived.Lib.AppendZeros
import Derived.Test.YthdioeofdofleaaGreatDoorMKw8
import Derived.Test.YthdioeofdofleaaGreatDoorMPlain3
import Derived.Test.YthdioeofdofleaaGreatDoorMKw1
set_option linter.unusedSimpArgs false
set_option maxRecDepth 100000
namespace Go.Proofs.YthdioeofdofleaaGreatDoor
open Go.RowKit Go.Maps
variable {C base0 cap L L' base M i m W kca kcsh kcst Mp N K A Q g sz : Nat} {bs codes fars : List Int} {n : Nt} {w3 w w' w1 w0 : World} {c : Cu} {u mvv vt vc vf vk ov bk : Value} {ts : List Tr} {t : Tr} {a ka ksh kst : Option Addr} {sx : List Sx} {xs bks : List St} {ms : List Nat} {d : Prop} {sks : List (Int × Int)} {e : TypeId} {n0 r8 qc : List Value} {ovs : List Pt}
structure MoW (C base0 : Nat) (bs : List Int) (n : Nt) (w3 : World) (c : Cu) (u : Value) (ts : List Tr) (w : World) : Prop where
 cur : Za w C bs c
 row : Xd w base0 u ts
 ok : ∀ t ∈ ts, zJ n t
 but : Yi (fun k => k = C) base0 w3 w
 base_ : base0 <= w.heap.size
theorem MoW.draw {c' : Cu} (h : MoW C base0 bs n w3 c u ts w) (ho : Yi (fun k => k = C) w.heap.size w w') (hc : Za w' C bs c') (hC : C < base0) : MoW C base0 bs n w3 c' u ts w' :=
 ⟨hc, h.row.blocks fun k hk hlt => ho.block k hlt (show ¬ k = C by omega), h.ok, h.but.trans (ho.mono h.base_ (fun _ _ e => e)), Nat.le_trans h.base_ ho.size⟩
theorem MoW.below (h : MoW C base0 bs n w3 c u ts w) (hb : Below w.heap.size w w') (hC : C < base0) : MoW C base0 bs n w3 c u ts w' := h.draw (ZQ hb) (h.cur.below hb) hC
theorem MoW.add {u' : Value} {qs : List (Tr × Value)} (h : MoW C base0 bs n w3 c u ts w) (hqs : qs.map Prod.fst = ts) (hv : XH w base0 u qs) (hqe : ∀ q ∈ qs, ∃ a cap, q.2 = .slice a q.1.back.length cap /\ Zk w base0 q.2 q.1.back)
  (ht : zJ n t) (hst : Zk w base0 (.slice a t.back.length cap) t.back) (hg : w.grownBy w' u.ownBlock) (hown : XH w' base0 u' (qs ++ [(t, .slice a t.back.length cap)])) (hC : C < base0) : MoW C base0 bs n w3 c u' (ts ++ [t]) w' := by
 have hne : ∀ k, u.ownBlock = some k -> base0 <= k := fun k hk => (hv.lt k hk).1
 have hb : Below base0 w w' := Below.grown (Below.refl base0 w) hg h.base_ hne;refine ⟨h.cur.of_below hb hC, ⟨qs ++ [(t, .slice a t.back.length cap)], by simp [hqs], hown, fun q hq => ?_⟩, fun x hx => ?_, h.but.trans (ZC hb (Nat.le_refl _)), Nat.le_trans h.base_ hb.size⟩
 ·rcases List.mem_append.1 hq with hq | hq
  ·obtain ⟨a', cap', he, hr⟩ := hqe q hq;exact ⟨a', cap', he, hr.kept hg (fun k hk hc => zV.apart hr hv (by decide) k hk hc)⟩
  ·simp at hq
   subst hq;exact ⟨a, cap, rfl, hst.kept hg (fun k hk hc => zV.apart hst hv (by decide) k hk hc)⟩
 ·rcases List.mem_append.1 hx with hx | hx
  ·exact h.ok x hx
  ·simp at hx
   subst hx;exact ht
def RetMo (n : Nt) (w : World) (e : Ending) (w' : World) : Prop :=
 ∃ u ts p ps, e = .returned (.tuple #[u, p]) /\ Xd w' w.heap.size u ts /\ ts.length <= 3 /\ (∀ t ∈ ts, zJ n t) /\ PoRow w' w.heap.size p ps /\ ps.length <= 6 /\ Below w.heap.size w w'

set_option maxHeartbeats 8000000 in
theorem more_any (bs : List Int) (v : Value) (n : Nt) (zq : Option Addr) (zs : List Int) (zc : Nat) (ba : Option Addr) (bcap : Nat) (w : World) (hv : zE L w v n) (hz : zF L' w zq zs) (hba : YX w.heap.size w ba bs) (hbs : yy bs) (hsm : xr n) :
  Calls Tryz.prog 5 #[v, .slice zq zs.length zc, .slice ba bs.length bcap] w (RetMo n w) := by
 obtain ⟨i1, hj1, hy0, hy1, hy2⟩ := info_parts XM;obtain ⟨a1, a2, k1, k2, hve, hp, hj⟩ := hv;have hbel : Below w.heap.size w ((w.alloc (.cells #[.slice a1 n.pieces.length k1, .slice a2 n.joints.length k2] 26)).alloc (.cells #[.slice ba bs.length bcap, .int .i64 0, .int .u64 0] 54)) := bw0;have HNK : Hid (qF (w.heap.size + 1) ((w.alloc (.cells #[.slice a1 n.pieces.length k1, .slice a2 n.joints.length k2] 26)).alloc (.cells #[.slice ba bs.length bcap, .int .i64 0, .int .u64 0] 54)) v n) := netK_lo ⟨a1, a2, k1, k2, hve, hp, hj⟩ hbel (by omega);have HZK : Hid (qH (w.heap.size + 1) ((w.alloc (.cells #[.slice a1 n.pieces.length k1, .slice a2 n.joints.length k2] 26)).alloc (.cells #[.slice ba bs.length bcap, .int .i64 0, .int .u64 0] 54)) zq zs) := intsK_lo hz hbel (by omega)
 have HCU : Hid (Za ((w.alloc (.cells #[.slice a1 n.pieces.length k1, .slice a2 n.joints.length k2] 26)).alloc (.cells #[.slice ba bs.length bcap, .int .i64 0, .int .u64 0] 54)) (w.heap.size + 1) bs XE) := by
  refine ⟨ba, bcap, zp _ _ _ (by simp), fun i hi => ?_⟩;obtain ⟨b, off, e, hb, hc, hr⟩ := hba i hi;exact ⟨b, off, e, ⟨by omega, Nat.lt_of_lt_of_le hb.2 hbel.size⟩, (hbel.cell hb.2).trans hc, hr⟩
 have HXB : Hid (zg ((w.alloc (.cells #[.slice a1 n.pieces.length k1, .slice a2 n.joints.length k2] 26)).alloc (.cells #[.slice ba bs.length bcap, .int .i64 0, .int .u64 0] 54)) w.heap.size [.slice a1 n.pieces.length k1, .slice a2 n.joints.length k2]) := (zf w #[.slice a1 n.pieces.length k1, .slice a2 n.joints.length k2] 26).alloc _;have HBE := zd hbel;subst hve;have HSM := zd hsm;clear hp hj hz hba hbel hsm;go_enter Tryz.func5, Tryz.ntmps5;go_wp2_with fail;obtain ⟨wb, hwb⟩ : ∃ wb, ((w.alloc (.cells #[.slice a1 n.pieces.length k1, .slice a2 n.joints.length k2] 26)).alloc (.cells #[.slice ba bs.length bcap, .int .i64 0, .int .u64 0] 54)) = wb := ⟨_, rfl⟩
 have hwbs : wb.heap.size = w.heap.size + 2 := by rw [← hwb]; simp
 rw [hwb] at HNK HZK HCU HXB HBE ⊢;clear hwb;obtain ⟨C, hC⟩ : ∃ C, w.heap.size + 1 = C := ⟨_, rfl⟩;rw [hC] at HNK HZK HCU ⊢;obtain ⟨X, hX⟩ : ∃ X, w.heap.size = X := ⟨_, rfl⟩
 have hXw : w.heap.size <= X /\ X <= w.heap.size := by omega
 have HXB' : Hid (zg wb X [.slice a1 n.pieces.length k1, .slice a2 n.joints.length k2]) := by rw [← hX]; exact za HXB
 rw [hX]
 have hord : X < C /\ C < wb.heap.size := by omega
 obtain ⟨base0, hb0⟩ : ∃ base0, wb.heap.size = base0 := ⟨_, rfl⟩
 have hob : base0 <= wb.heap.size /\ wb.heap.size <= base0 := by omega
 clear hC hX HXB hwbs hb0;have hpi := Zd bs XE 3;have hpa := zL bs XE 3;have hc0 : XE.at_ = 0 := rfl;refine (Zp C bs XE 3 _ (za HCU) hbs (by omega) (by omega)).mono ?_;rintro e w1 ⟨rfl, hcu1, ho1⟩;obtain ⟨k0, hk0⟩ : ∃ k0 : Nat, (zn bs XE 3).1 = k0 := ⟨(zn bs XE 3).1.toNat, by omega⟩;obtain ⟨c1, hc1⟩ : ∃ c1, (zn bs XE 3).2 = c1 := ⟨_, rfl⟩;rw [hk0] at hpi ⊢;rw [hc1] at hpa hcu1
 have hca : c1.at_ <= 2 := by omega
 have hs1 := ho1.size;have HM1 : Hid (MoW C base0 bs n wb c1 (.slice none 0 0) [] w1) := ⟨hcu1, tnRow_nil _ _, (fun t ht => by cases ht), yr ho1 (fun _ _ e => e) (by omega), by omega⟩;clear hk0 hc1 hpa hc0 hcu1 ho1 HCU;have hwk : IntKind.i64.wrap (1 + (k0 : Int)) = ((1 + k0 : Nat) : Int) := (zj (by omega) (by omega)).trans (by omega);go_wp2_with fail
 go_loopw [9, 10] (fun y z wr => ∃ (k : Nat) (ts : List Tr) (c2 : Cu), z = .int .i64 k /\ k + ts.length <= 3 /\ c2.at_ + 100 * k <= 310 /\ Hid (MoW C base0 bs n wb c2 y ts wr)) (fun _ z _ => (intOf z).toNat)
 case atStart => exact ⟨1 + k0, [], c1, by simp, by simp; omega, by omega, HM1⟩
 case round =>
  clear HM1;obtain ⟨k, ts, c2, rfl, hkt, hat, HMR⟩ := hrel;have hXr := (za HXB').blk (za HMR).but.size ((za HMR).but.block X (by omega) (show ¬ X = C by omega));have x0 := hXr.2.1 0 _ rfl;have x1 := hXr.2.1 1 _ rfl;have xl := hXr.1;clear hXr;have HBR : Hid (Yi (fun k => k = C) wb.heap.size wb wr) := (za HMR).but.mono (by omega) (fun _ _ e => e)
  by_cases hkp : 0 < k
  ·have hkp' : (0 : Int) < (k : Int) := by omega
   have hkw : IntKind.i64.wrap ((k : Int) - 1) = ((k - 1 : Nat) : Int) := (zj (by omega) (by omega)).trans (by omega);go_wp2_with fail;refine (Vo C bs c2 _ n zq zs zc _ (za HMR).cur hbs (by omega) ((za HNK).on (za HBR)) ((za HZK).on (za HBR)) (za HSM)).mono ?_;rintro e w5 ⟨t, ta, tc, c3, rfl, htn, hrow5, hcu5, hb5⟩;dsimp only [trV];have hta := htn.at_;have htl := htn.len;have hs5 := hb5.size;have HM5 := zd ((za HMR).draw hb5 hcu5 (by omega));have hrb := (za HMR).base_;have HST5 := zd (hrow5.mono hrb);have hX5 := (za HXB').blk (za HM5).but.size ((za HM5).but.block X (by omega) (show ¬ X = C by omega));have HB5 : Hid (Yi (fun k => k = C) wb.heap.size wb w5) := (za HM5).but.mono (by omega) (fun _ _ e => e);have x0 := hX5.2.1 0 _ rfl;have x1 := hX5.2.1 1 _ rfl;have xl := hX5.1;clear hcu5 hb5 hrow5 htn hX5 HMR;go_wp2_with fail;have hBA : Below w5.heap.size w5 (w5.alloc (.cells #[.int .i64 t.front.piece, .int .i64 t.front.at_, .int .i64 t.front.way, .int .i64 t.long, .slice ta t.back.length tc] 32)) := bw0;refine (xh _ _ n t _ ((za HNK) _ (XF (za HB5) (ZQ hBA))) ((VL (za HST5)).below hBA) (by have := (za HSM).pcs; omega) (by have := (za HSM).jts; omega) (za HSM).hle (za HSM).hnm (by omega)).mono ?_;rintro e w7 ⟨hr, hb7⟩;have hBT : zg w7 w5.heap.size [.int .i64 t.front.piece, .int .i64 t.front.at_, .int .i64 t.front.way, .int .i64 t.long, .slice ta t.back.length tc] := (zf _ _ _).below hb7;have HM7 := zd ((za HM5).below (below_then hBA hb7) (by omega));have HST7 := zd ((za HST5).below (below_then hBA hb7));have hs7 := (za HM7).base_;clear hb7 hBA x0 x1 xl
   rcases hr with ⟨rfl, hTR⟩ | ⟨rfl, hTR⟩
   ·obtain ⟨qs, hqs, hqv, hqe⟩ := (za HM7).row;obtain ⟨va, vc, hve, _⟩ := hqv.shape VG;subst hve
    have hql : qs.length <= 3 := by
     have : qs.length = ts.length := by rw [← hqs, List.length_map]
     omega
    have HQV := zd hqv;have HQE := zd hqe;have HQS := zd hqs;have t0 := hBT.2.1 0 _ rfl;have t1 := hBT.2.1 1 _ rfl;have t2 := hBT.2.1 2 _ rfl;have t3 := hBT.2.1 3 _ rfl;have t4 := hBT.2.1 4 _ rfl;have tl := hBT.1;clear hqs hqv hqe
    go_wp2_with (at_builtin; refine wpList_append_own _ rfl (.tmp 29) (.tmp 31) 35 rfl base0 32 i1 (.agg #[.int .i64 0, .int .i64 0, .int .i64 0, .int .i64 0, .slice none 0 0]) 5 56 Tryz.underlying35 hj1 hy0 hy1 hy2 rfl (by decide) _ _ _ rfl ((za HQV).below bw0) ⟨w7.heap.size, 0, none⟩ 1 1 (vi (t, .slice ta t.back.length tc)) rfl rfl ?c1 (uw _ _ _ _) ?c2 ?c3 ?c4 ?_)
    case c1 => (first | exact fun _ _ h => h | exact yd (zp _ _ _ (by first | rfl | simp)))
    case c2 => unfold maxLen; omega
    case c3 => omega
    case c4 => (first | omega | (simp; omega))
    intro u' w9 hown9 hgrow9 _;have hrow9 : XH w9 base0 u' (qs ++ [(t, .slice ta t.back.length tc)]) := zV.snoc (f := vi) hown9;have hBB : Below w7.heap.size w7 (w7.alloc (.cells #[.int .i64 t.front.piece, .int .i64 t.front.at_, .int .i64 t.front.way, .int .i64 t.long, .slice ta t.back.length tc] 32)) := bw0
    have HM9 := zd (((za HM7).below hBB (by omega)).add (za HQS) ((za HQV).below hBB) (fun q hq => by
     obtain ⟨a', cap', he, hr⟩ := za HQE q hq
     exact ⟨a', cap', he, hr.below hBB⟩) hTR ((za HST7).below hBB) hgrow9 hrow9 (by omega))
    clear hown9 hgrow9 hrow9 hBB t0 t1 t2 t3 t4 tl;go_wp2_with fail;exact ⟨⟨k - 1, ts ++ [t], c3, rfl, by rw [List.length_append, List.length_singleton]; omega, by omega, HM9⟩, by simp [intOf]; omega⟩
   ·go_wp2_with fail;exact ⟨⟨k - 1, ts, c3, rfl, by omega, by omega, HM7⟩, by simp [intOf]; omega⟩
  ·have hkp' : ¬ (0 : Int) < (k : Int) := by omega
   go_wp2_with fail;refine (posts_any C bs c2 _ n _ (za HMR).cur hbs (by omega) ((za HNK).on (za HBR)) (by have := (za HSM).pcs; omega) (za HSM).lens).mono ?_;rintro e w5 ⟨p, ps, c3, rfl, hrow5, hpl, hcu5, _, hb5⟩;have HM5 := zd ((za HMR).draw hb5 hcu5 (by omega));have hsw := (za HMR).base_;have HP5 := zd (hrow5.mono (show w.heap.size <= wr.heap.size by omega));clear hrow5 hcu5 hb5 x0 x1 xl;go_wp2_with fail;have hfin : Below w.heap.size w w5 := (za HBE).trans ((za HM5).but.below (by omega) (fun k hk (e : k = C) => by omega));exact bodyPost_ret (by simp [results, Tryz.results5, go_sem]) rfl ⟨_, ts, p, ps, rfl, (za HM5).row.mono (by omega), by omega, (za HM5).ok, za HP5, hpl, hfin⟩

set_option maxHeartbeats 8000000 in
theorem touched2_any (I : List Nat -> World -> Prop) (fid : Nat) (cp cq : Value) (W Mp N base : Nat) (av : Nat -> Prop) (ls : Int -> List Nat) (ms : List Nat) (cv : Nat -> List Pt) (a : Option Addr) (ca : Nat) (ps : List Pt) (w : World) 
  (hcW : w.cell? ⟨W, 4, none⟩ = some (.map (some Mp))) (hWl : W < w.heap.size) (hL : zZ w base Mp N ls av) (hls : ∀ p, (ls p).length <= 1000) (hin : ∀ p, ∀ q ∈ ls p, q ∈ ms) (hout : ∀ i (h : i < ms.length), ∀ x ∈ cv i, ms[i] ∈ ls x.piece)
  (hms : MvsAt w ms cv) (hnd : ms.Nodup) (h20 : ms.length <= 20) (hps : Yb L w a ps) (hpl : ps.length <= 1048576) (hpp : ∀ x ∈ ps, 0 <= x.piece /\ x.piece < 1000)
  (hcf : ∀ (x : Value) (W : World), (callFunc fid #[x, cp, cq]).run Tryz.prog W = .ok (.enter fid #[x, cp, cq]) W)
  (hI0 : ∀ wb, Below w.heap.size w wb -> I [] wb)
  (htell : ∀ (tl : List Nat) i (h : i < ms.length) wa, tl.length <= 20 -> I tl wa -> Calls Tryz.prog fid #[.pointer (some ⟨ms[i], 0, none⟩), cp, cq] wa fun e w' => (∃ v, e = .returned v) /\ I (tl ++ [i]) w') :
  Calls Tryz.prog 27 #[.pointer (some ⟨W, 0, none⟩), .slice a ps.length ca, .func (.func fid) #[] #[cp, cq]] w fun e w' => (∃ v, e = .returned v) /\ I ((List.range ms.length).filter fun i => yx ps (cv i)) w' := by
 have HT := zd htell;have HI0 := zd hI0;have HL := zd hL;have HMS := zd hms;have HIN := zd hin;have HOUT := zd hout;clear htell hI0 hL hms hin hout;go_enter Tryz.func27, Tryz.ntmps27;go_wp2_with fail;have hF0 := fnd_new w ms
 go_loopw [15] (fun z wr => ∃ (k : Nat) (fnd : Nat -> Bool), k <= ps.length /\ z = .int .i64 k /\ Zi wr w.heap.size 0 20 (vg ms fnd) /\ Hid (∀ i, fnd i = (decide (i < ms.length) && yx (ps.take k) (cv i))) /\ Below w.heap.size w wr) (fun z _ => ps.length - (intOf z).toNat)
 case atStart => exact ⟨0, _, Nat.zero_le _, rfl, hF0, zd fun i => by simp [hits_nil], bw0⟩
 case round =>
  obtain ⟨k, fnd, hk, rfl, hfn, HFN, hb⟩ := hrel;have hszr := hb.size;have hfl := hfn.1;have d4 := (hb.cell (p := ⟨W, 4, none⟩) hWl).trans hcW
  have hWr : W < wr.heap.size := by omega
  have nW : ¬ W = wr.heap.size := by omega
  by_cases hlt : k < ps.length
  ·obtain ⟨pb, poff, hpa, hpb, c0, c1, c2⟩ := hps.below hb k hlt;have hpb2 := hpb.2;have hx := hpp ps[k] (List.getElem_mem hlt);have htk : ps.take (k + 1) = ps.take k ++ [ps[k]] := List.take_succ_eq_append_getElem hlt
   have HTK : Hid (∀ y, ps[k] = y -> ps.take (k + 1) = ps.take k ++ [y]) := fun y e => by rw [htk, e]
   clear htk
   generalize hX : ps[k] = X at *
   have HTK2 := zd (za HTK X rfl);obtain ⟨Xp, Xf, Xt⟩ := X;dsimp only at hx c0 c1 c2;clear HTK hX;obtain ⟨f, hmap, hrows, hdis, havd⟩ := za HL;obtain ⟨fa, fcap, hfv, hfc, hptrs⟩ := xF (hrows Xp);have hlenX := hls Xp;obtain ⟨qs, hqs⟩ : ∃ qs, ls Xp = qs := ⟨_, rfl⟩;rw [hqs] at hfv hptrs hfc hlenX;have HQS := zd hqs;have hwf := Xq (v := Xp) (by omega) (by omega);have hA : Below wr.heap.size wr (wr.alloc (.cells #[.int .i64 Xp, .int .i64 Xf, .int .i64 Xt] 103)) := bw0
   have hlk : ∀ g : GrW (wr.alloc (.cells #[.int .i64 Xp, .int .i64 Xf, .int .i64 Xt] 103)), (Instr.lookup 72 (.map (some Mp)) (.int .i64 Xp) false).run Tryz.prog g.w = .ok (.slice fa qs.length fcap) g.w := fun g => by
    rw [← hfv];exact (((hmap.below hb).below hA).below g.below).look hwf
   subst hpa;clear hfv hqs;go_wp2_with fail;refine zt (by kernel_rfl) (by kernel_rfl) (fun hgn hgc => ?_)
   repeat (go_big_quiet_step (fail))
   refine wpQuiet_nil ?_;intro wq hwq
   have hbqA : Below (wr.alloc (.cells #[.int .i64 Xp, .int .i64 Xf, .int .i64 Xt] 103)).heap.size (wr.alloc (.cells #[.int .i64 Xp, .int .i64 Xf, .int .i64 Xt] 103)) wq := by obtain ⟨g, rfl⟩ := hwq; exact g.below
   have hbq : Below wr.heap.size wr wq := below_then hA hbqA;have hX : zg wq wr.heap.size [.int .i64 Xp, .int .i64 Xf, .int .i64 Xt] := (zf _ _ _).below hbqA;have hbwq := below_then hb hbq;have hfnq := hfn.below hbq;clear hrows hdis havd hmap;clear hwq hgc hgn hlk c0 c1 c2 d4;go_wp2_with fail
   go_loopw [27] (fun z wx => ∃ (j : Nat) (fn2 : Nat -> Bool), j <= qs.length /\ z = .int .i64 j /\ Zi wx w.heap.size 0 20 (vg ms fn2) /\ Hid (∀ i, fn2 i = (fnd i || (decide (i < ms.length) && (decide (ms.getD i 0 ∈ qs.take j) && (cv i).any fun x => decide (yD x ⟨Xp, Xf, Xt⟩)))))
     /\ zg wx wr.heap.size [.int .i64 Xp, .int .i64 Xf, .int .i64 Xt] /\ Below w.heap.size w wx) (fun z _ => qs.length - (intOf z).toNat)
   case atStart => exact ⟨0, fnd, Nat.zero_le _, rfl, hfnq, zd fun i => by simp, hX, hbwq⟩
   case round =>
    obtain ⟨j, fn2, hj, rfl, hf2, HF2, hX2, hb2⟩ := hrel;have hsz2 := hb2.size;have hfl2 := hf2.1
    by_cases hlt2 : j < qs.length
    ·obtain ⟨qb, qoff, hqa, hqb, cq⟩ := hptrs.below hb2 j hlt2;have hqm : qs[j] ∈ ms := za HIN Xp _ (by rw [za HQS]; exact List.getElem_mem hlt2);have htq : qs.take (j + 1) = qs.take j ++ [qs[j]] := List.take_succ_eq_append_getElem hlt2;obtain ⟨m, hm, hme⟩ := List.getElem_of_mem hqm;obtain ⟨hty, h412, ma, mc, h413, hpts, hcl⟩ := (za HMS).below hb2 m hm
     have hget : ms.getD m 0 = ms[m] := by simp [List.getElem?_eq_getElem hm]
     have hinj : ∀ i, i < ms.length -> ms.getD i 0 = ms[m] -> i = m := fun i hi e => (List.getElem_inj (h₀ := hi) (h₁ := hm) hnd).1 (by rw [← e]; simp [List.getElem?_eq_getElem hi])
     have hinj2 : ∀ i, i < ms.length -> ms.getD i 0 = ms.getD m 0 -> i = m := fun i hi e => hinj i hi (by rw [e, hget])
     have htq2 : qs.take (j + 1) = qs.take j ++ [ms.getD m 0] := by rw [htq, hget, hme]
     have HSTEP := zd (fnd_step (za HF2) hm htq2 hinj2);have cf := (hf2.2 m (by omega)).1;have cz := (hf2.2 m (by omega)).2;rw [Nat.zero_add] at cf cz;rw [← hme] at cq;have hgetH := zd hget
     generalize ms[m] = mb at *
     have hmbl := hty.lt
     have hm20 : m < 20 := by omega
     have hm20i : (m : Int) < 20 := by omega
     subst hqa;clear hget hinj hinj2 htq htq2 hme;have x0 := hX2.2.1 0 _ rfl;have x1 := hX2.2.1 1 _ rfl;have x2 := hX2.2.1 2 _ rfl;have xl := hX2.1
     by_cases hfm : fn2 m = true
     ·have cf' : wr.cell? ⟨w.heap.size, m, none⟩ = some (.pointer (some ⟨ms.getD m 0, 0, none⟩)) := by rw [cf]; simp [vg, hfm]
      have he := mv_eql_sn wr ⟨ms.getD m 0, 0, none⟩;have HFM := zd hfm;clear cf hfm;go_wp2;refine ⟨⟨j + 1, fn2, by omega, by go_num, hf2, zd fun i => ?_, hX2, hb2⟩, by simp [intOf]; omega⟩;rw [← za HSTEP i]
      by_cases e : i = m
      ·rw [if_pos e, e, za HFM]; rfl
      ·rw [if_neg e]
     ·have cf' : wr.cell? ⟨w.heap.size, m, none⟩ = some (.pointer none) := by rw [cf]; simp [vg, hfm]
      have he := mv_eql_nn wr
      have HFM : Hid (fn2 m = false) := by unfold Hid; simpa using hfm
      clear cf hfm;go_wp2_with fail;refine (touches_any mb ma mc (cv m) ⟨Xp, Xf, Xt⟩ _ hmbl h413 hpts hcl).mono ?_;rintro e w3 ⟨⟨rfl, ht⟩ | ⟨rfl, ht⟩, hb3⟩
      ·have HTT : Hid (((cv m).any fun x => decide (yD x ⟨Xp, Xf, Xt⟩)) = true) := by unfold Hid; simpa using ht
       have hb23 := below_then hb2 hb3;have g412 := (hb3.cell (p := ⟨mb, 412, none⟩) hmbl).trans h412;have hf3 := hf2.below hb3;have cf3 := (hb3.cell (p := ⟨w.heap.size, m, none⟩) hfl2).trans cf';have cz3 := (hb3.frozen (p := ⟨w.heap.size, m, none⟩) hfl2).trans cz;have hX3 := hX2.below hb3
       have hmbl3 : mb < w3.heap.size := by have := hb3.size; omega
       have hfl3 := hf3.1;clear ht x0 x1 x2 cf' cz h412 cq;go_wp2;have hb4 : Below w.heap.size w (w3.setCell ⟨w.heap.size, m, none⟩ (.pointer (some ⟨mb, 0, none⟩))) := hb23.setCell (p := ⟨w.heap.size, m, none⟩) (Nat.le_refl _) _;refine ⟨⟨j + 1, _, by omega, by go_num, ?_, zd fun i => (za HSTEP i), hX3.apart (p := ⟨w.heap.size, m, none⟩) (show _ ≠ w.heap.size by omega) _, hb4⟩, by simp [intOf]; omega⟩;have h5 := fnd_set hf3 hm20;rw [za hgetH] at h5
       refine h5.congr fun i hi => ?_
       unfold vg
       by_cases e : i = m
       ·simp only [if_pos e, za HTT, Bool.or_true]
       ·simp only [if_neg e]
      ·have HTT : Hid (((cv m).any fun x => decide (yD x ⟨Xp, Xf, Xt⟩)) = false) := by unfold Hid; simpa using ht
       clear ht;go_wp2;refine ⟨⟨j + 1, fn2, by omega, by go_num, hf2.below hb3, zd fun i => ?_, hX2.below hb3, below_then hb2 hb3⟩, by simp [intOf]; omega⟩;rw [← za HSTEP i]
       by_cases e : i = m
       ·rw [if_pos e, e, za HTT, Bool.or_false]
       ·rw [if_neg e]
    ·have hjl : j = qs.length := by omega
     have HQ : Hid (qs.take j = qs) := by unfold Hid; rw [hjl]; simp
     clear hjl;go_wp2;refine ⟨⟨k + 1, fn2, by omega, by go_num, hf2, zd fun i => ?_, hb2⟩, by simp [intOf]; omega⟩;rw [za HTK2, za HF2 i, za HQ];refine fnd_last (za HFN) (fun i hi ⟨x, hx, ht⟩ => ?_) i;have := za HOUT i hi x hx;rw [ht.1] at this;rw [← za HQS]
     simpa [List.getElem?_eq_getElem hi] using this
  ·have hkl : k = ps.length := by omega
   have HK : Hid (ps.take k = ps) := by unfold Hid; rw [hkl]; simp
   clear hkl d4;go_upto_region 11 with fail;refine wp_region_lit ?_;refine wpList_load_mid rfl 146 (.tmp 6) rfl w.heap.size 0 rfl (fndL ms fnd) _ (fnd_range hfn) Tryz.underlying146 rfl (by rw [info_fnd, fndL_len]) ?_;go_wp2_with fail
   have HFK : Hid (∀ i, fnd i = (decide (i < ms.length) && yx ps (cv i))) := fun i => by rw [za HFN i, za HK]
   go_loopw [52] (fun z wx => ∃ j : Nat, j <= 20 /\ z = .int .i64 j /\ Hid (I ((List.range j).filter fun i => decide (i < ms.length) && yx ps (cv i)) wx)) (fun z _ => 20 - (intOf z).toNat)
   case atStart => exact ⟨0, by omega, rfl, zd (za HI0 wr hb)⟩
   case round =>
    obtain ⟨j, hj, rfl, HI⟩ := hrel
    by_cases hlt3 : j < 20
    ·have hidx : ∀ W, (Instr.index 146 (.agg (fndL ms fnd).toArray) (.int .i64 (j : Int))).run Tryz.prog W = .ok (vg ms fnd j) W := fun W => idx20 _ W j hlt3
     have hj20 : (j : Int) < 20 := by omega
     have HSUC := zd (told_succ ms.length j fun i => yx ps (cv i))
     by_cases hfj : fnd j = true
     ·have hval : vg ms fnd j = .pointer (some ⟨ms.getD j 0, 0, none⟩) := by simp [vg, hfj]
      have hjt : (decide (j < ms.length) && yx ps (cv j)) = true := by rw [← za HFK j]; exact hfj
      have hjl : j < ms.length := by simp at hjt; exact hjt.1
      have hget : ms.getD j 0 = ms[j] := by simp [List.getElem?_eq_getElem hjl]
      rw [hval] at hidx;have HC := zd (za HT _ j hjl wr (Nat.le_trans (List.length_filter_le _ _) (by simp; omega)) (za HI));have HJT := zd hjt;rw [← hget] at HC
      have he := fun W => mv_neq_sn W ⟨ms.getD j 0, 0, none⟩
      generalize ms.getD j 0 = mb at *
      clear hjt hval hget hfj;go_wp2_with fail;refine (za HC).mono ?_;rintro e w3 ⟨⟨v3, rfl⟩, hI3⟩;have HI3 := zd hI3;clear hI3;go_wp2;refine ⟨⟨j + 1, by omega, by go_num, ?_⟩, by simp [intOf]; omega⟩;rw [za HSUC, if_pos (za HJT)];exact HI3
     ·have hval : vg ms fnd j = .pointer none := by simp [vg, hfj]
      have hjt : ¬ (decide (j < ms.length) && yx ps (cv j)) = true := by rw [← za HFK j]; exact hfj
      rw [hval] at hidx;have HJT := zd hjt
      have he := fun W => mv_neq_nn W
      clear hjt hval hfj;go_wp2;refine ⟨⟨j + 1, by omega, by go_num, ?_⟩, by simp [intOf]; omega⟩;rw [za HSUC, if_neg (za HJT), List.append_nil];exact HI
    ·have hj2 : j = 20 := by omega
     have HFIN : Hid (((List.range j).filter fun i => decide (i < ms.length) && yx ps (cv i)) = (List.range ms.length).filter fun i => yx ps (cv i)) := by unfold Hid; rw [hj2]; exact told_all _ _ h20
     clear hj2;go_wp2
     go_end0
     refine ⟨⟨_, rfl⟩, ?_⟩;rw [← za HFIN];exact za HI

theorem MvG.touch {k0 k1 k2 : Value} (h : MvG w base n k0 k1 k2 M i t) (hl : (zi n t).length <= 1048576) : zx w M 95 /\ w.cell? ⟨M, 412, none⟩ = some (.int .i64 i) /\ ∃ a c, w.cell? ⟨M, 413, none⟩ = some (.slice a (zi n t).length c) /\ Yb 0 w a (zi n t) /\ (zi n t).length <= 1048576 := by
 obtain ⟨v, h5, h6⟩ := h.cov;obtain ⟨a, cap, rfl, _, hx⟩ := ZB (h6.mono (Nat.zero_le _));exact ⟨h.ty, h.num, a, cap, h5, hx, hl⟩
theorem partsL_piece (h : ∀ x ∈ sx, Us n x) : ∀ p ∈ Zw n sx, 0 <= p.piece /\ p.piece < n.pieces.length := by
 intro p hp;unfold Zw at hp;obtain ⟨x, hx, hm⟩ := List.mem_flatMap.1 hp
 split at hm
 ·simp at hm
  subst hm;have hs := (h x hx).1.1;unfold Zs
  split <;> exact hs
 ·simp at hm
theorem sxRow_at0 {xs : List Sx} (h : Yz w base (.slice a m cap) xs) : Vq 0 w a xs := by
 obtain ⟨a', cap', hv, _, hx⟩ := vp (h.mono (Nat.zero_le _))
 simp at hv
 rw [hv.1];exact hx
theorem take_set_succ (h : i < ts.length) : (ts.set i t).take (i + 1) = ts.take i ++ [t] := by
 rw [List.take_succ_eq_append_getElem (by simpa using h)]
 simp [List.take_set_of_le]
theorem VI {over bp : List Pt} (hi : i < ts.length) (hb : zi n t = bp) (hm : m = ts.length) : yi n i over (ts.set i t) = xk i ((List.range m).filter fun k => yx (bp ++ over) (zi n (ZS (ts.set i t) k))) := by
 unfold yi;rw [show ZS (ts.set i t) i = t by rw [YZ hi, if_pos rfl], hb, List.length_set, hm]
def StrS (A : Nat) (w : World) (k : Nat) : Prop := k = A \/ (A < k /\ zx w k 46)
theorem Ur.struck (h : Ur w w1 W n ka ksh kst kca kcsh kcst Mp N mvv ms ts i K) (hT : ZR (StrS A w) w w') (hA : zx w A 42) (hlo : w1.heap.size <= A) : Ur w' w1 W n ka ksh kst kca kcsh kcst Mp N mvv ms ts i K := by
 obtain ⟨ls, hL, _⟩ := h.lying
 refine h.kept (hT.below h.bel.size (fun k hk => ?_)) (hT.block Mp hL.lt ?_) fun k T hk hR => hT.block k hk.lt ?_
 ·rintro (e | ⟨e, _⟩) <;> omega
 ·rintro (e | ⟨_, e⟩)
  ·exact hL.notCells hA.cells e.symm
  ·exact hL.notCells e.cells rfl
 ·rintro (e | ⟨_, e⟩)
  ·subst e;have := hk.unique hA
   rcases hR with rfl | rfl | rfl | rfl <;> exact absurd this (by decide)
  ·have := hk.unique e
   rcases hR with rfl | rfl | rfl | rfl <;> exact absurd this (by decide)
theorem xO.struck {sks' : List (Int × Int)} (h : xO d w A ts codes fars sks vt vc vf vk) (hT : ZR (StrS A w) w w') (hB : zg w' A [.bool true, vt, vc, vf, u]) (hty : zx w' A 42) (hrow : un w' (A + 1) u sks') : xO d w' A ts codes fars sks' vt vc vf u := by
 have hk : ∀ k T, zx w k T -> T ≠ 42 -> T ≠ 46 -> w'.heap[k]? = w.heap[k]? := fun k T hk h1 h2 => hT.block k hk.lt (by
  rintro (e | ⟨_, e⟩)
  ·subst e;exact h1 (hk.unique h.ty)
  ·exact h2 (hk.unique e))
 exact ⟨hty, hB, h.rt.typed (fun k h1 => hk k _ h1 (by decide) (by decide)) (fun k h1 => hk k _ h1 (by decide) (by decide)), h.rc.block fun k h1 => hk k _ (h.rc.ty h1) (by decide) (by decide), h.rf.block fun k h1 => hk k _ (h.rf.ty h1) (by decide) (by decide), h.dis, hrow⟩
theorem TkZ.struck {R8 B0 : Nat} {oa : Option Addr} {oc : Nat} {far : Int} (h : TkZ w0 w1 W n ka ksh kst kca kcsh kcst Mp N mvv ms ts i K C M Q R8 B0 oa oc sx far w) (hT : ZR (StrS A w) w w') (hA : zx w A 42) (hlo : w1.heap.size <= A) (hAR : A ≠ R8) : TkZ w0 w1 W n ka ksh kst kca kcsh kcst Mp N mvv ms ts i K C M Q R8 B0 oa oc sx far w' := by
 have hk : ∀ k T, zx w k T -> k ≠ A -> T ≠ 46 -> w'.heap[k]? = w.heap[k]? := fun k T hk h1 h2 => hT.block k hk.lt (by
  rintro (e | ⟨_, e⟩)
  ·exact h1 e
  ·exact h2 (hk.unique e))
 have hne : ∀ {k T}, zx w k T -> T ≠ 42 -> k ≠ A := fun {k T} h1 h2 e => by subst e; exact h2 (h1.unique hA)
 have hC := hk C _ h.ct (hne h.ct (by decide)) (by decide);have hQ := hk Q _ h.qt (hne h.qt (by decide)) (by decide);have hR := hk R8 _ h.r8t (fun e => hAR e.symm) (by decide);have hs := hT.size;exact ⟨h.tw.struck hT hA hlo, zO h.cb hC hs, h.ct.same hC, zO h.qb hQ hs, h.qt.same hQ, h.row.block fun k h1 => hk k _ (h.row.ty h1) (hne (h.row.ty h1) (by decide)) (by decide), zO h.r8 hR hs, h.r8t.same hR, h.lo, h.bel.trans (hT.below h.bel.size (fun k hk => by have := h.lo; rintro (e | ⟨e, _⟩) <;> omega))⟩

theorem strikes_any (w w1 : World) (W : Nat) (n : Nt) (ka ksh kst : Option Addr) (kca kcsh kcst Mp N : Nat) (mvv : Value) (ms : List Nat) (ts : List Tr) (i K A C M : Nat) (tt : List Tr) (cs fs : List Int) (ss : List (Int × Int)) (vt vc vf vk : Value) (a : Option Addr) (ca : Nat) (ps : List Pt) {B : Nat} 
  (hTW : Ur w w1 W n ka ksh kst kca kcsh kcst Mp N mvv ms ts (i + 1) K) (hTR : xO True w A tt cs fs ss vt vc vf vk) (hC : zg w C [.pointer (some ⟨M, 0, none⟩)]) (hCt : zx w C 77) (hi : i < ms.length) (hM : ms[i] = M) (hG : zr n) (hfit : ∀ t ∈ ts, zD n t) (h20 : ms.length <= 20) (hK : K <= 1000) (hss : ss.length <= 1000)
  (hrow : ZM w B (.slice a ps.length ca) ps) (hpl : ps.length <= 1048576) (hpp : ∀ x ∈ ps, 0 <= x.piece /\ x.piece < n.pieces.length) :
  Calls Tryz.prog 27 #[.pointer (some ⟨W, 0, none⟩), .slice a ps.length ca, .func (.func 26) #[] #[.pointer (some ⟨C, 0, none⟩), .pointer (some ⟨A, 0, none⟩)]] w fun e w' => (∃ v, e = .returned v) /\ StrI w A vt vc vf ss i ((List.range ms.length).filter fun k => yx ps (zi n (ZS ts k))) w' := by
 subst hM;obtain ⟨ls, hL, hls⟩ := hTW.lying;have hnp := hG.np;have hlen := hTW.len
 refine touched2_any (fun tl wx => StrI w A vt vc vf ss i tl wx) 26 (.pointer (some ⟨C, 0, none⟩)) (.pointer (some ⟨A, 0, none⟩)) W Mp N w1.heap.size (fun k => mvv.ownBlock = some k) ls ms (fun k => zi n (ZS ts k)) a ca ps w hTW.c4 hTW.ty.lt hL (fun p => Nat.le_trans (hls.few p) hK) hls.sub (fun j hj x hx => (hls.just _ j hj).2 ⟨x, hx, rfl⟩)
  (fun j hj => (hTW.mvs j hj).touch (by have := ZG hG (hfit _ (xC (show j < ts.length by omega))); omega)) hTW.nodup h20 (ya hrow) hpl (fun x hx => by have := hpp x hx; omega) (fun x W' => by kernel_rfl)
  (fun wb hb => ⟨vk, hTR.box.below hb, hTR.ty.below hb, by rw [show xk i [] = [] from rfl, List.append_nil]; exact hTR.rk.below hb, ZR.of_below hb⟩)
  (fun tl j hj wa htl hI => strike1_any w A C ms[i] i ms[j] j vt vc vf ss tl wa hTR.ty hCt (hC.2.1 0 _ rfl) (hTW.mvs i hi).ty (hTW.mvs i hi).num (hTW.mvs j hj).ty (hTW.mvs j hj).num ⟨fun e => YJ hTW.nodup hj hi e, fun e => by subst e; rfl⟩ hss htl hI)

theorem uPart : Tryz.prog.underlying 93 = some (.slice 103) := by kernel_rfl
theorem uIntG : Tryz.prog.underlying 3 = some (.int .i64) := by kernel_rfl

set_option maxHeartbeats 2000000 in
theorem growP_any (m : Nat) (w : World) (hm : m <= 100000) :
  Calls Tryz.prog 63 #[.slice none 0 0, .int .i64 m] w fun e w' => ∃ v, e = .returned v /\ ZM w' w.heap.size v [] /\ Below w.heap.size w w' := by
 obtain ⟨i0, hi, hz0, hz1, hz2⟩ := info_parts Xz
 by_cases h0 : m = 0
 ·subst h0;go_enter Tryz.func63, Tryz.ntmps63;go_wp2_with fail;go_ret;exact ⟨_, rfl, zV.nil _ _ _ _ _, Below.refl _ _⟩
 ·have hrz := fun ty => Lib.run_append_nil_zeros (P := Tryz.prog) w 93 3 ty 103 i0 (.agg #[.int .i64 0, .int .i64 0, .int .i64 0]) .i64 .i64 uPart uIntG hi hz0 m (by omega) (by omega) (by omega) (by rw [hz2]; omega)
  have hcge := grownCap_ge w m 0 103;have hcle := grownCap_le_maxLen w m 0 103 (by unfold maxLen; omega);obtain ⟨G, hG⟩ : ∃ G, grownCap w m 0 103 = G := ⟨_, rfl⟩;rw [hG] at hrz hcge hcle;clear hG;obtain ⟨cur, hcur⟩ : ∃ cur, Builtin.zeroCells (Value.agg #[.int .i64 0, .int .i64 0, .int .i64 0]).cells m ++ Builtin.zeroCells (Value.agg #[.int .i64 0, .int .i64 0, .int .i64 0]).cells (G - m) = cur := ⟨_, rfl⟩
  have hcs : cur.size = G * 3 := by rw [← hcur]; simp [size_zeroCells, Value.cells]; omega
  rw [hcur] at hrz;clear hcur
  have hm' : (0 : Int) < (m : Int) := by omega
  have hGm : G <= 9223372036854775807 := by unfold maxLen at hcle; omega
  go_enter Tryz.func63, Tryz.ntmps63
  go_wp2_with (at_builtin; refine Lib.wpList_append_run _ rfl _ _ _ _ rfl _ _ rfl rfl _ _ (hrz _) ?_)
  all_goals go_ret
  exact ⟨_, rfl, ⟨rfl, Or.inr ⟨w.heap.size, G, cur, rfl, Nat.le_refl _, Deep.blk_alloc_new w (.cells cur 103), by simp, hcle, hcs, by simp⟩⟩, bw0⟩

theorem zV.news2 {α : Type} {f : α -> List Value} {xs : List α} (h : zV w base e sz f (.slice (some ⟨g, 0, none⟩) m cap) xs) : ∀ j u, (xs.flatMap f)[j]? = some u -> w.cell? ((⟨g, 0, none⟩ : Addr).add j) = some u := by
 intro j u hj;obtain ⟨h0, ⟨h1, _⟩ | ⟨g', cap', cur, h1, _, hh, _, _, _, h5⟩⟩ := h
 ·simp at h1
 ·simp at h1
  obtain ⟨rfl, rfl, rfl⟩ := h1;rw [← h5, List.getElem?_take] at hj
  split at hj
  ·have hadd : (⟨g, 0, none⟩ : Addr).add j = ⟨g, j, none⟩ := by unfold Addr.add; split <;> simp_all
   rw [hadd];unfold World.cell?;rw [hh]
   simpa using hj
  ·simp at hj
def catN (xs ys : List Pt) (i : Nat) : Nat := if i = 0 then 0 else if i = 1 then xs.length else xs.length + ys.length
def catL (xs ys : List Pt) (i : Nat) : List Pt := if i = 0 then [] else if i = 1 then xs else xs ++ ys
theorem pt_all (xs : List Pt) : ∀ u ∈ xs.flatMap xT, u.oneCell' = true := by
 intro u hu;obtain ⟨x, _, hx⟩ := List.mem_flatMap.1 hu
 simp [xT] at hx
 rcases hx with rfl | rfl | rfl <;> rfl

set_option maxHeartbeats 4000000 in
theorem concatP_any (S : Nat) (pa qa : Option Addr) (pc qc : Nat) (xs ys : List Pt) (w : World) {B1 B2 : Nat} (hS : zg w S [.slice pa xs.length pc, .slice qa ys.length qc]) (hx : ZM w B1 (.slice pa xs.length pc) xs) (hy : ZM w B2 (.slice qa ys.length qc) ys) (hl : xs.length + ys.length <= 50000) :
  Calls Tryz.prog 28 #[.slice (some ⟨S, 0, none⟩) 2 2] w fun e w' => ∃ v, e = .returned v /\ ZM w' w.heap.size v (xs ++ ys) /\ Below w.heap.size w w' := by
 obtain ⟨i0, hi0, hz0, hz1, hz2⟩ := info_parts Xz;have HS := zd hS;have HX := zd hx;have HY := zd hy;have hSl := hS.1;have s0 := hS.2.1 0 _ rfl;have s1 := hS.2.1 1 _ rfl;clear hS hx hy;go_enter Tryz.func28, Tryz.ntmps28;go_wp2_with fail
 go_loopw [3, 11] (fun y z wr => ∃ i : Nat, i <= 2 /\ z = .int .i64 i /\ y = .int .i64 (catN xs ys i : Nat) /\ wr = w) (fun _ z _ => 2 - (intOf z).toNat)
 case atStart => exact ⟨0, by omega, rfl, rfl, rfl⟩
 case round =>
  obtain ⟨i, hi, rfl, rfl, rfl⟩ := hrel
  obtain rfl | rfl | rfl : i = 0 \/ i = 1 \/ i = 2 := by omega
  ·rw [show catN xs ys 0 = 0 from rfl];have e1 : IntKind.i64.wrap ((xs.length : Nat) : Int) = (xs.length : Int) := zj (by omega) (by omega)
   have e2 : ¬ (xs.length : Int) < 0 := by omega
   go_wp2_with fail;exact ⟨⟨1, by omega, rfl, rfl, by first | rfl | trivial⟩, by simp [intOf]⟩
  ·rw [show catN xs ys 1 = xs.length from rfl];have e1 : IntKind.i64.wrap ((xs.length : Int) + (ys.length : Int)) = ((xs.length + ys.length : Nat) : Int) := (zj (by omega) (by omega)).trans (by omega)
   have e2 : ¬ ((xs.length + ys.length : Nat) : Int) < 0 := by omega
   go_wp2_with fail;exact ⟨⟨2, by omega, rfl, by first | rfl | simp [catN], by first | rfl | trivial⟩, by simp [intOf]⟩
  ·obtain ⟨w0, rfl⟩ : ∃ w0, w0 = wr := ⟨_, rfl⟩;rw [show catN xs ys 2 = xs.length + ys.length from rfl];go_wp2_with fail;refine (growP_any (xs.length + ys.length) _ (by omega)).mono ?_;rintro e w1 ⟨v, rfl, hrow1, hb1⟩;have HROW1 := zd hrow1;have HB1 := zd hb1;clear hrow1 hb1;go_wp2_with fail
   go_loopw [6, 27] (fun u z wx => ∃ i : Nat, i <= 2 /\ z = .int .i64 i /\ Hid (ZM wx w0.heap.size u (catL xs ys i)) /\ Below w0.heap.size w0 wx) (fun _ z _ => 2 - (intOf z).toNat)
   case atStart => exact ⟨0, by omega, rfl, HROW1, za HB1⟩
   case round =>
    obtain ⟨i, hi, rfl, HU, hbr⟩ := hrel
    obtain rfl | rfl | rfl : i = 0 \/ i = 1 \/ i = 2 := by omega
    ·obtain ⟨ua, ucap, hu, huc, _⟩ := ZB (za HU);subst hu;rw [show catL xs ys 0 = ([] : List Pt) from rfl] at huc;have sc := (hbr.cell (p := ⟨S, 0, none⟩) hSl).trans s0;have hSr : S < wr.heap.size := Nat.lt_of_lt_of_le hSl hbr.size;have HUr : Hid (ZM wr w0.heap.size (.slice ua 0 ucap) ([] : List Pt)) := HU;rw [show (catL xs ys 0).length = 0 from rfl];obtain ⟨_, ⟨hv, hn⟩ | ⟨g0, cap0, XE, hv, _⟩⟩ := za HX
     ·simp only [Value.slice.injEq] at hv;obtain ⟨hv1, hv2, hv3⟩ := hv;have hnil : xs = [] := List.eq_nil_of_length_eq_zero hv2;subst hv1;subst hv3;have sc' := sc;rw [hnil, List.length_nil] at sc';have HN := zd hnil;clear sc hnil hv2 hn;have huc' : 0 <= ucap := huc;clear huc;obtain ⟨_, ⟨hd, hdn⟩ | ⟨gd, capd, curd, hd, _⟩⟩ := za HUr
      all_goals
       simp only [Value.slice.injEq] at hd;obtain ⟨hd1, hd2, hd3⟩ := hd;subst hd1;subst hd3;clear hd2;go_wp2_with fail
      all_goals exact ⟨⟨1, by omega, rfl, zd (by rw [show catL xs ys 1 = xs from rfl, za HN]; exact za HUr), hbr⟩, by simp [intOf]⟩
     ·simp only [Value.slice.injEq] at hv;obtain ⟨hv1, _, hv3⟩ := hv;subst hv1;subst hv3
      go_wp2_with (at_builtin; refine wpList_append_own _ rfl (.tmp 31) (.tmp 32) 93 rfl w0.heap.size 103 i0 (.agg #[.int .i64 0, .int .i64 0, .int .i64 0]) 3 24 Tryz.underlying93 hi0 hz0 hz1 hz2 rfl (by decide) _ _ _ rfl (za HUr) ⟨g0, 0, none⟩ xs.length pc (xs.flatMap xT) rfl ?d0 ?d1 (pt_all _) ?d3 ?d4 ?d5 ?_)
      case d0 => rw [XC (f := xT) (sz := 3) (fun _ => rfl)]
      case d1 => exact ((za HX).below hbr).news2
      case d3 => (first | (simp only [List.length_nil]; unfold maxLen; omega) | (unfold maxLen; omega))
      case d4 => (first | (simp only [List.length_nil]; omega) | omega)
      case d5 => exact hbr.size
      intro v' w' hown' hgrow _;have hb' : Below w0.heap.size w0 w' := Below.grown hbr hgrow hbr.size (fun j hj => ((za HUr).lt j hj).1)
      have hrow' : ZM w' w0.heap.size v' (catL xs ys 1) := by
       exact hown'
      have HROWN := zd hrow';clear hown' hgrow hrow';go_wp2_with fail;exact ⟨⟨1, by omega, rfl, HROWN, hb'⟩, by simp [intOf]⟩
    ·obtain ⟨ua, ucap, hu, huc, _⟩ := ZB (za HU);subst hu;rw [show catL xs ys 1 = xs from rfl] at huc;have sc := (hbr.cell (p := ⟨S, 1, none⟩) hSl).trans s1;have hSr : S < wr.heap.size := Nat.lt_of_lt_of_le hSl hbr.size;have HUr : Hid (ZM wr w0.heap.size (.slice ua xs.length ucap) xs) := HU;rw [show (catL xs ys 1).length = xs.length from rfl];obtain ⟨_, ⟨hv, hn⟩ | ⟨g0, cap0, XE, hv, _⟩⟩ := za HY
     ·simp only [Value.slice.injEq] at hv;obtain ⟨hv1, hv2, hv3⟩ := hv;have hnil : ys = [] := List.eq_nil_of_length_eq_zero hv2;subst hv1;subst hv3;have sc' := sc;rw [hnil, List.length_nil] at sc';have HN := zd hnil;clear sc hnil hv2 hn;have huc' : xs.length <= ucap := huc;clear huc;obtain ⟨_, ⟨hd, hdn⟩ | ⟨gd, capd, curd, hd, _⟩⟩ := za HUr
      all_goals
       simp only [Value.slice.injEq] at hd;obtain ⟨hd1, hd2, hd3⟩ := hd;subst hd1;subst hd3;clear hd2;go_wp2_with fail
      ·have h := za HUr;rw [hdn] at h;exact ⟨⟨2, by omega, rfl, zd (by rw [show catL xs ys 2 = xs ++ ys from rfl, za HN, List.append_nil]; exact h), hbr⟩, by simp [intOf]⟩
      ·exact ⟨⟨2, by omega, rfl, zd (by rw [show catL xs ys 2 = xs ++ ys from rfl, za HN, List.append_nil]; exact za HUr), hbr⟩, by simp [intOf]⟩
     ·simp only [Value.slice.injEq] at hv;obtain ⟨hv1, _, hv3⟩ := hv;subst hv1;subst hv3
      go_wp2_with (at_builtin; refine wpList_append_own _ rfl (.tmp 31) (.tmp 32) 93 rfl w0.heap.size 103 i0 (.agg #[.int .i64 0, .int .i64 0, .int .i64 0]) 3 24 Tryz.underlying93 hi0 hz0 hz1 hz2 rfl (by decide) _ _ _ rfl (za HUr) ⟨g0, 0, none⟩ ys.length qc (ys.flatMap xT) rfl ?d0 ?d1 (pt_all _) ?d3 ?d4 ?d5 ?_)
      case d0 => rw [XC (f := xT) (sz := 3) (fun _ => rfl)]
      case d1 => exact ((za HY).below hbr).news2
      case d3 => (first | (simp only [List.length_nil]; unfold maxLen; omega) | (unfold maxLen; omega))
      case d4 => (first | (simp only [List.length_nil]; omega) | omega)
      case d5 => exact hbr.size
      intro v' w' hown' hgrow _;have hb' : Below w0.heap.size w0 w' := Below.grown hbr hgrow hbr.size (fun j hj => ((za HUr).lt j hj).1)
      have hrow' : ZM w' w0.heap.size v' (catL xs ys 2) := by
       show World.ownsRow _ _ _ _ _ (xs ++ ys).length ((xs ++ ys).flatMap xT)
       rw [List.flatMap_append, List.length_append];exact hown'
      have HROWN := zd hrow';clear hown' hgrow hrow';go_wp2_with fail;exact ⟨⟨2, by omega, rfl, HROWN, hb'⟩, by simp [intOf]⟩
    ·go_wp2_with fail;go_ret;exact ⟨_, rfl, za HU, hbr⟩

theorem xc {n : Nat} {xs : List Value} (h : w.ownsRow base e sz (.slice (some ⟨g, 0, none⟩) m cap) n xs) (k : Nat) (hk : k < n * sz) (u : Value) : (w.setCell ⟨g, k, none⟩ u).ownsRow base e sz (.slice (some ⟨g, 0, none⟩) m cap) n (xs.set k u) := by
 obtain ⟨h0, ⟨h1, _⟩ | ⟨g', cap', cur, h1, hb, hh, hc, hm, hs, ht⟩⟩ := h
 ·simp at h1
 ·simp only [Value.slice.injEq, Option.some.injEq, Addr.mk.injEq, and_true] at h1;obtain ⟨rfl, rfl, rfl⟩ := h1;refine ⟨by simpa using h0, Or.inr ⟨g, cap, cur.setIfInBounds k u, rfl, hb, ?_, hc, hm, by simpa using hs, ?_⟩⟩
  ·simp [World.setCell, Array.getElem?_modify, hh]
  ·rw [Array.toList_setIfInBounds, List.take_set, ht]
theorem tv_set (t : Tr) (u : Value) : ∀ (qs : List (Tr × Value)) (i : Nat), i < qs.length -> ((((((qs.flatMap vi).set (i * 5) (.int .i64 t.front.piece)).set (i * 5 + 1) (.int .i64 t.front.at_)).set (i * 5 + 2) (.int .i64 t.front.way)).set (i * 5 + 3) (.int .i64 t.long)).set (i * 5 + 4) u) = (qs.set i (t, u)).flatMap vi
 | [], i, h => absurd h (by simp)
 | q :: r, 0, _ => by simp [vi]
 | q :: r, i + 1, h => by
  have ih := tv_set t u r i (by simpa using h)
  have e : (i + 1) * 5 = i * 5 + 5 := by omega
  rw [e, List.set_cons_succ];simp only [List.flatMap_cons];rw [← ih]
  simp [vi]
theorem XH.put {qs : List (Tr × Value)} (h : XH w base (.slice (some ⟨g, 0, none⟩) m cap) qs) (hi : i < qs.length) (t : Tr) (u : Value) : XH (((((w.setCell ⟨g, i * 5, none⟩ (.int .i64 t.front.piece)).setCell ⟨g, i * 5 + 1, none⟩ (.int .i64 t.front.at_)).setCell ⟨g, i * 5 + 2, none⟩ (.int .i64 t.front.way)).setCell ⟨g, i * 5 + 3, none⟩ (.int .i64 t.long)).setCell ⟨g, i * 5 + 4, none⟩ u) base (.slice (some ⟨g, 0, none⟩) m cap) (qs.set i (t, u)) := by
 have h5 := xc (xc (xc (xc (xc h (i * 5) (by omega) (.int .i64 t.front.piece)) (i * 5 + 1) (by omega) (.int .i64 t.front.at_)) (i * 5 + 2) (by omega) (.int .i64 t.front.way)) (i * 5 + 3) (by omega) (.int .i64 t.long)) (i * 5 + 4) (by omega) u
 show World.ownsRow _ _ _ _ _ (qs.set i (t, u)).length _
 rw [List.length_set, ← tv_set t u qs i hi];exact h5
theorem map_set_fst (qs : List (Tr × Value)) (i : Nat) (t : Tr) (u : Value) : (qs.set i (t, u)).map Prod.fst = (qs.map Prod.fst).set i t := by rw [List.map_set]
theorem xO.setT {sc : Nat} (h : xO False w A ts codes fars sks (.slice (some ⟨g, 0, none⟩) m cap) vc vf vk) (hi : i < ts.length) (hst : Zk w (A + 1) (.slice a t.back.length sc) t.back) :
  xO False (((((w.setCell ⟨g, i * 5, none⟩ (.int .i64 t.front.piece)).setCell ⟨g, i * 5 + 1, none⟩ (.int .i64 t.front.at_)).setCell ⟨g, i * 5 + 2, none⟩ (.int .i64 t.front.way)).setCell ⟨g, i * 5 + 3, none⟩ (.int .i64 t.long)).setCell ⟨g, i * 5 + 4, none⟩ (.slice a t.back.length sc)) A (ts.set i t) codes fars sks (.slice (some ⟨g, 0, none⟩) m cap) vc vf vk
  /\ zP (fun k => k = g) w (((((w.setCell ⟨g, i * 5, none⟩ (.int .i64 t.front.piece)).setCell ⟨g, i * 5 + 1, none⟩ (.int .i64 t.front.at_)).setCell ⟨g, i * 5 + 2, none⟩ (.int .i64 t.front.way)).setCell ⟨g, i * 5 + 3, none⟩ (.int .i64 t.long)).setCell ⟨g, i * 5 + 4, none⟩ (.slice a t.back.length sc)) := by
 obtain ⟨qs, hq, hv, hqe, _⟩ := h.rt
 have hlen : qs.length = ts.length := by rw [← hq, List.length_map]
 have hput := hv.put (i := i) (by omega) t (.slice a t.back.length sc);have hgl := hv.lt g rfl;have hgt := hv.ty (k := g) rfl
 have ho : zP (fun k => k = g) w (((((w.setCell ⟨g, i * 5, none⟩ (.int .i64 t.front.piece)).setCell ⟨g, i * 5 + 1, none⟩ (.int .i64 t.front.at_)).setCell ⟨g, i * 5 + 2, none⟩ (.int .i64 t.front.way)).setCell ⟨g, i * 5 + 3, none⟩ (.int .i64 t.long)).setCell ⟨g, i * 5 + 4, none⟩ (.slice a t.back.length sc)) :=
  ((((ze (S := fun k => k = g) w (p := ⟨g, i * 5, none⟩) rfl _).trans (ze (S := fun k => k = g) _ (p := ⟨g, i * 5 + 1, none⟩) rfl _)).trans (ze (S := fun k => k = g) _ (p := ⟨g, i * 5 + 2, none⟩) rfl _)).trans (ze (S := fun k => k = g) _ (p := ⟨g, i * 5 + 3, none⟩) rfl _)).trans (ze (S := fun k => k = g) _ (p := ⟨g, i * 5 + 4, none⟩) rfl _)
 generalize (((((w.setCell ⟨g, i * 5, none⟩ (.int .i64 t.front.piece)).setCell ⟨g, i * 5 + 1, none⟩ (.int .i64 t.front.at_)).setCell ⟨g, i * 5 + 2, none⟩ (.int .i64 t.front.way)).setCell ⟨g, i * 5 + 3, none⟩ (.int .i64 t.long)).setCell ⟨g, i * 5 + 4, none⟩ (.slice a t.back.length sc)) = w' at hput ho ⊢
 have hk : ∀ k T, zx w k T -> T ≠ 32 -> w'.heap[k]? = w.heap[k]? := fun k T h1 h2 => ho.block k h1.lt (fun e => by subst e; exact h2 (h1.unique hgt))
 refine ⟨⟨isTy_only h.ty ho, zO h.box (hk A _ h.ty (by decide)) ho.size, ⟨qs.set i (t, .slice a t.back.length sc), by rw [map_set_fst, hq], hput, fun q hm => ?_, False.elim⟩, h.rc.block fun k h1 => hk k _ (h.rc.ty h1) (by decide), h.rf.block fun k h1 => hk k _ (h.rf.ty h1) (by decide), h.dis, h.rk.block fun k h1 => hk k _ (h.rk.ty h1) (by decide)⟩, ho⟩
 rcases List.mem_or_eq_of_mem_set hm with hm | rfl
 ·obtain ⟨a', c', he, hr⟩ := hqe q hm;exact ⟨a', c', he, hr.block fun k h1 => hk k _ (hr.ty h1) (by decide)⟩
 ·exact ⟨a, sc, rfl, hst.block fun k h1 => hk k _ (hst.ty h1) (by decide)⟩
theorem xO.addS {w5 : World} {v' : Value} {x : Int × Int} (h : xO d w A ts codes fars sks vt vc vf vk) (hg : w.grownBy w5 vk.ownBlock) (hown : un w5 (A + 1) v' (sks ++ [x])) : xO d (w5.setCell ⟨A, 4, none⟩ v') A ts codes fars (sks ++ [x]) vt vc vf v' := by
 have hne : some A ≠ vk.ownBlock := fun e => by have := (h.rk.lt A e.symm).1; omega
 have hA := hg.block A h.ty.lt hne
 have hs : A < A + 1 := by omega
 obtain ⟨qs, hq, hv, hqe, htw⟩ := h.rt;refine ⟨Zq (h.ty.same hA) _ _, by simpa using (boxed_grown' hg h.box hne).setAt (i := 4) (by simp) v', ⟨qs, hq, (hv.kept hg (fun k hk hc => zV.apart hv h.rk (by decide) k hk hc)).setCell (p := ⟨A, 4, none⟩) hs v', fun q hm => ?_, htw⟩, (h.rc.kept hg (fun k hk hc => zV.apart h.rc h.rk (by decide) k hk hc)).setCell (p := ⟨A, 4, none⟩) hs v', (h.rf.kept hg (fun k hk hc => zV.apart h.rf h.rk (by decide) k hk hc)).setCell (p := ⟨A, 4, none⟩) hs v', h.dis, hown.setCell (p := ⟨A, 4, none⟩) hs v'⟩;obtain ⟨a', cap', he, hr⟩ := hqe q hm;exact ⟨a', cap', he, (hr.kept hg (fun k hk hc => zV.apart hr h.rk (by decide) k hk hc)).setCell (p := ⟨A, 4, none⟩) hs v'⟩

theorem sts_news {b off : Nat} (h : yw L w (some ⟨b, off, none⟩) xs) : ∀ j u, (xs.flatMap Vl)[j]? = some u -> w.cell? ((⟨b, off, none⟩ : Addr).add j) = some u := by
 intro j u hj;have hl := XC VM xs;have hjl : j < (xs.flatMap Vl).length := (List.getElem?_eq_some_iff.1 hj).1
 have hi : j / 2 < xs.length := by omega
 have e : j = j / 2 * 2 + j % 2 := by omega
 have hadd : (⟨b, off, none⟩ : Addr).add j = ⟨b, off + j, none⟩ := by simp [Addr.add]
 obtain ⟨b', off', ha, _, c0, c1⟩ := h (j / 2) hi;simp only [Option.some.injEq, Addr.mk.injEq, and_true] at ha;obtain ⟨rfl, rfl⟩ := ha;rw [e, flat_get VM xs (j / 2) (j % 2) hi (by omega)] at hj;rw [hadd]
 rcases Nat.mod_two_eq_zero_or_one j with h0 | h1
 ·rw [h0] at hj
  simp [Vl] at hj
  subst hj;rw [← c0]
  congr 2
  omega
 ·rw [h1] at hj
  simp [Vl] at hj
  subst hj;rw [← c1]
  congr 2
  omega

theorem isTy_free {k : Nat} {T : TypeId} (h : zx w k T) (j : Nat) : w.frozen? ⟨k, j, none⟩ = false := by
 obtain ⟨c, hc⟩ := h
 simp [World.frozen?, hc]
theorem Yd (h : Zk w base (.slice a m cap) xs) : yw 0 w a xs := by
 obtain ⟨a', cap', hv, _, hx⟩ := xa (h.mono (Nat.zero_le _))
 simp at hv
 rw [hv.1];exact hx
theorem TnD.get {v : Value} (h : TnD d w base v ts) (hi : i < ts.length) : ∃ g cap sa sc, v = .slice (some ⟨g, 0, none⟩) ts.length cap /\ (base <= g /\ g < w.heap.size) /\ zx w g 32 /\ w.cell? ⟨g, i * 5, none⟩ = some (.int .i64 (ZS ts i).front.piece) /\ w.cell? ⟨g, i * 5 + 1, none⟩ = some (.int .i64 (ZS ts i).front.at_) /\ w.cell? ⟨g, i * 5 + 2, none⟩ = some (.int .i64 (ZS ts i).front.way) /\ w.cell? ⟨g, i * 5 + 3, none⟩ = some (.int .i64 (ZS ts i).long)
  /\ w.cell? ⟨g, i * 5 + 4, none⟩ = some (.slice sa (ZS ts i).back.length sc) /\ Zk w base (.slice sa (ZS ts i).back.length sc) (ZS ts i).back := by
 obtain ⟨qs, rfl, h1, h2, _⟩ := h;obtain ⟨a, cap, e, _, hc⟩ := h1.shape VG
 have hi' : i < qs.length := by simpa using hi
 obtain ⟨g, hg, hl, hcell⟩ := hc i hi';obtain ⟨sa, sc, he, hr⟩ := h2 qs[i] (List.getElem_mem hi')
 have htr : ZS (qs.map Prod.fst) i = (qs[i]).1 := by simp [ZS, List.getElem?_eq_getElem hi']
 subst e;subst hg;rw [htr];rw [he] at hr
 have c4 : w.cell? ⟨g, i * 5 + 4, none⟩ = some (qs[i]).2 := by simpa [vi] using hcell 4 (by omega)
 rw [he] at c4;exact ⟨g, cap, sa, sc, by simp, hl, h1.ty rfl, by simpa [vi] using hcell 0 (by omega), by simpa [vi] using hcell 1 (by omega), by simpa [vi] using hcell 2 (by omega), by simpa [vi] using hcell 3 (by omega), c4, hr⟩

structure TkY (w0 : World) (A : Nat) (n0 r8 qc : List Value) (Q : Nat) (ov bk : Value) (ovs : List Pt) (bks : List St) (w : World) : Prop where
 n : zg w w0.heap.size n0
 r : zg w (w0.heap.size + 1) r8
 qb : zg w Q qc
 qt : zx w Q 109
 po : ZM w (A + 1) ov ovs
 pb : Zk w (A + 1) bk bks
 lo : w0.heap.size + 1 < A
 bel : Below w0.heap.size w0 w
theorem TkY.kept (h : TkY w0 A n0 r8 qc Q ov bk ovs bks w) (hb : Below A w w') (hk : ∀ k T, zx w k T -> (T = 109 \/ T = 103 \/ T = 87) -> w'.heap[k]? = w.heap[k]?) : TkY w0 A n0 r8 qc Q ov bk ovs bks w' :=
 have hlo := h.lo
 ⟨zO h.n (hb.block _ (by omega)) hb.size, zO h.r (hb.block _ (by omega)) hb.size, zO h.qb (hk Q _ h.qt (Or.inl rfl)) hb.size, h.qt.same (hk Q _ h.qt (Or.inl rfl)), h.po.block fun k h1 => hk k _ (h.po.ty h1) (Or.inr (Or.inl rfl)), h.pb.block fun k h1 => hk k _ (h.pb.ty h1) (Or.inr (Or.inr rfl)), h.lo, h.bel.trans (hb.mono (by omega))⟩
theorem TkY.below (h : TkY w0 A n0 r8 qc Q ov bk ovs bks w) (hA : A <= w.heap.size) (hb : Below w.heap.size w w') : TkY w0 A n0 r8 qc Q ov bk ovs bks w' := h.kept (hb.mono hA) fun k _ hk _ => hb.block k hk.lt
theorem TkY.grown {r : Option Nat} (h : TkY w0 A n0 r8 qc Q ov bk ovs bks w) (hA : A <= w.heap.size) (hg : w.grownBy w' r) (hr : ∀ k, r = some k -> A <= k /\ ∃ T, zx w k T /\ GTy T) : TkY w0 A n0 r8 qc Q ov bk ovs bks w' := by
 refine h.kept (Below.grown (Below.refl _ w) hg hA (fun k hk => (hr k hk).1)) fun k T hk hT => hg.block k hk.lt (fun e => ?_)
 obtain ⟨_, T', h1, h2⟩ := hr k e.symm;have := hk.unique h1;subst this
 rcases hT with rfl | rfl | rfl <;> rcases h2 with h2 | h2 | h2 <;> exact absurd h2 (by decide)
theorem TkY.set (h : TkY w0 A n0 r8 qc Q ov bk ovs bks w) (hA : zx w A 42) (j : Nat) (v : Value) : TkY w0 A n0 r8 qc Q ov bk ovs bks (w.setCell ⟨A, j, none⟩ v) := by
 have ho : zP (fun k => k = A) w (w.setCell ⟨A, j, none⟩ v) := ze (S := fun k => k = A) w (p := ⟨A, j, none⟩) rfl v
 refine h.kept (ho.below (Nat.le_of_lt hA.lt) (fun k hk e => by omega)) fun k T hk hT => ho.block k hk.lt (fun e => ?_)
 subst e;have := hk.unique hA
 rcases hT with rfl | rfl | rfl <;> exact absurd this (by decide)
theorem TkY.onlyT (h : TkY w0 A n0 r8 qc Q ov bk ovs bks w) (hg : zx w g 32) (hA : A + 1 <= g) (ho : zP (fun k => k = g) w w') : TkY w0 A n0 r8 qc Q ov bk ovs bks w' := by
 have := hg.lt
 refine h.kept (ho.below (by omega) (fun k hk e => by omega)) fun k T hk hT => ho.block k hk.lt (fun e => ?_)
 subst e;have := hk.unique hg
 rcases hT with rfl | rfl | rfl <;> exact absurd this (by decide)

theorem UI (cs ps : List Pt) : YR cs ps ↔ yx ps cs = true := by
 unfold yx YR;simp only [List.any_eq_true, decide_eq_true_eq]
 constructor
 ·rintro ⟨i, j, h, h', ht⟩;exact ⟨ps[j], List.getElem_mem h', cs[i], List.getElem_mem h, ht⟩
 ·rintro ⟨y, hy, x, hx, ht⟩;obtain ⟨j, h', rfl⟩ := List.getElem_of_mem hy;obtain ⟨i, h, rfl⟩ := List.getElem_of_mem hx;exact ⟨i, j, h, h', ht⟩

set_option maxHeartbeats 4000000 in
theorem UZ (v : Value) (n : Nt) (tq : Option Addr) (ts : List Tr) (tk : Nat) (w : World) (hv : zE L w v n) (hts : XW L' w tq ts) (htl : ts.length <= 1048576) (hbl : ∀ t ∈ ts, t.back.length <= 1048576) (hl : n.pieces.length <= 1048576) (hl' : n.joints.length <= 1048576)
  (hle : ∀ i (h : i < n.joints.length), n.joints[i].ends.length <= 1048576 /\ n.joints[i].name.size <= maxLen) (hnm : ∀ i (h : i < n.pieces.length), n.pieces[i].name.size <= maxLen) :
  Calls Tryz.prog 31 #[v, .slice tq ts.length tk] w fun e w' => yG (ye n ts) e /\ Below w.heap.size w w' := by
 have hvv := hv;obtain ⟨x, c, ca, cc, rfl, hp, hj⟩ := hv;go_enter Tryz.func31, Tryz.ntmps31;go_wp2_with fail;refine (qi _ n _ (hvv.below ?_) hl hl' hle hnm).mono ?_
 ·exact bw0
 rintro e w1 ⟨hR, hb1⟩;have hbw1 : Below w.heap.size w w1 := below_then bw0 hb1;have hN1 : zg w1 w.heap.size [.slice x n.pieces.length ca, .slice c n.joints.length cc] := (zf _ _ _).below hb1
 rcases hR with ⟨rfl, hR⟩ | ⟨rfl, hR⟩
 rotate_left
 ·have HR := zd hR;clear hR;go_wp2;go_ret;exact ⟨zk fun h => za HR h.1, hbw1⟩
 have hG := Zu hR;have HR := zd hR;clear hR
 by_cases h20 : ts.length <= 20
 rotate_left
 ·have h20b : (20 : Int) < (ts.length : Int) := by omega
  go_wp2;go_ret;exact ⟨zk fun h => h20 h.2.1, hbw1⟩
 have h20b : ¬ (20 : Int) < (ts.length : Int) := by omega
 go_wp2_with fail
 go_loopw [17] (fun z wr => ∃ k : Nat, k <= ts.length /\ z = .int .i64 k /\ Hid (∀ t ∈ ts.take k, zD n t) /\ zg wr w.heap.size [.slice x n.pieces.length ca, .slice c n.joints.length cc] /\ Below w.heap.size w wr) (fun z _ => ts.length - (intOf z).toNat)
 case atStart => exact ⟨0, Nat.zero_le _, rfl, zd fun t ht => by simp at ht, hN1, hbw1⟩
 case round =>
  obtain ⟨k, hk, rfl, HOK, hN, hb⟩ := hrel;have nn := hN.1;have a0 := hN.2.1 0 _ rfl;have a1 := hN.2.1 1 _ rfl
  by_cases hlt : k < ts.length
  ·obtain ⟨tb, toff, ba, bc, hte, htb, c0, c1, c2, c3, c4, hst, hcap⟩ := hts.below hb k hlt;have hblk := hbl ts[k] (List.getElem_mem hlt);have htk : ts.take (k + 1) = ts.take k ++ [ts[k]] := List.take_succ_eq_append_getElem hlt;have hmemk : ts[k] ∈ ts := List.getElem_mem hlt
   generalize ts[k] = t at *
   have htb2 := htb.2;subst hte;have hA : Below wr.heap.size wr (wr.alloc (.cells #[.int .i64 t.front.piece, .int .i64 t.front.at_, .int .i64 t.front.way, .int .i64 t.long, .slice ba t.back.length bc] 32)) := bw0;have hbA := below_then hb hA;go_wp2_with fail;refine (vJ _ _ n t _ (hvv.below hbA) ⟨ba, bc, rfl, hst.below hA⟩ hG hblk).mono ?_;rintro e w2 ⟨⟨rfl, hf⟩ | ⟨rfl, hf⟩, hb2⟩
   ·have HF := zd hf;clear hf;go_wp2;refine ⟨⟨k + 1, by omega, by go_num, zd fun t' ht' => ?_, hN.below (below_then hA hb2), below_then hbA hb2⟩, by simp [intOf]; omega⟩;rw [htk] at ht'
    rcases List.mem_append.1 ht' with h | h
    ·exact za HOK t' h
    ·obtain rfl : t' = t := by simpa using h
     exact za HF
   ·have HF : Hid (¬ ye n ts) := fun h => hf (h.2.2 t hmemk)
    clear hf;go_wp2;go_ret;exact ⟨zk (za HF), below_then hbA hb2⟩
  ·have hkl : k = ts.length := by omega
   have HFIN : Hid (ye n ts) := ⟨za HR, h20, by have := za HOK; rw [hkl] at this; simpa using this⟩;clear hkl;go_wp2;go_ret;exact ⟨zA (za HFIN), hb⟩
end Go.Proofs.YthdioeofdofleaaGreatDoor
