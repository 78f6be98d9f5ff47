import Derived.Test.YthdioeofdofleaaGreatDoorMSpec15
import Derived.Test.YthdioeofdofleaaGreatDoorMPlain
import Derived.Test.YthdioeofdofleaaGreatDoorMReadBy
import Derived.Test.YthdioeofdofleaaGreatDoorCards
import Derived.Test.YthdioeofdofleaaGreatDoorTie
import Derived.ProofKit
import Derived.OpenShut
import Derived.ChangeOld
import Derived.ChangeSame
import Derived.ChangeVars
import Derived.JoinedOf
import Derived.LaidLaws
import Derived.LaidMore
import Derived.LaidHandle
import Derived.LaidSub
import Derived.Lib.LaidTab
import Derived.MakeChecks
import Derived.WalkSmall
import Derived.Stop.Joined
import Derived.SevenTiedAt
set_option linter.unusedSimpArgs false
set_option maxRecDepth 100000
namespace Go.Proofs.YthdioeofdofleaaGreatDoor
open Go.RowKit Go.ChangeShapes Go.WideShapes Go.ChangeAt
variable {W : World}
set_option maxHeartbeats 8000000 in
theorem fnTick_any (bs ms : List Int) (ba ma : Option Addr) (bcap mcap : Nat) (w : World) (hba : YX w.heap.size w ba bs) (hbs : yy bs) (hma : Bk ms ma w) (hms : yy ms) :
  Calls Tryz.prog 3 #[.slice ba bs.length bcap, .slice ma ms.length mcap] w fun e w' => e = .returned (.bool true) /\ Below w.heap.size w w' := by
 have HBA := zd hba;have HM0 := zd hma;clear hba hma;obtain ⟨i1, hj1, hy0, hy1, hy2⟩ := info_parts XM;obtain ⟨i2, hj2, hz0, hz1, hz2⟩ := info_parts uf;go_enter Tryz.func3, Tryz.ntmps3
 by_cases h1 : 1048576 < bs.length
 ·have h1' : (1048576 : Int) < (bs.length : Int) := by omega
  go_wp2_with fail;go_ret;exact ⟨rfl, Below.refl _ _⟩
 ·have h1' : ¬ (1048576 : Int) < (bs.length : Int) := by omega
  by_cases h2 : 1048576 < ms.length
  ·have h2' : (1048576 : Int) < (ms.length : Int) := by omega
   go_wp2_with fail;go_ret;exact ⟨rfl, Below.refl _ _⟩
  ·have h2' : ¬ (1048576 : Int) < (ms.length : Int) := by omega
   go_wp2_with fail;refine (drawn_any bs ba bcap _ (za HBA) hbs).mono ?_;rintro e w1 ⟨v, n, zq, zs, zc, t, ta, tc, ok, rfl, hdi, hok, hN1, hZ1, hS1, hB1⟩;dsimp only [trV];have hsm := hdi.small;have hbk := hdi.back;have hN1' := hN1;obtain ⟨a1, a2, k1, k2, rfl, _, _⟩ := hN1;obtain ⟨N, T, w2, hNe, hTe, hw2, hNw, hTw, hB2⟩ := drawn_boxes 26 32 hN1' hZ1 hS1 hB1
   have HS2 : Hid (Zk w2 w.heap.size (.slice ta t.back.length tc) t.back) := by rw [hw2]; exact hS1.below bw0
   have HOK := zd hok;have HSM := zd hsm;have HNE := zd hNe;have HTE := zd hTe;have HW2 := zd hw2;have HN2 := zd hNw;have HT2 := zd hTw;have HB2 := zd hB2;have HM2 := zd ((za HM0).below hB2);clear hdi hok hN1' hZ1 hS1 hB1 hsm hNe hTe hw2 hNw hTw hB2 HBA HM0;go_upto_region 4 with fail;rw [← za HW2, ← za HTE, ← za HNE];clear HW2 HTE HNE
   cases ok with
   | false =>
    clear HOK;go_wp2_with fail;go_ret;exact ⟨rfl, za HB2⟩
   | true =>
    have hTR := ((za HOK).1 rfl).1;clear HOK;have n0 := (za HN2).bn.2.1 0 _ rfl;have n1 := (za HN2).bn.2.1 1 _ rfl;have nl := (za HN2).bn.1;go_wp2_with fail;clear n0 n1 nl;refine (more_any ms _ n zq zs zc ma mcap _ (za HN2).net (za HN2).lies (za HM2).by_ hms (za HSM)).mono ?_;rintro e w4 ⟨lv, ts, pv, ps, rfl, hL4, hts, htr, _, _, hb4⟩;dsimp only;obtain ⟨qs, hqs, hqv, hqe⟩ := hL4;obtain ⟨va, vc, hve, _⟩ := hqv.shape VG;subst hve
    have hql : qs.length <= 3 := by
     have : qs.length = ts.length := by rw [← hqs, List.length_map]
     omega
    have HQV := zd hqv;have HQE := zd hqe;have HQS := zd hqs;have hT4 := (za HT2).below hb4;have HB4 := zd hb4;have HS4 := zd ((za HS2).below hb4);have HTS := zd htr;have hs4 := hb4.size;clear hqs hqv hqe hb4 htr;have t0 := hT4.bt.2.1 0 _ rfl;have t1 := hT4.bt.2.1 1 _ rfl;have t2 := hT4.bt.2.1 2 _ rfl;have t3 := hT4.bt.2.1 3 _ rfl;have t4 := hT4.bt.2.1 4 _ rfl;have tl := hT4.bt.1;clear hT4
    go_wp2_with (at_builtin; refine wpList_append_own _ rfl (.tmp 43) (.tmp 45) 35 rfl w2.heap.size 32 i1 (.agg #[.int .i64 0, .int .i64 0, .int .i64 0, .int .i64 0, .slice none 0 0]) 5 56 Tryz.underlying35 hj1 hy0 hy1 hy2 rfl (by decide) _ _ _ rfl ((za HQV).below bw0) ⟨w4.heap.size, 0, none⟩ 1 1 (vi (t, .slice ta t.back.length tc)) rfl rfl ?c1 (uw _ _ _ _) ?c2 ?c3 ?c4 ?_)
    case c1 => (first | exact fun _ _ h => h | exact yd (zp _ _ _ (by first | rfl | simp)))
    case c2 => unfold maxLen; omega
    case c3 => omega
    case c4 => (first | omega | (simp; omega))
    intro u' w5 hown hgrow _;have hrow5 : XH w5 w2.heap.size u' (qs ++ [(t, .slice ta t.back.length tc)]) := zV.snoc (f := vi) hown;have hBB : Below w4.heap.size w4 (w4.alloc (.cells #[.int .i64 t.front.piece, .int .i64 t.front.at_, .int .i64 t.front.way, .int .i64 t.long, .slice ta t.back.length tc] 32)) := bw0
    have hL5 := tnRow_add (za HQS) ((za HQV).below hBB) (fun q hq => by
     obtain ⟨a', cap', he, hr⟩ := za HQE q hq
     exact ⟨a', cap', he, hr.below hBB⟩) ((za HS4).below hBB) hgrow hrow5 (za HB2).size
    have hb5 : Below w2.heap.size w2 w5 := (below_then (za HB4) hBB).trans (Below.grown (Below.refl w2.heap.size _) hgrow (by have := hBB.size; omega) (fun k hk => ((za HQV).lt k hk).1))
    have hlr : ∀ x ∈ ts ++ [t], zJ n x := fun x hx => by
     rcases List.mem_append.1 hx with hx | hx
     ·exact za HTS x hx
     ·simp at hx
      subst hx;exact hTR
    have hll : (ts ++ [t]).length <= 4 := by rw [List.length_append, List.length_singleton]; omega
    obtain ⟨l, hl⟩ : ∃ l, ts ++ [t] = l := ⟨_, rfl⟩;rw [hl] at hL5 hlr hll
    have hlb : ∀ x ∈ l, x.back.length <= 1048576 := fun x hx => by have := (hlr x hx).2.2.2.1; omega
    obtain ⟨lq, lk, hlv, hT5⟩ := vn hL5;subst hlv;have HL5 := zd hT5;have HN5 := zd ((za HN2).below hb5);have HM5 := zd ((za HM2).below hb5);have HB5 := zd ((za HB2).trans (hb5.mono (za HB2).size));have HLB := zd hlb;clear hown hgrow hrow5 hBB hL5 hb5 hlr hl hT5 hlb HQV HQE HQS HS4 HB4 HTS HN2 HT2 HM2 HB2 HS2 hts hql hTR hs4;clear t0 t1 t2 t3 t4 tl;go_wp2_with fail
    go_loopw [11, 49] (fun y z wr => ∃ (i : Nat) (vs : List Int), z = .int .i64 i /\ i <= l.length /\ Hid (Xh wr w5.heap.size y vs /\ vs.length = i /\ Below w5.heap.size w5 wr)) (fun _ z _ => l.length - (intOf z).toNat)
    case atStart => exact ⟨0, [], rfl, Nat.zero_le _, zV.nil _ _ _ _ _, rfl, Below.refl _ _⟩
    case round =>
     obtain ⟨i, vs, rfl, hi, HR⟩ := hrel
     by_cases hlt : i < l.length
     ·have hlt' : (i : Int) < (l.length : Int) := by omega
      have hw3 : IntKind.i64.wrap (3 * (i : Int)) = ((3 * i : Nat) : Int) := (zj (by omega) (by omega)).trans (by omega);have hwi : IntKind.i64.wrap ((i : Int) + 1) = ((i + 1 : Nat) : Int) := (zj (by omega) (by omega)).trans (by omega);obtain ⟨va, vc, hve, _, _⟩ := yN (za HR).1;subst hve
      have hvl : vs.length <= 4 := by have := (za HR).2.1; omega
      have hbr := (za HR).2.2;have hbs5 := hbr.size;have HBR := zd hbr;clear hbr;go_wp2_with fail;refine (wFar_any ms ma mcap (3 * i) _ ((za HM5).below (za HBR)).by_ (by omega) (by omega)).mono ?_;rintro e w6 ⟨r, rfl, hr, hb6⟩;have hs6 := hb6.size;have e5 : Int.tmod r 400 = r % 400 := Int.tmod_eq_emod_of_nonneg (by omega);have e8 : IntKind.i64.wrap (r % 400) = r % 400 := zj (by omega) (by omega);obtain ⟨r', hr'⟩ : ∃ r', r % 400 = r' := ⟨_, rfl⟩;rw [hr'] at e5 e8;have HNT := zd (zV.below (za HR).1 hb6);have HB6 := zd hb6;clear hb6 hr'
      go_wp2_with (at_builtin; refine wpList_append_own _ rfl (.tmp 52) (.tmp 58) 27 rfl w5.heap.size 3 i2 (.int .i64 0) 1 8 Tryz.underlying27 hj2 hz0 hz1 hz2 rfl (by decide) _ _ _ rfl ((za HNT).below bw0) ⟨w6.heap.size, 0, none⟩ 1 1 (ntF r') rfl rfl ?c1 (UR _) ?c2 ?c3 ?c4 ?_)
      case c1 => (first | exact fun _ _ h => h | exact yd (zp _ _ _ (by first | rfl | simp)))
      case c2 => unfold maxLen; omega
      case c3 => omega
      case c4 => (first | omega | (simp; omega))
      intro u' w7 hown hgrow _;have hrow7 : Xh w7 w5.heap.size u' (vs ++ [r']) := zV.snoc (f := ntF) hown;have hb7 : Below w5.heap.size w5 w7 := ZL (za HNT) ((za HBR).trans ((za HB6).mono hbs5)) hgrow (Nat.le_refl _) (by omega);have HX7 : Hid (Xh w7 w5.heap.size u' (vs ++ [r']) /\ (vs ++ [r']).length = i + 1 /\ Below w5.heap.size w5 w7) := ⟨hrow7, by rw [List.length_append, (za HR).2.1]; rfl, hb7⟩;clear hown hgrow hrow7 hb7 e5 e8;go_wp2_with fail;exact ⟨⟨i + 1, _, rfl, by omega, HX7⟩, by simp [intOf]; omega⟩
     ·have hlt' : ¬ (i : Int) < (l.length : Int) := by omega
      obtain ⟨va, vc, hve, _, hvs⟩ := yN (za HR).1;subst hve
      have hvl : vs.length <= 4 := by have := (za HR).2.1; omega
      have hbr := (za HR).2.2;have HN6 := zd ((za HN5).below hbr);have HM6 := zd ((za HM5).below hbr);have HL6 := zd ((za HL5).below hbr);have HB6 := zd ((za HB5).trans (hbr.mono (za HB5).size));have HVS := zd hvs;clear hbr hvs HR HN5 HM5 HL5 HB5;have n0 := (za HN6).bn.2.1 0 _ rfl;have n1 := (za HN6).bn.2.1 1 _ rfl;have nl := (za HN6).bn.1;go_wp2_with fail;clear n0 n1 nl;refine (implTick_any _ n lq l lk zq zs zc va vs vc _ (za HN6).net (za HL6) (za HN6).lies (za HVS) (by omega) (za HLB) (by omega) (by have := (za HSM).pcs; omega) (by have := (za HSM).jts; omega) (fun i h => ((za HSM).hle i h).2) (za HSM).hnm (za HM6).gl.2).mono ?_;rintro e w7 ⟨hr7, hb7⟩;obtain ⟨ok, b, vt, vd, vf, vk, hti, rfl, h1', h2', h3', _, h4'⟩ := hr7;obtain ⟨ax, cx, fx, sx, p1, p2, p3, p4, rfl, rfl, rfl, rfl, hQ7⟩ := tkQ_of h1'.row h2' h3' h4';dsimp only;have HTI := zd hti;have hbX : Below w7.heap.size w7 (w7.alloc (.cells #[.bool ok, .slice ax b.ts.length p1, .slice cx b.codes.length p2, .slice fx b.fars.length p3, .slice sx b.strikes.length p4] 42)) := bw0;have hX8 : zg (w7.alloc (.cells #[.bool ok, .slice ax b.ts.length p1, .slice cx b.codes.length p2, .slice fx b.fars.length p3, .slice sx b.strikes.length p4] 42)) w7.heap.size [.bool ok, .slice ax b.ts.length p1, .slice cx b.codes.length p2, .slice fx b.fars.length p3, .slice sx b.strikes.length p4] := zf _ _ _;obtain ⟨w8, hw8⟩ : ∃ w8, w7.alloc (.cells #[.bool ok, .slice ax b.ts.length p1, .slice cx b.codes.length p2, .slice fx b.fars.length p3, .slice sx b.strikes.length p4] 42) = w8 := ⟨_, rfl⟩;obtain ⟨X, hXe⟩ : ∃ X, w7.heap.size = X := ⟨_, rfl⟩;have hb8 := below_then hb7 hbX;rw [hw8] at hX8 hb8;rw [hXe] at hX8;have HQ8 := zd (hQ7.below hbX);rw [hw8] at HQ8;have HX8 := zd hX8;have HN8 := zd ((za HN6).below hb8);have HM8 := zd ((za HM6).below hb8);have HL8 := zd ((za HL6).below hb8);have HVS8 := zd (zF.below (za HVS) hb8);have HB8 := zd ((za HB6).trans (hb8.mono (za HB6).size));clear hti h1' h2' h3' h4' hQ7 hbX hX8 hb7 hb8 HN6 HM6 HL6 HVS HB6;go_upto_region 15 with fail;clear hw8 hXe;have n0 := (za HN8).bn.2.1 0 _ rfl;have n1 := (za HN8).bn.2.1 1 _ rfl;have nl := (za HN8).bn.1;go_wp2_with fail;clear n0 n1 nl;refine (specTick_any _ n lq l lk zq zs zc va vs vc _ (za HN8).net (za HL8) (za HN8).lies (za HVS8) (by omega) (za HLB) (by have := (za HSM).pcs; omega) (by have := (za HSM).jts; omega) (za HSM).hle (za HSM).hnm).mono ?_;rintro e w9 ⟨hr9, hb9⟩;obtain ⟨ok', b', vt, vd, vf, vk, hti, rfl, h1', h2', h3', h4'⟩ := hr9;obtain ⟨eo, eb⟩ := (za HTI).unique hti;subst eo eb;obtain ⟨ay, cy, fy, sy, q1, q2, q3, q4, rfl, rfl, rfl, rfl, hQ9⟩ := tkQ_of h1' h2' h3' h4';dsimp only;have hbX : Below w9.heap.size w9 (w9.alloc (.cells #[.bool ok, .slice ay b.ts.length q1, .slice cy b.codes.length q2, .slice fy b.fars.length q3, .slice sy b.strikes.length q4] 42)) := bw0;have hX8 : zg (w9.alloc (.cells #[.bool ok, .slice ay b.ts.length q1, .slice cy b.codes.length q2, .slice fy b.fars.length q3, .slice sy b.strikes.length q4] 42)) w9.heap.size [.bool ok, .slice ay b.ts.length q1, .slice cy b.codes.length q2, .slice fy b.fars.length q3, .slice sy b.strikes.length q4] := zf _ _ _;obtain ⟨w10, hw8⟩ : ∃ w10, w9.alloc (.cells #[.bool ok, .slice ay b.ts.length q1, .slice cy b.codes.length q2, .slice fy b.fars.length q3, .slice sy b.strikes.length q4] 42) = w10 := ⟨_, rfl⟩;obtain ⟨Y, hXe⟩ : ∃ Y, w9.heap.size = Y := ⟨_, rfl⟩;have hb8 := below_then hb9 hbX;rw [hw8] at hX8 hb8;rw [hXe] at hX8;have HY10 := zd (hQ9.below hbX);rw [hw8] at HY10;have HQ10 := zd ((za HQ8).below hb8);have HX10 := zd ((za HX8).below hb8);have HY := zd hX8;have HN10 := zd ((za HN8).below hb8);have HM10 := zd ((za HM8).below hb8);have HB10 := zd ((za HB8).trans (hb8.mono (za HB8).size));have HF := zd hti.facts;clear hti h1' h2' h3' h4' hQ9 hbX hX8 hb9 hb8 HQ8 HX8 HN8 HM8 HL8 HVS8 HB8 HTI HLB;go_upto_region 16 with fail;clear hw8 hXe;have x0 := (za HX10).2.1 0 _ rfl;have x1 := (za HX10).2.1 1 _ rfl;have x2 := (za HX10).2.1 2 _ rfl;have x3 := (za HX10).2.1 3 _ rfl
      have x4 := (za HX10).2.1 4 _ rfl;have xl := (za HX10).1;have y0 := (za HY).2.1 0 _ rfl;have y1 := (za HY).2.1 1 _ rfl;have y2 := (za HY).2.1 2 _ rfl;have y3 := (za HY).2.1 3 _ rfl;have y4 := (za HY).2.1 4 _ rfl;have yl := (za HY).1;have hmk := Xk (P := Tryz.prog) 44 4 _ 1 1 (by kernel_rfl) info_Bool l.length (by omega) (by omega);go_wp2_with fail;clear hmk
      go_loopw [118] (fun z wr => ∃ i : Nat, z = .int .i64 i /\ i <= b.strikes.length /\ Hid (wr.rowIs w10.heap.size 4 l.length (fun j => .bool (vv (b.strikes.take i) j)) /\ Below w10.heap.size w10 wr)) (fun z _ => b.strikes.length - (intOf z).toNat)
      case atStart => exact ⟨0, rfl, Nat.zero_le _, by
       have h := vS w10 (Value.bool false).cells (l.length * 1) 4 rfl;rw [Nat.mul_one] at h
       exact h.congr fun j _ => by simp [Value.cells, vv, Nat.mod_one], bw0⟩
      case round =>
       clear x0 x1 x2 x3 x4 xl;clear y0 y1 y2 y3 y4 yl;obtain ⟨i, rfl, hi, HR⟩ := hrel;have hbr := (za HR).2;have hX := (za HX10).below hbr;have hY := (za HY).below hbr;have x0 := hX.2.1 0 _ rfl;have x1 := hX.2.1 1 _ rfl;have x2 := hX.2.1 2 _ rfl;have x3 := hX.2.1 3 _ rfl;have x4 := hX.2.1 4 _ rfl;have xl := hX.1;have y0 := hY.2.1 0 _ rfl;have y1 := hY.2.1 1 _ rfl;have y2 := hY.2.1 2 _ rfl;have y3 := hY.2.1 3 _ rfl;have y4 := hY.2.1 4 _ rfl;have yl := hY.1;clear hX hY;have hfs := (za HF).few
       by_cases hlt : i < b.strikes.length
       ·have hlt' : (i : Int) < (b.strikes.length : Int) := by omega
        have hwi : IntKind.i64.wrap ((i : Int) + 1) = ((i + 1 : Nat) : Int) := (zj (by omega) (by omega)).trans (by omega);obtain ⟨gx, rfl, gxl, sx0, sx1⟩ := (za HQ10).s i hlt;obtain ⟨gy, rfl, gyl, sy0, sy1⟩ := (za HY10).s i hlt;have hc1 := (hbr.cell gxl).trans sx0;have hc2 := (hbr.cell gxl).trans sx1;have hd1 := (hbr.cell gyl).trans sy0;have hd2 := (hbr.cell gyl).trans sy1;clear sx0 sx1 sy0 sy1;have htk : b.strikes.take (i + 1) = b.strikes.take i ++ [b.strikes[i]] := (List.take_append_getElem hlt).symm;obtain ⟨p, q, hpq, hp, hq, hne⟩ := (za HF).in_ _ (List.getElem_mem hlt);rw [hpq] at hc1 hc2 hd1 hd2 htk;dsimp only at hc1 hc2 hd1 hd2;have HTK := zd htk;have hr1 := (za HR).1.cell (i := p) hp;have hr2 := (za HR).1.cell (i := q) hq;have hrz := (za HR).1.frozen;have hrl := (za HR).1.lt;have eg : gx ≠ w10.heap.size := Nat.ne_of_lt gxl;have eX : X ≠ w10.heap.size := Nat.ne_of_lt (za HX10).1;have hbs := hbr.size
        have hp' : (p : Int) < (l.length : Int) := by omega
        have hq' : (q : Int) < (l.length : Int) := by omega
        have HBR := zd hbr;clear hpq htk hbr;go_wp2_with fail
        go_quiet (fail)
        go_wp2_with fail;have hb' := za HBR;refine ⟨⟨i + 1, rfl, by omega, ?_, (ZW hb')⟩, by simp [intOf]; omega⟩;rw [za HTK];refine World.rowIs.congr ?_ (fun j _ => strIn_snoc _ p q j);exact (((za HR).1.drew).set p _).set q _
       ·have hlt' : ¬ (i : Int) < (b.strikes.length : Int) := by omega
        rename World => w12
        have hrow : w12.rowIs w10.heap.size 4 l.length (fun j => .bool (vv b.strikes j)) := by
         have := (za HR).1;rw [List.take_of_length_le (by omega)] at this;exact this
        have HROW := zd hrow;have HN12 := zd ((za HN10).below hbr);have HM12 := zd ((za HM10).below hbr);have HX12 := zd ((za HX10).below hbr);have HY12 := zd ((za HY).below hbr);have HQ12 := zd ((za HQ10).below hbr);have HZ12 := zd ((za HY10).below hbr);have HB12 := zd ((za HB10).trans (hbr.mono (za HB10).size));have hrl := hrow.lt;clear hrow hbr HR HN10 HM10 HX10 HY HQ10 HY10 HB10;go_wp2_with fail
        go_loopw [152] (fun z wq => ∃ i : Nat, z = .int .i64 i /\ i <= b.ts.length /\ Hid (Below w12.heap.size w12 wq)) (fun z _ => b.ts.length - (intOf z).toNat)
        case atStart => exact ⟨0, rfl, Nat.zero_le _, Below.refl _ _⟩
        case round =>
         clear x0 x1 x2 x3 x4 xl;clear y0 y1 y2 y3 y4 yl
         rename World => wq
         obtain ⟨i, rfl, hi, HR⟩ := hrel;have hX := (za HX12).below (za HR);have hY := (za HY12).below (za HR);have x0 := hX.2.1 0 _ rfl;have x1 := hX.2.1 1 _ rfl;have x2 := hX.2.1 2 _ rfl;have x3 := hX.2.1 3 _ rfl;have x4 := hX.2.1 4 _ rfl;have xl := hX.1;have y0 := hY.2.1 0 _ rfl;have y1 := hY.2.1 1 _ rfl;have y2 := hY.2.1 2 _ rfl;have y3 := hY.2.1 3 _ rfl;have y4 := hY.2.1 4 _ rfl;have yl := hY.1;clear hX hY;have hfl := (za HF).len
         by_cases hlt : i < b.ts.length
         ·have hlt' : (i : Int) < (b.ts.length : Int) := by omega
          have hlc : i < b.codes.length := by rw [(za HF).codes]; exact hlt
          have hlf : i < b.fars.length := by rw [(za HF).fars]; exact hlt
          have hlc' : (i : Int) < (b.codes.length : Int) := by omega
          have hlf' : (i : Int) < (b.fars.length : Int) := by omega
          have hwi : IntKind.i64.wrap ((i : Int) + 1) = ((i + 1 : Nat) : Int) := (zj (by omega) (by omega)).trans (by omega);have hQ := (za HQ12).below (za HR);have hZ := (za HZ12).below (za HR);obtain ⟨tx, ox, bx, bcx, e1, gl1, c10, c11, c12, c13, c14, hst1, hcp1⟩ := hQ.t i hlt;obtain ⟨ty, oy, bz, bcy, e2, gl2, c20, c21, c22, c23, c24, hst2, hcp2⟩ := hZ.t i hlt;obtain ⟨cx', co, e3, gl3, d1⟩ := hQ.c i hlc;obtain ⟨cy', cp, e4, gl4, d2⟩ := hZ.c i hlc;obtain ⟨fx', fo, e5, gl5, d3⟩ := hQ.f i hlf;obtain ⟨fy', fp, e6, gl6, d4⟩ := hZ.f i hlf;subst e1 e2 e3 e4 e5 e6;have hbk1 := (za HF).back i hlt;have HST1 := zd hst1;have HST2 := zd hst2;have l1 := gl1.2;have l2 := gl2.2;have l3 := gl3.2;have l4 := gl4.2;have l5 := gl5.2;have l6 := gl6.2;clear hQ hZ hst1 hst2 gl1 gl2 gl3 gl4 gl5 gl6;go_upto_region 30 with fail;refine zt (by kernel_rfl) (by kernel_rfl) (fun hgn hgc => ?_)
          repeat (go_big_quiet_step (first | (go_at_call 9; rename_i g; exact g.call (wTrain_same b.ts[i] bx bz bcx bcy _ ((za HST1).below g.below) ((za HST2).below g.below) (by omega)))))
          refine wpQuiet_nil ?_;intro w14 hwq
          have hb14 : Below wq.heap.size wq w14 := by obtain ⟨g, rfl⟩ := hwq; exact g.below
          have HB14 := zd (below_then (za HR) hb14);clear hwq hgn hgc hb14 HST1 HST2 c10 c11 c12 c13 c14 c20 c21 c22 c23 c24 d1 d2 d3 d4 l1 l2 l3 l4 l5 l6;clear x0 x1 x2 x3 x4 xl;clear y0 y1 y2 y3 y4 yl;go_wp2_with fail
          go_loopw [18] (fun z wp => ∃ k : Nat, z = .int .i64 k /\ k <= i /\ Hid (Below w12.heap.size w12 wp)) (fun z _ => i - (intOf z).toNat)
          case atStart => exact ⟨0, rfl, Nat.zero_le _, HB14⟩
          case round =>
           clear HB14
           rename World => wp
           obtain ⟨k, rfl, hk, HP⟩ := hrel
           by_cases hki : k < i
           ·have hki' : (k : Int) < (i : Int) := by omega
            have hwk : IntKind.i64.wrap ((k : Int) + 1) = ((k + 1 : Nat) : Int) := (zj (by omega) (by omega)).trans (by omega)
            have hkt : k < b.ts.length := by omega
            have hkt' : (k : Int) < (b.ts.length : Int) := by omega
            have hil : (i : Int) < (l.length : Int) := by have := (za HF).lt; omega
            have hX := (za HX12).below (za HP);have hN := (za HN12).below (za HP);have hrw := (za HROW).of_block ((za HP).block _ hrl);have hrc := hrw.cell (i := i) (by have := (za HF).lt; omega);have hrt := hrw.lt;have x0 := hX.2.1 0 _ rfl;have x1 := hX.2.1 1 _ rfl;have x2 := hX.2.1 2 _ rfl;have x3 := hX.2.1 3 _ rfl;have x4 := hX.2.1 4 _ rfl;have xl := hX.1;have n0 := hN.bn.2.1 0 _ rfl;have n1 := hN.bn.2.1 1 _ rfl;have nl := hN.bn.1;have HNP := zd hN;clear hX hrw hN
            by_cases hs : vv b.strikes i = true
            ·have hs' : vv b.strikes i = true := hs;rw [hs] at hrc;go_upto_region 35 with fail;refine zt (by kernel_rfl) (by kernel_rfl) (fun hgn hgc => ?_)
             repeat (go_big_quiet_step (fail))
             refine wpQuiet_nil ?_;intro w16 hwq
             have hb16 : Below wp.heap.size wp w16 := by obtain ⟨g, rfl⟩ := hwq; exact g.below
             have HB16 := zd (below_then (za HP) hb16);clear hwq hgn hgc hb16;go_wp2_with fail;exact ⟨⟨k + 1, rfl, by omega, HB16⟩, by simp [intOf]; omega⟩
            ·have hs' : vv b.strikes i = false := by simpa using hs
             rw [hs'] at hrc
             have hno : ¬ MeetP n b.ts[i] b.ts[k] := fun h => hs (strIn_of ((za HF).met i k hki hlt hkt h))
             have hQ := (za HQ12).below (za HP);obtain ⟨tx', ox', bx, bcx, e1, gl1, c10, c11, c12, c13, c14, hst1, hcp1⟩ := hQ.t i hlt;obtain ⟨ty, oy, bz, bcy, e2, gl2, c20, c21, c22, c23, c24, hst2, hcp2⟩ := hQ.t k hkt;simp only [Option.some.injEq, Addr.mk.injEq, and_true] at e1 e2;obtain ⟨rfl, rfl⟩ := e1;obtain ⟨rfl, rfl⟩ := e2;have hbk1 := (za HF).back i hlt;have hbk2 := (za HF).back k hkt;have HST1 := zd (show yw 0 wp bx (b.ts[i]).back from fun j hj => by obtain ⟨b', o', e', h1, h2⟩ := hst1 j hj; exact ⟨b', o', e', ⟨Nat.zero_le _, h1.2⟩, h2⟩);have HST2 := zd (show yw 0 wp bz (b.ts[k]).back from fun j hj => by obtain ⟨b', o', e', h1, h2⟩ := hst2 j hj; exact ⟨b', o', e', ⟨Nat.zero_le _, h1.2⟩, h2⟩);have HNO := zd hno;have l1 := gl1.2;clear hQ hst1 hst2 gl1 gl2 hno;go_upto_region 35 with fail;refine zt (by kernel_rfl) (by kernel_rfl) (fun hgn hgc => ?_)
             repeat (go_big_quiet_step (first | (go_at_call 10; rename_i g; exact g.call ((implMeet_any _ n b.ts[i] b.ts[k] bx bz bcx bcy _ ((za HNP).net.below g.below) ((za HST1).below g.below) ((za HST2).below g.below) hcp1 hcp2 (by omega) (by omega) (by have := (za HSM).pcs; omega) (by have := (za HSM).jts; omega) (fun i h => ((za HSM).hle i h).2) (za HSM).hnm).mono fun e w' h => ⟨retB_val h.1 (b := false) ⟨fun h => absurd h (za HNO), fun h => by cases h⟩, h.2⟩))))
             refine wpQuiet_nil ?_;intro w16 hwq
             have hb16 : Below wp.heap.size wp w16 := by obtain ⟨g, rfl⟩ := hwq; exact g.below
             have HB16 := zd (below_then (za HP) hb16);clear hwq hgn hgc hb16;go_wp2_with fail;exact ⟨⟨k + 1, rfl, by omega, HB16⟩, by simp [intOf]; omega⟩
           ·have hki' : ¬ (k : Int) < (i : Int) := by omega
            go_wp2_with fail;exact ⟨⟨i + 1, rfl, by omega, HP⟩, by simp [intOf]; omega⟩
         ·have hlt' : ¬ (i : Int) < (b.ts.length : Int) := by omega
          obtain ⟨s, hs⟩ := shown_some n b.ts;have hN := (za HN12).below (za HR);have hM := (za HM12).below (za HR);have n0 := hN.bn.2.1 0 _ rfl;have n1 := hN.bn.2.1 1 _ rfl;have nl := hN.bn.1;have HNP := zd hN;have HMP := zd hM;have HQ := zd ((za HQ12).below (za HR));have HZ := zd ((za HZ12).below (za HR))
          have hbb : ∀ t ∈ b.ts, t.back.length <= 1048576 := fun t ht => by
           obtain ⟨j, hj, rfl⟩ := List.getElem_of_mem ht;have := (za HF).back j hj;omega
          have HBB := zd hbb;have HS := zd hs;clear hN hM hbb hs;go_upto_region 38 with fail;refine zt (by kernel_rfl) (by kernel_rfl) (fun hgn hgc => ?_)
          repeat (go_big_quiet_step (first
           | (go_at_call 11; rename_i g; exact g.call ((implShown_any _ n ax b.ts p1 _ ((za HNP).net.below g.below) ((za HQ).t.below g.below) (by omega) (za HBB) (by have := (za HSM).pcs; omega) (by have := (za HSM).jts; omega) (fun i h => ((za HSM).hle i h).2) (za HSM).hnm ((za HMP).tab.below g.below)).mono fun e w' ⟨⟨s', he, hs'⟩, hb⟩ => ⟨he.trans (by rw [hs'.unique (za HS)]), hb⟩))
           | (go_at_call 12; rename_i g; exact g.call ((specShown_any _ n ay b.ts q1 _ ((za HNP).net.below g.below) ((za HZ).t.below g.below) (by omega) (za HBB) (by have := (za HSM).pcs; omega) (by have := (za HSM).jts; omega) (za HSM).hle (za HSM).hnm).mono fun e w' ⟨⟨s', he, hs'⟩, hb⟩ => ⟨he.trans (by rw [hs'.unique (za HS)]), hb⟩))))
          refine wpQuiet_nil ?_;intro w18 hwq
          have hb18 : Below wq.heap.size wq w18 := by obtain ⟨g, rfl⟩ := hwq; exact g.below
          have hbe := below_then (za HR) hb18;clear hwq hgn hgc;go_wp2_with fail;go_ret;exact ⟨by simp, (za HB12).trans (hbe.mono (za HB12).size)⟩

theorem own : ownKnob Tryz.prog.godebug = none := by kernel_rfl
theorem laidOut : laidOutB Tryz.prog = true := by kernel_rfl
theorem gLaid : (Rows.fnTickRow.laid.filter fun x => x.2.handleName?.isSome) = [("errors.errorType", Rows.laid_errors_errorType)] := by kernel_rfl
theorem gTab : Tryz.prog.globalNamed tabNm = some 1 := by kernel_rfl
theorem gTyp : (Tryz.prog.globals[1]?).map (·.type) = some 272 := by kernel_rfl
theorem gPlain : (Rows.fnTickRow.laid.filter fun x => x.2.handleName?.isNone).filter (fun x => x.1 == tabNm) = [(tabNm, Lib.tabData .u64 Lib.pow10Tab)] := by kernel_rfl
theorem tab_of_laid (h : laidMetH Tryz.prog Rows.fnTickRow.laid W) : TabK W := by
 have h1 := laidMet.filter (fun x => x.1 == tabNm) (laidMetH_iff.1 h).1;rw [gPlain] at h1;have h2 := Lib.tabIs_of_head gTab gTyp (show Tryz.prog.underlying 272 = some (.array 20 52) by kernel_rfl) (show Tryz.prog.underlying 52 = some (.int .u64) by kernel_rfl) (by kernel_rfl) (by kernel_rfl) h1
 have h3 : 1 < W.heap.size := by
  rcases Nat.lt_or_ge 1 W.heap.size with h | h
  ·exact h
  ·have h4 : W.var? Tryz.prog tabNm = _ := h2
   simp [World.var?, gTab, Array.getElem?_eq_none h] at h4
 intro W' hb;exact var?_below hb gTab h3 h2
theorem et0 : Tryz.prog.globalNamed "errors.errorType" = some 0 := by kernel_rfl

theorem glob_of_laid (h : laidMetH Tryz.prog Rows.fnTickRow.laid W) : 0 < W.heap.size /\ W.cell? ⟨0, 0, none⟩ = some (.iface 245 (.agg #[.pointer (some ⟨4, 82, none⟩)])) := by
 have h' := (laidMetH_iff.1 h).2;rw [gLaid] at h';obtain ⟨name, u, ty, e1, e2, e3, e4, e5⟩ := h' _ (List.mem_singleton.2 rfl);have en : name = [101, 114, 114, 111, 114] := (Option.some.inj e1).symm;subst en;obtain rfl : u = 245 := Option.some.inj (e2.symm.trans (by kernel_rfl))
 have hs : Tryz.prog.types.size = 406 - 100 := by kernel_rfl
 have ho : ((List.range (406 - 100)).filter fun t => Tryz.prog.rowNamed t [101, 114, 114, 111, 114]) = [ 82 ] := by kernel_rfl
 have hm : ty ∈ (List.range (406 - 100)).filter fun t => Tryz.prog.rowNamed t [101, 114, 114, 111, 114] := List.mem_filter.2 ⟨List.mem_range.2 (by rw [← hs]; exact e3), e4⟩
 rw [ho] at hm;obtain rfl := List.mem_singleton.1 hm
 have hh : typeHandle Tryz.prog 82 = .pointer (some ⟨4, 82, none⟩) := by kernel_rfl
 rw [hh] at e5
 have hc : W.cell? ⟨0, 0, none⟩ = some (.iface 245 (.agg #[.pointer (some ⟨4, 82, none⟩)])) := by simpa using World.var?_cell et0 e5 0
 refine ⟨?_, hc⟩
 rcases Nat.eq_zero_or_pos W.heap.size with h0 | h0
 ·simp [World.cell?, h0] at hc
 ·exact h0

theorem door_met (os : Os) (args : Array Value) : laidMetH Tryz.prog Rows.fnTickRow.laid ((World.doorLaid Tryz.prog 400 os).forCall (fun _ _ => 0) ⟨#[], args, []⟩).memory :=
 laidMetH_of_parts3 (fuel := 8) (laidMet_of_run' 8 (by kernel_rfl) (by kernel_rfl)) (by kernel_rfl) (by kernel_rfl)

theorem fntick_lifted (os : Os) (started : os.Started) (H : Type) (enc : TypeId × Value -> H) :
  ReturnsInHanded {} Tryz.checked os 3 .any (fun w args => (Rows.fnTickSpec.pre enc Tryz.prog Tryz.f3 [] false w args /\ laidMetH Tryz.prog Rows.fnTickRow.laid w) /\ sizedMet enc Tryz.prog Tryz.f3 (OpenSpec.ofChange Rows.fnTickSpec) false w args)
   (Rows.fnTickSpec.post enc Tryz.prog Tryz.f3 false true false false) := by
 refine returnsInHanded_of_change_and (C := Tryz.checked) (X := fun w _ => laidMetH Tryz.prog Rows.fnTickRow.laid w) (fun _ _ _ hh h => h.of_heap hh) own started (by kernel_rfl) Tryz.func3
  (ChangeSpec.witness_shaped (enc := enc) (C := Tryz.checked) (os := os) (X := fun w _ => laidMetH Tryz.prog Rows.fnTickRow.laid w) false (World.doorLaid Tryz.prog 400 os) #[.slice none 0 0, .slice none 0 0] 8 rfl (World.shaped_of_RefB (by kernel_rfl) (by kernel_rfl)) (by kernel_rfl) (by kernel_rfl) (by kernel_rfl) (door_met os _)) ?_
 intro W base args ds gs before hval0 hW _ _ hL _;have hval : ∀ (j : Nat) t v, Tryz.f3.params[j]? = some t -> args[j]? = some v -> Value.okWide Tryz.prog W .any base t v := hval0;have hgl := glob_of_laid hL;have htab := tab_of_laid hL;have hW' := hW;obtain ⟨p, q, hA0, hV, rfl, hfz, hnd⟩ := hW;have hA : DataW.TrodAll enc Tryz.prog W 0 (fun _ => true) true Tryz.f3.params.toList args.toList ds p := hA0;rw [Tryz.params3] at hA hval;obtain ⟨v0, vs0, d0, ds0, p0, q0, hargs, rfl, rfl, h0, r0⟩ := trodAll_cons hA;obtain ⟨v1, vs1, d1, ds1, p1, q1, rfl, rfl, rfl, h1, r1⟩ := trodAll_cons r0;obtain ⟨rfl, rfl, rfl⟩ := trodAll_nil r1
 obtain rfl : args = #[v0, v1] := by cases args; simp_all
 obtain ⟨rfl, rfl⟩ := trodVars_none hV;have k0 := h0
 have lt0 : ∀ x ∈ p0, x.block < W.heap.size := by obtain ⟨m, hm⟩ := k0; exact DataW.trod_lt m _ _ _ hm
 have k1 := h1
 have lt1 : ∀ x ∈ p1, x.block < W.heap.size := by obtain ⟨m, hm⟩ := k1; exact DataW.trod_lt m _ _ _ hm
 obtain ⟨a0, cap0, bs0, rfl, hb0, hi0⟩ := UO (hval 0 22 v0 rfl rfl) h0;obtain ⟨a1, cap1, bs1, rfl, hb1, hi1⟩ := UO (hval 1 22 v1 rfl rfl) h1;clear hA0 hval0
 refine (fnTick_any bs0 bs1 a0 a1 cap0 cap1 W hb0 hi0 ⟨hb1, hgl, htab⟩ hi1).mono fun e W' ⟨he, bel⟩ => ?_
 subst he;exact ⟨_, rfl, _, _, _, [], _, [], hW', trodAll_mk1 (shut_bool Tryz.underlying4 _), (trodAll_cons_mk (Below.trod laidOut (by kernel_rfl) (of_decide_eq_true (by kernel_rfl)) k0 bel lt0) (trodAll_cons_mk (Below.trod laidOut (by kernel_rfl) (of_decide_eq_true (by kernel_rfl)) k1 bel lt1) trodAll_mk0)), rfl, bel.frame _, fun h => by cases h⟩

theorem fntick_over : Rows.fnTickRow.holds Tryz.pinned (OpenSpec.ofChange Rows.fnTickSpec) :=
 OpenClaim.holds_of_wide 3 Tryz.f3 rfl rfl rfl rfl rfl rfl rfl ⟨rfl, rfl, rfl, rfl, rfl⟩ rfl rfl rfl rfl rfl (by kernel_rfl) Tryz.func3 (by kernel_rfl)
  (of_decide_eq_true (by kernel_rfl)) (by unfold Func.isWrapper; first | (rw [if_pos (by decide +kernel)]; kernel_rfl) | (rw [if_neg (by decide +kernel)]; exact ⟨rfl, rfl⟩))
  (fun os started H enc _ => fntick_lifted os started H enc)

theorem fntick_holds : Rows.FnTickCardSaid :=
 Claim7.holds_tied_plain_at .later [] [.data, .data, .data, .handle] true _ true
  fntick_over (fun _ h => by cases h) (by kernel_rfl) (fun _ h => by cases h) fnTick_row_tie rfl ⟨rfl, rfl⟩ (by kernel_rfl) rfl
  (fun f fn hf hfn => by
   obtain rfl : f = 3 := Option.some.inj ((show Tryz.prog.funcNamed Rows.fnTickRow.func = some 3 by kernel_rfl).symm.trans hf) |>.symm
   obtain rfl : fn = Tryz.f3 := (Option.some.inj (Tryz.func3.symm.trans hfn)).symm
   exact ⟨by kernel_rfl, fun j t ht => by
    rw [Tryz.params3] at ht
    have h4 : t = 22 := by
     rcases j with _ | _ | j
     ·simp at ht; exact ht.symm
     ·simp at ht; exact ht.symm
     ·simp at ht
    rcases h4 with rfl
    exact (show Tryz.prog.wantsStandIn 22 = false by kernel_rfl)⟩)
  (by kernel_rfl)
#print axioms fntick_holds
end Go.Proofs.YthdioeofdofleaaGreatDoor
