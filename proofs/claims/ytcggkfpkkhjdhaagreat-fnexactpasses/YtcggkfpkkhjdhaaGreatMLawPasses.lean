import Derived.Test.YtcggkfpkkhjdhaaGreatMRead
import Derived.Test.YtcggkfpkkhjdhaaGreatMEq
import Derived.Test.YtcggkfpkkhjdhaaGreatMToInts
import Derived.Test.YtcggkfpkkhjdhaaGreatMPl1
import Derived.Test.YtcggkfpkkhjdhaaGreatPm4
import Derived.Test.YtcggkfpkkhjdhaaGreatMPq3
import Derived.Test.YtcggkfpkkhjdhaaGreatMPlain2
import Derived.Test.YtcggkfpkkhjdhaaGreatMPs2
import Derived.ProofKit
import Derived.OpenShut
import Derived.ChangeOld
set_option linter.unusedSimpArgs false
namespace Go.Proofs.YtcggkfpkkhjdhaaGreat
open Go.RowKit

theorem netAt0 {L : Nat} {w : World} {n : Nt} {a c : Option Addr} {la lc ca cc : Nat} (h : NetAt L w (.agg #[.slice a la ca, .slice c lc cc]) n) : PcsAt 0 w a n.pieces ∧ JtsAt 0 w c n.joints := by
  obtain ⟨a', c', ca', cc', e, hp, hj⟩ := h
  simp only [Value.agg.injEq, Array.mk.injEq, List.cons.injEq, Value.slice.injEq, and_true] at e
  obtain ⟨⟨rfl, _, _⟩, rfl, _, _⟩ := e
  exact ⟨hp.mono (Nat.zero_le _), hj.mono (Nat.zero_le _)⟩
set_option maxRecDepth 100000 in
set_option maxHeartbeats 16000000 in
theorem lawPasses_any (v : Value) (n : Nt) (q : Option Addr) (zs : List Int) (cq : Nat) (tv : Value) (t : Tr) (xq : Option Addr) (ax : List Int) (xk : Nat) (pq : Option Addr) (po : List (Int × Int)) (pk : Nat) (F : Int) (w : World) {L L1 L2 L3 L4 : Nat} (hv : NetAt L w v n) (hl : n.pieces.length ≤ maxLen) (hl' : n.joints.length ≤ maxLen) (hle : ∀ i (h : i < n.joints.length), n.joints[i].name.size ≤ maxLen ∧ n.joints[i].ends.length ≤ maxLen) (hnm : ∀ i (h : i < n.pieces.length), n.pieces[i].name.size ≤ maxLen)
    (hz : IntsAt L1 w q zs) (htt : TrAt L2 w tv t) (hbt : t.back.length ≤ maxLen) (hx : IntsAt L3 w xq ax) (ho : PoAt L4 w pq po) (hpn : po.length ≤ maxLen) :
    Calls Tryz.prog 3 #[v, .slice q zs.length cq, tv, .slice xq ax.length xk, .slice pq po.length pk, .int .i64 F] w fun e w' => e = .returned (.bool true) ∧ Below w.heap.size w w' := by
  have hvv := hv
  have htt0 := htt
  obtain ⟨a, c, ca, cc, rfl, hp, hj⟩ := hv
  obtain ⟨ta, tc, rfl, hts⟩ := htt
  by_cases hbig : 1048576 < (zs.length : Int)
  · go_enter Tryz.func3, Tryz.ntmps3
    go_wp2
    go_ret
    exact ⟨rfl, bw0⟩
  have hzl : zs.length ≤ 1048576 := by omega
  by_cases hbig2 : 1048576 < (ax.length : Int)
  · go_enter Tryz.func3, Tryz.ntmps3
    go_wp2
    go_ret
    exact ⟨rfl, bw0⟩
  have hxl : ax.length ≤ 1048576 := by omega
  go_enter Tryz.func3, Tryz.ntmps3
  go_wp2_with fail
  refine (szNet_any a c n.pieces n.joints ca cc 1048576 _ (by omega) (by omega) hl (L := L) ?hA hnm hl' ?hB hle).mono ?_
  case hA => exact hp.below bw0
  case hB => exact hj.below bw0
  rintro e w1 ⟨r1, rfl, hr1, hbd1, hb1⟩
  have hbw1 : Below w.heap.size w w1 := below_then bw0 hb1
  have X0_1 : Boxed w1 w.heap.size [.slice a n.pieces.length ca, .slice c n.joints.length cc] := ((boxed_alloc _ _ _).alloc _).below hb1
  have X1_1 : Boxed w1 (w.heap.size + 1) [.int .i64 t.front.piece, .int .i64 t.front.at_, .int .i64 t.front.way, .int .i64 t.long, .slice ta t.back.length tc] := (boxedN _ _ _ (by simp)).below hb1
  by_cases hneg1 : r1 < 0
  · go_wp2
    go_ret
    exact ⟨rfl, hbw1⟩
  obtain ⟨k1, k2, k3⟩ := hbd1 (by omega)
  have k1' : n.pieces.length ≤ 1048576 := by omega
  have k2' : n.joints.length ≤ 1048576 := by omega
  have k3' : ∀ i (h : i < n.joints.length), n.joints[i].ends.length ≤ 1048576 := fun i h => by have := k3 i h; omega
  clear k1 k2 k3 hbd1
  have p0 := X1_1.2.1 0 _ rfl
  have p1 := X1_1.2.1 1 _ rfl
  have p2 := X1_1.2.1 2 _ rfl
  have p3 := X1_1.2.1 3 _ rfl
  have p4 := X1_1.2.1 4 _ rfl
  have pn := X1_1.1
  go_wp2_with fail
  refine (szTrain_any _ t r1 _ (by omega) (by omega) (htt0.below hbw1) hbt).mono ?_
  rintro e w2 ⟨r2, rfl, hr2, hbd2, hb2⟩
  clear p0 p1 p2 p3 p4 pn
  have hbw2 := below_then hbw1 hb2
  have X0_2 := X0_1.below hb2
  have X1_2 := X1_1.below hb2
  by_cases hneg2 : r2 < 0
  · go_wp2
    go_ret
    exact ⟨rfl, hbw2⟩
  have hbl : t.back.length ≤ 1048576 := by have := hbd2 (by omega); omega
  clear hbd2
  go_wp2_with fail
  refine (szPostS_any pq po.length pk r2 _ (by omega) (by omega) hpn).mono ?_
  rintro e w3 ⟨r3, rfl, hr3, hbd3, hb3⟩
  have hbw3 := below_then hbw2 hb3
  have X0_3 := X0_2.below hb3
  have X1_3 := X1_2.below hb3
  by_cases hneg3 : r3 < 0
  · go_wp2
    go_ret
    exact ⟨rfl, hbw3⟩
  have hpl : po.length ≤ 1048576 := by have := hbd3 (by omega); omega
  clear hbd3
  have HK := hide k3'
  have HLE := hide hle
  have HNM := hide hnm
  have HV := hide hvv
  have HTT := hide htt0
  have HZ := hide hz
  have HX := hide hx
  have HO := hide ho
  clear k3' hle hnm hvv htt0 hz hx ho hp hj hts X0_1 X1_1 X0_2 X1_2 hneg1 hneg2 hr1 hr2 hr3 hb1 hb2 hb3 hbw1 hbw2
  have HS3 : Hid (∀ wx, Below w3.heap.size w3 wx → (fun w' => w'.cell? ⟨w.heap.size, 0, none⟩ = some (.slice a n.pieces.length ca) ∧ w'.cell? ⟨w.heap.size, 1, none⟩ = some (.slice c n.joints.length cc) ∧ w'.cell? ⟨w.heap.size + 1, 0, none⟩ = some (.int .i64 t.front.piece) ∧ w'.cell? ⟨w.heap.size + 1, 1, none⟩ = some (.int .i64 t.front.at_) ∧ w'.cell? ⟨w.heap.size + 1, 2, none⟩ = some (.int .i64 t.front.way) ∧ w'.cell? ⟨w.heap.size + 1, 3, none⟩ = some (.int .i64 t.long) ∧ w'.cell? ⟨w.heap.size + 1, 4, none⟩ = some (.slice ta t.back.length tc)) wx) := fun wx hb => ⟨(X0_3.below hb).2.1 0 _ rfl, (X0_3.below hb).2.1 1 _ rfl, (X1_3.below hb).2.1 0 _ rfl, (X1_3.below hb).2.1 1 _ rfl, (X1_3.below hb).2.1 2 _ rfl, (X1_3.below hb).2.1 3 _ rfl, (X1_3.below hb).2.1 4 _ rfl⟩
  go_wp2_with fail
  have hbD : Below w3.heap.size w3 w3.drew := bw0
  refine wp_region_held_drew (S := fun w' => w'.cell? ⟨w.heap.size, 0, none⟩ = some (.slice a n.pieces.length ca) ∧ w'.cell? ⟨w.heap.size, 1, none⟩ = some (.slice c n.joints.length cc) ∧ w'.cell? ⟨w.heap.size + 1, 0, none⟩ = some (.int .i64 t.front.piece) ∧ w'.cell? ⟨w.heap.size + 1, 1, none⟩ = some (.int .i64 t.front.at_) ∧ w'.cell? ⟨w.heap.size + 1, 2, none⟩ = some (.int .i64 t.front.way) ∧ w'.cell? ⟨w.heap.size + 1, 3, none⟩ = some (.int .i64 t.long) ∧ w'.cell? ⟨w.heap.size + 1, 4, none⟩ = some (.slice ta t.back.length tc)) (by kernel_rfl) ?_ (fun hHeld => ?_)
  · exact unhide HS3 _ hbD
  refine tkH 0 ?_
  refine tkH 2 ?_
  refine tkH 4 ?_
  refine tkH 6 ?_
  refine tkH 8 ?_
  refine tkH 10 ?_
  refine wpAnyH_ready (rs := [1]) (by kernel_rfl) (by simp) ?_
  refine (AllReadyH.cons rfl (fun K hK => ?_) AllReadyH.nil)
  go_simp
  refine (toNet_any _ n _ ((unhide HV).below (below_then hbw3 hbD)) k1' k2' (unhide HK)).mono ?_
  rintro e g1 ⟨gv1, rfl, gn1, gb1⟩
  have gc1 := below_then hbD gb1
  refine hK.out _ _ (unhide HS3 _ gc1) (fun hHeld => ?_)
  clear hK K
  (try simp only [Act.put, List.getElem_toArray, List.getElem_cons_zero, List.getElem_cons_succ, List.setIfInBounds_toArray, List.set_cons_zero, List.set_cons_succ])
  refine wpAnyH_ready (rs := [3]) (by kernel_rfl) (by simp) ?_
  refine (AllReadyH.cons rfl (fun K hK => ?_) AllReadyH.nil)
  go_simp
  refine (toIntS_any _ zs _ _ hzl ((unhide HZ).below (below_then hbw3 gc1))).mono ?_
  rintro e g2 ⟨gv2, rfl, gn2, gb2⟩
  have gc2 := below_then gc1 gb2
  refine hK.out _ _ (unhide HS3 _ gc2) (fun hHeld => ?_)
  clear hK K
  (try simp only [Act.put, List.getElem_toArray, List.getElem_cons_zero, List.getElem_cons_succ, List.setIfInBounds_toArray, List.set_cons_zero, List.set_cons_succ])
  refine wpAnyH_ready (rs := [5]) (by kernel_rfl) (by simp) ?_
  refine (AllReadyH.cons rfl (fun K hK => ?_) AllReadyH.nil)
  go_simp
  refine (toTrain_own _ t _ ((unhide HTT).below (below_then hbw3 gc2)) hbl).mono ?_
  rintro e g3 ⟨gv3, rfl, gn3, gb3⟩
  have gc3 := below_then gc2 gb3
  refine hK.out _ _ (unhide HS3 _ gc3) (fun hHeld => ?_)
  clear hK K
  (try simp only [Act.put, List.getElem_toArray, List.getElem_cons_zero, List.getElem_cons_succ, List.setIfInBounds_toArray, List.set_cons_zero, List.set_cons_succ])
  refine wpAnyH_ready (rs := [7]) (by kernel_rfl) (by simp) ?_
  refine (AllReadyH.cons rfl (fun K hK => ?_) AllReadyH.nil)
  go_simp
  refine (toIntS_any _ ax _ _ hxl ((unhide HX).below (below_then hbw3 gc3))).mono ?_
  rintro e g4 ⟨gv4, rfl, gn4, gb4⟩
  have gc4 := below_then gc3 gb4
  refine hK.out _ _ (unhide HS3 _ gc4) (fun hHeld => ?_)
  clear hK K
  (try simp only [Act.put, List.getElem_toArray, List.getElem_cons_zero, List.getElem_cons_succ, List.setIfInBounds_toArray, List.set_cons_zero, List.set_cons_succ])
  refine wpAnyH_ready (rs := [9]) (by kernel_rfl) (by simp) ?_
  refine (AllReadyH.cons rfl (fun K hK => ?_) AllReadyH.nil)
  go_simp
  refine (toPostS_own _ po _ _ hpl ((unhide HO).below (below_then hbw3 gc4))).mono ?_
  rintro e g5 ⟨gv5, rfl, gn5, gb5⟩
  have gc5 := below_then gc4 gb5
  refine hK.out _ _ (unhide HS3 _ gc5) (fun hHeld => ?_)
  clear hK K
  (try simp only [Act.put, List.getElem_toArray, List.getElem_cons_zero, List.getElem_cons_succ, List.setIfInBounds_toArray, List.set_cons_zero, List.set_cons_succ])
  have gN := (((gn1.below gb2).below gb3).below gb4).below gb5
  obtain ⟨gta, rfl, gts⟩ := gn3
  have gT := ((gts.at.mono (Nat.zero_le _)).below gb4).below gb5
  have gZ := ((gn2.below gb3).below gb4).below gb5
  have gX := gn4.below gb5
  have gP := gn5.at
  have gH := hide (And.intro gN (And.intro gT (And.intro gZ (And.intro gX gP))))
  obtain ⟨ga', gc', gca', gcc', rfl, _, _⟩ := gN
  clear gn1 gn2 gts gn4 gn5 gT gZ gX gP
  refine wpAnyH_ready (rs := [11]) (by kernel_rfl) (by simp) ?_
  refine (AllReadyH.cons rfl (fun K hK => ?_) AllReadyH.nil)
  go_simp
  refine (specPasses_any _ _ _ _ n t _ _ _ zs _ _ ax _ _ po _ F _ (unhide gH).1 (unhide gH).2.1 (unhide gH).2.2.1 (unhide gH).2.2.2.1 (unhide gH).2.2.2.2 hbl k1' k2' hxl hpl (fun i h => ⟨unhide HK i h, (unhide HLE i h).1⟩) (unhide HNM)).mono ?_
  rintro e g6 ⟨gu, gout, rfl, grow, gis, gb6⟩
  have gc6 := below_then gc5 gb6
  refine hK.out _ _ (unhide HS3 _ gc6) (fun hHeld => ?_)
  clear hK K
  (try simp only [Act.put, List.getElem_toArray, List.getElem_cons_zero, List.getElem_cons_succ, List.setIfInBounds_toArray, List.set_cons_zero, List.set_cons_succ])
  refine tkH 12 ?_
  refine wpAnyH_done (by kernel_rfl) ?_ _
  clear hHeld
  obtain ⟨pa, pcap, rfl, _, _⟩ := paRow_at grow
  have HIS := hide gis
  have holn := gis.len
  have HRS := hide grow
  have hbwS := below_then hbw3 gc6
  have X0_S := X0_3.below gc6
  have X1_S := X1_3.below gc6
  clear gis grow HS3 hbD gH gb1 gb2 gb3 gb4 gb5 gb6 gc1 gc2 gc3 gc4 gc5 gc6 X0_3 X1_3
  have p0 := X0_S.2.1 0 _ rfl
  have p1 := X0_S.2.1 1 _ rfl
  have pn := X0_S.1
  go_wp2_with fail
  refine (toNet_own _ n _ ((unhide HV).below hbwS) k1' k2' (unhide HK)).mono ?_
  rintro e w_x0 ⟨v_x0, rfl, fO0, hb_x0⟩
  clear p0 p1 pn
  have hbw_x0 := below_then hbwS hb_x0
  have fN0 := fO0.at
  have HO0 := hide fO0
  obtain ⟨xa, xc, rfl, _, _⟩ := fO0
  have hA : Below w_x0.heap.size w_x0 (w_x0.alloc (.cells #[.slice xa n.pieces.length n.pieces.length, .slice xc n.joints.length n.joints.length] 41)) := bw0
  go_wp2_with fail
  refine (toIntS_own q zs cq _ hzl (((unhide HZ).below hbw_x0).below hA)).mono ?_
  rintro e w_x1 ⟨z1, zf1, rfl, fZ1, fOz1, fzl1, hb_x1⟩
  have HOZ1 := hide fOz1
  clear fOz1
  have hb'_x1 := below_then hA hb_x1
  have hbw_x1 := below_then hbw_x0 hb'_x1
  have Y0_x1 : Boxed w_x1 w_x0.heap.size [.slice xa n.pieces.length n.pieces.length, .slice xc n.joints.length n.joints.length] := (boxed_alloc _ _ _).below hb_x1
  have le_1 : w_x0.heap.size < w_x1.heap.size := Y0_x1.1
  have fzl1' : w_x0.heap.size < z1 ∧ z1 < w_x1.heap.size := by have := fzl1; simp at this; omega
  have X1_x1 := (X1_S.below hb_x0).below hb'_x1
  have p0 := X1_x1.2.1 0 _ rfl
  have p1 := X1_x1.2.1 1 _ rfl
  have p2 := X1_x1.2.1 2 _ rfl
  have p3 := X1_x1.2.1 3 _ rfl
  have p4 := X1_x1.2.1 4 _ rfl
  have pn := X1_x1.1
  clear fzl1
  go_wp2_with fail
  refine (toTrain_own _ t _ ((unhide HTT).below hbw_x1) hbl).mono ?_
  rintro e w_x2 ⟨v_x2, rfl, fO2, hb_x2⟩
  clear p0 p1 p2 p3 p4 pn
  have hbw_x2 := below_then hbw_x1 hb_x2
  obtain ⟨ya, rfl, hys⟩ := fO2
  have HYS := hide hys
  have fS2 := hys.at.mono (Nat.zero_le _)
  clear hys
  have hA2 : Below w_x2.heap.size w_x2 (w_x2.alloc (.cells #[.int .i64 t.front.piece, .int .i64 t.front.at_, .int .i64 t.front.way, .int .i64 t.long, .slice ya t.back.length t.back.length] 47)) := bw0
  go_wp2_with fail
  refine (toIntS_own xq ax xk _ hxl (((unhide HX).below hbw_x2).below hA2)).mono ?_
  rintro e w_x3 ⟨z3, zf3, rfl, fZ3, fOz3, fzl3, hb_x3⟩
  have HOZ3 := hide fOz3
  clear fOz3
  have hb'_x3 := below_then hA2 hb_x3
  have hbw_x3 := below_then hbw_x2 hb'_x3
  have Y1_x3 : Boxed w_x3 w_x2.heap.size [.int .i64 t.front.piece, .int .i64 t.front.at_, .int .i64 t.front.way, .int .i64 t.long, .slice ya t.back.length t.back.length] := (boxed_alloc _ _ _).below hb_x3
  have le_2 : w_x1.heap.size ≤ w_x2.heap.size := hb_x2.size
  have le_3 : w_x2.heap.size < w_x3.heap.size := Y1_x3.1
  have fzl3' : w_x2.heap.size < z3 ∧ z3 < w_x3.heap.size := by have := fzl3; simp at this; omega
  clear fzl3
  go_wp2_with fail
  refine (toPostS_own pq po pk _ hpl ((unhide HO).below hbw_x3)).mono ?_
  rintro e w_x4 ⟨ob, rfl, fO4, hb_x4⟩
  have HO4 := hide fO4
  have fP4 := fO4.at
  clear fO4
  have hbw_x4 := below_then hbw_x3 hb_x4
  have le_4 : w_x3.heap.size ≤ w_x4.heap.size := hb_x4.size
  have hb_24 := below_then hb'_x3 hb_x4
  have hb_14 := below_then hb_x2 hb_24
  have Y0_x4 := Y0_x1.below hb_14
  have Y1_x4 := Y1_x3.below hb_x4
  have fN4 := (fN0.below hb'_x1).below hb_14
  have fZ4 := fZ1.below hb_14
  have fS4 := fS2.below hb_24
  have fX4 := fZ3.below hb_x4
  have HF := hide (And.intro fN4 (And.intro fS4 (And.intro fZ4 (And.intro fX4 fP4))))
  have X0_x4 := ((X0_S.below hb_x0).below hb'_x1).below hb_14
  have X1_x4 := X1_x1.below hb_14
  have rU_x4 := (((unhide HRS).below hb_x0).below hb'_x1).below hb_14
  have y0 := Y0_x4.2.1 0 _ rfl
  have y1 := Y0_x4.2.1 1 _ rfl
  have yn := Y0_x4.1
  have t0 := Y1_x4.2.1 0 _ rfl
  have t1 := Y1_x4.2.1 1 _ rfl
  have t2 := Y1_x4.2.1 2 _ rfl
  have t3 := Y1_x4.2.1 3 _ rfl
  have t4 := Y1_x4.2.1 4 _ rfl
  have tn := Y1_x4.1
  clear fN0 fZ1 fS2 fZ3 fN4 fZ4 fS4 fX4 fP4 Y0_x1 Y1_x3 X1_x1
  go_wp2_with fail
  refine (implPasses_any _ _ _ _ n t _ _ _ zs _ _ ax _ _ po _ F _ (L := 0) (netAt0 (unhide HF).1).1 (netAt0 (unhide HF).1).2 (unhide HF).2.1 (unhide HF).2.2.1 (unhide HF).2.2.2.1 (unhide HF).2.2.2.2 (Nat.le_refl _) hbl k1' k2' hxl hpl (fun i h => (unhide HLE i h).1) (unhide HNM)).mono ?_
  rintro e w_i ⟨ui, outi, rfl, rowi, isi, hb_i⟩
  obtain rfl : gout = outi := (unhide HIS).unique isi
  obtain ⟨qa, qcap, rfl, _, _⟩ := paRow_at rowi
  have HRG := hide rowi
  clear isi rowi y0 y1 yn t0 t1 t2 t3 t4 tn
  have hbw_i := below_then hbw_x4 hb_i
  have rU_i := rU_x4.below hb_i
  have hol2 : gout.length ≤ 1000000000 := by omega
  go_wp2_with fail
  refine (eqPassS_any _ _ gout _ _ _ hol2 (paRow_pas (unhide HRG)) (paRow_pas rU_i)).mono ?_
  rintro e w_q ⟨rfl, hb_q⟩
  have hb_4q := below_then hb_i hb_q
  have hbw_q := below_then hbw_i hb_q
  have X0_q := X0_x4.below hb_4q
  have X1_q := X1_x4.below hb_4q
  have Y0_q := Y0_x4.below hb_4q
  have Y1_q := Y1_x4.below hb_4q
  have rU_q := rU_i.below hb_q
  have rG_q := (unhide HRG).below hb_q
  clear rU_i rU_x4 X0_x4 X1_x4 Y0_x4 Y1_x4
  have HSq : Hid (∀ wx, Below w_q.heap.size w_q wx → (fun w' => w'.cell? ⟨w.heap.size, 0, none⟩ = some (.slice a n.pieces.length ca) ∧ w'.cell? ⟨w.heap.size, 1, none⟩ = some (.slice c n.joints.length cc) ∧ w'.cell? ⟨w_x0.heap.size, 0, none⟩ = some (.slice xa n.pieces.length n.pieces.length) ∧ w'.cell? ⟨w_x0.heap.size, 1, none⟩ = some (.slice xc n.joints.length n.joints.length)) wx) := fun wx hb => ⟨(X0_q.below hb).2.1 0 _ rfl, (X0_q.below hb).2.1 1 _ rfl, (Y0_q.below hb).2.1 0 _ rfl, (Y0_q.below hb).2.1 1 _ rfl⟩
  go_wp2_with fail
  have hbD : Below w_q.heap.size w_q w_q.drew := bw0
  refine wp_region_held_drew (S := fun w' => w'.cell? ⟨w.heap.size, 0, none⟩ = some (.slice a n.pieces.length ca) ∧ w'.cell? ⟨w.heap.size, 1, none⟩ = some (.slice c n.joints.length cc) ∧ w'.cell? ⟨w_x0.heap.size, 0, none⟩ = some (.slice xa n.pieces.length n.pieces.length) ∧ w'.cell? ⟨w_x0.heap.size, 1, none⟩ = some (.slice xc n.joints.length n.joints.length)) (by kernel_rfl) ?_ (fun hHeld => ?_)
  · exact unhide HSq _ hbD
  refine tkH 0 ?_
  refine tkH 1 ?_
  refine wpAnyH_ready (rs := [2]) (by kernel_rfl) (by simp) ?_
  refine (AllReadyH.cons rfl (fun K hK => ?_) AllReadyH.nil)
  go_simp
  refine (toNet_any _ n _ ((unhide HV).below (below_then hbw_q hbD)) k1' k2' (unhide HK)).mono ?_
  rintro e w_e1 ⟨v_e1, rfl, hv_e1, hb_e1⟩
  have hb_qe1 := below_then hbD hb_e1
  refine hK.out _ _ (unhide HSq _ hb_qe1) (fun hHeld => ?_)
  clear hK K
  (try simp only [Act.put, List.getElem_toArray, List.getElem_cons_zero, List.getElem_cons_succ, List.setIfInBounds_toArray, List.set_cons_zero, List.set_cons_succ])
  refine wpAnyH_ready (rs := [3]) (by kernel_rfl) (by simp) ?_
  refine (AllReadyH.cons rfl (fun K hK => ?_) AllReadyH.nil)
  go_simp
  refine (eqNet_any _ _ n _ k1' k2' (unhide HK) ((unhide HF).1.below (below_then hb_4q hb_qe1)) hv_e1).mono ?_
  rintro e w_e ⟨rfl, hb_e2⟩
  have hb_qe := below_then hb_qe1 hb_e2
  refine hK.out _ _ (unhide HSq _ hb_qe) (fun hHeld => ?_)
  clear hK K
  (try simp only [Act.put, List.getElem_toArray, List.getElem_cons_zero, List.getElem_cons_succ, List.setIfInBounds_toArray, List.set_cons_zero, List.set_cons_succ])
  refine tkH 4 ?_
  refine wpAnyH_done (by kernel_rfl) ?_ _
  clear hHeld hv_e1 HSq hbD hb_e1 hb_qe1 hb_e2
  have hb_4e := below_then hb_4q hb_qe
  have hbw_e := below_then hbw_q hb_qe
  have X0_e := X0_q.below hb_qe
  have X1_e := X1_q.below hb_qe
  have Y0_e := Y0_q.below hb_qe
  have Y1_e := Y1_q.below hb_qe
  have rU_e := rU_q.below hb_qe
  have rG_e := rG_q.below hb_qe
  clear X0_q X1_q Y0_q Y1_q rU_q rG_q
  go_wp2_with fail
  refine (toIntS_any _ zs _ _ hzl ((unhide HZ).below hbw_e)).mono ?_
  rintro e w_f1 ⟨v_f1, rfl, hv_f1, hb_f1⟩
  go_wp2_with fail
  refine (eqIntS_any _ _ zs _ _ _ hzl ((unhide HF).2.2.1.below (below_then hb_4e hb_f1)) hv_f1).mono ?_
  rintro e w_f ⟨rfl, hb_f2⟩
  have hb_ef := below_then hb_f1 hb_f2
  have hb_4f := below_then hb_4e hb_ef
  have hbw_f := below_then hbw_e hb_ef
  have X0_f := X0_e.below hb_ef
  have X1_f := X1_e.below hb_ef
  have Y0_f := Y0_e.below hb_ef
  have Y1_f := Y1_e.below hb_ef
  have rU_f := rU_e.below hb_ef
  have rG_f := rG_e.below hb_ef
  clear X0_e X1_e Y0_e Y1_e rU_e rG_e hv_f1 hb_f1 hb_f2
  have HSf : Hid (∀ wx, Below w_f.heap.size w_f wx → (fun w' => w'.cell? ⟨w.heap.size + 1, 0, none⟩ = some (.int .i64 t.front.piece) ∧ w'.cell? ⟨w.heap.size + 1, 1, none⟩ = some (.int .i64 t.front.at_) ∧ w'.cell? ⟨w.heap.size + 1, 2, none⟩ = some (.int .i64 t.front.way) ∧ w'.cell? ⟨w.heap.size + 1, 3, none⟩ = some (.int .i64 t.long) ∧ w'.cell? ⟨w.heap.size + 1, 4, none⟩ = some (.slice ta t.back.length tc) ∧ w'.cell? ⟨w_x2.heap.size, 0, none⟩ = some (.int .i64 t.front.piece) ∧ w'.cell? ⟨w_x2.heap.size, 1, none⟩ = some (.int .i64 t.front.at_) ∧ w'.cell? ⟨w_x2.heap.size, 2, none⟩ = some (.int .i64 t.front.way) ∧ w'.cell? ⟨w_x2.heap.size, 3, none⟩ = some (.int .i64 t.long) ∧ w'.cell? ⟨w_x2.heap.size, 4, none⟩ = some (.slice ya t.back.length t.back.length)) wx) := fun wx hb => ⟨(X1_f.below hb).2.1 0 _ rfl, (X1_f.below hb).2.1 1 _ rfl, (X1_f.below hb).2.1 2 _ rfl, (X1_f.below hb).2.1 3 _ rfl, (X1_f.below hb).2.1 4 _ rfl, (Y1_f.below hb).2.1 0 _ rfl, (Y1_f.below hb).2.1 1 _ rfl, (Y1_f.below hb).2.1 2 _ rfl, (Y1_f.below hb).2.1 3 _ rfl, (Y1_f.below hb).2.1 4 _ rfl⟩
  go_wp2_with fail
  have hbD : Below w_f.heap.size w_f w_f.drew := bw0
  refine wp_region_held_drew (S := fun w' => w'.cell? ⟨w.heap.size + 1, 0, none⟩ = some (.int .i64 t.front.piece) ∧ w'.cell? ⟨w.heap.size + 1, 1, none⟩ = some (.int .i64 t.front.at_) ∧ w'.cell? ⟨w.heap.size + 1, 2, none⟩ = some (.int .i64 t.front.way) ∧ w'.cell? ⟨w.heap.size + 1, 3, none⟩ = some (.int .i64 t.long) ∧ w'.cell? ⟨w.heap.size + 1, 4, none⟩ = some (.slice ta t.back.length tc) ∧ w'.cell? ⟨w_x2.heap.size, 0, none⟩ = some (.int .i64 t.front.piece) ∧ w'.cell? ⟨w_x2.heap.size, 1, none⟩ = some (.int .i64 t.front.at_) ∧ w'.cell? ⟨w_x2.heap.size, 2, none⟩ = some (.int .i64 t.front.way) ∧ w'.cell? ⟨w_x2.heap.size, 3, none⟩ = some (.int .i64 t.long) ∧ w'.cell? ⟨w_x2.heap.size, 4, none⟩ = some (.slice ya t.back.length t.back.length)) (by kernel_rfl) ?_ (fun hHeld => ?_)
  · exact unhide HSf _ hbD
  refine tkH 0 ?_
  refine tkH 1 ?_
  refine wpAnyH_ready (rs := [2]) (by kernel_rfl) (by simp) ?_
  refine (AllReadyH.cons rfl (fun K hK => ?_) AllReadyH.nil)
  go_simp
  refine (toTrain_own _ t _ ((unhide HTT).below (below_then hbw_f hbD)) hbl).mono ?_
  rintro e w_h1 ⟨v_h1, rfl, hv_h1, hb_h1⟩
  have hb_fh1 := below_then hbD hb_h1
  refine hK.out _ _ (unhide HSf _ hb_fh1) (fun hHeld => ?_)
  clear hK K
  (try simp only [Act.put, List.getElem_toArray, List.getElem_cons_zero, List.getElem_cons_succ, List.setIfInBounds_toArray, List.set_cons_zero, List.set_cons_succ])
  refine wpAnyH_ready (rs := [3]) (by kernel_rfl) (by simp) ?_
  refine (AllReadyH.cons rfl (fun K hK => ?_) AllReadyH.nil)
  go_simp
  refine (eqTrain_any _ _ t _ hbl (⟨ya, _, rfl, (unhide HF).2.1.below (below_then hb_4f hb_fh1)⟩ : TrAt 0 _ _ t) hv_h1.at).mono ?_
  rintro e w_h ⟨rfl, hb_h2⟩
  have hb_fh := below_then hb_fh1 hb_h2
  refine hK.out _ _ (unhide HSf _ hb_fh) (fun hHeld => ?_)
  clear hK K
  (try simp only [Act.put, List.getElem_toArray, List.getElem_cons_zero, List.getElem_cons_succ, List.setIfInBounds_toArray, List.set_cons_zero, List.set_cons_succ])
  refine tkH 4 ?_
  refine wpAnyH_done (by kernel_rfl) ?_ _
  clear hHeld hv_h1 HSf hbD hb_h1 hb_fh1 hb_h2
  have hb_4h := below_then hb_4f hb_fh
  have hbw_h := below_then hbw_f hb_fh
  go_wp2_with fail
  refine (toIntS_any _ ax _ _ hxl ((unhide HX).below hbw_h)).mono ?_
  rintro e w_j1 ⟨v_j1, rfl, hv_j1, hb_j1⟩
  go_wp2_with fail
  refine (eqIntS_any _ _ ax _ _ _ hxl ((unhide HF).2.2.2.1.below (below_then hb_4h hb_j1)) hv_j1).mono ?_
  rintro e w_j ⟨rfl, hb_j2⟩
  have hb_hj := below_then hb_j1 hb_j2
  have hbw_j := below_then hbw_h hb_hj
  have hb_4j := below_then hb_4h hb_hj
  clear hv_j1 hb_j1 hb_j2
  go_wp2_with fail
  refine (toPostS_own pq po pk _ hpl ((unhide HO).below hbw_j)).mono ?_
  rintro e w_k1 ⟨v_k1, rfl, hv_k1, hb_k1⟩
  go_wp2_with fail
  refine (eqPostS_any _ _ po _ _ _ hpl ((unhide HF).2.2.2.2.below (below_then hb_4j hb_k1)) hv_k1.at).mono ?_
  rintro e w_k ⟨rfl, hb_k2⟩
  have hb_fk := below_then (below_then hb_fh hb_hj) (below_then hb_k1 hb_k2)
  have hbw_k := below_then hbw_f hb_fk
  have hb_4k := below_then hb_4f hb_fk
  have X0_k := X0_f.below hb_fk
  have X1_k := X1_f.below hb_fk
  have Y0_k := Y0_f.below hb_fk
  have Y1_k := Y1_f.below hb_fk
  have rU_k := rU_f.below hb_fk
  have rG_k := rG_f.below hb_fk
  clear X0_f X1_f Y0_f Y1_f rU_f rG_f hv_k1 hb_k1 hb_k2
  have mo0 := ((unhide HO0).below hb'_x1 (Nat.le_refl _)).below (below_then hb_14 hb_4k) (Nat.le_of_lt le_1)
  have mo4 := (unhide HO4).below hb_4k (Nat.le_refl _)
  have mz1 := ((unhide HOZ1).below hb_14).below hb_4k
  have mz3 := ((unhide HOZ3).below hb_x4).below hb_4k
  obtain ⟨mfT, moT, mbT⟩ := (((unhide HYS).below hb_24 (Nat.le_refl _)).below hb_4k (by omega)).own
  obtain ⟨mfO, moO, mbO⟩ := mo4.own
  have gS : Hid (∀ k, (Value.slice pa gout.length pcap).ownBlock = some k → k < g6.heap.size) := hide fun k hk => ((unhide HRS).lt k hk).2
  have gG : Hid (∀ k, (Value.slice qa gout.length qcap).ownBlock = some k → w_x4.heap.size ≤ k) := hide fun k hk => ((unhide HRG).lt k hk).1
  have HB1 : Hid (∀ k, blk (some ⟨z1, 0, none⟩) k → k = z1) := hide fun k hk => by obtain ⟨b, off, hab, rfl⟩ := hk; simp at hab; exact hab.1.symm
  have HB3 : Hid (∀ k, blk (some ⟨z3, 0, none⟩) k → k = z3) := hide fun k hk => by obtain ⟨b, off, hab, rfl⟩ := hk; simp at hab; exact hab.1.symm
  have MBT := hide mbT
  have MBO := hide mbO
  have lw : w.heap.size + 1 < g6.heap.size := X1_S.1
  have lx0 : g6.heap.size ≤ w_x0.heap.size := hb_x0.size
  have lk : w_x4.heap.size ≤ w_k.heap.size := hb_4k.size
  have y0 := Y0_k.2.1 0 _ rfl
  have y1 := Y0_k.2.1 1 _ rfl
  clear mbT mbO mo4
  go_wp2_with fail
  refine (markNet_any _ n _ _ 1 _ mo0 k1' k2' (unhide HK) (by omega) (by omega)).mono ?_
  rintro e w_m0 ⟨rr0, rfl, hra0, hrb0, on0⟩
  clear y0 y1
  have hbw_m0 := hbw_k.trans (on0.below hbw_k.size (fun k hk h => by have := h; (try simp at this); omega))
  have X0_m0 := X0_k.onlyS on0 (fun h => by have := h; (try simp at this); omega)
  have X1_m0 := X1_k.onlyS on0 (fun h => by have := h; (try simp at this); omega)
  have Y1_m0 := Y1_k.onlyS on0 (fun h => by have := h; (try simp at this); omega)
  have rU_m0 := rU_k.only on0 (fun k hk h => by have := unhide gS k hk; have := h; (try simp at this); omega)
  have rG_m0 := rG_k.only on0 (fun k hk h => by have := unhide gG k hk; have := h; (try simp at this); omega)
  have mz1_m0 := mz1.only on0 (fun k hk h => by have := unhide HB1 k hk; have := h; (try simp at this); omega)
  have mz3_m0 := mz3.only on0 (fun k hk h => by have := unhide HB3 k hk; have := h; (try simp at this); omega)
  have moT_m0 := moT.only on0 (fun k hk h => by have := unhide MBT k hk; have := h; (try simp at this); omega)
  have moO_m0 := moO.only on0 (fun k hk h => by have := unhide MBO k hk; have := h; (try simp at this); omega)
  go_wp2_with fail
  refine (markIntS_any _ _ _ rr0 zf1 _ hzl (by omega) (by omega) mz1_m0).mono ?_
  rintro e w_m1 ⟨rfl, _, on1⟩
  have hbw_m1 := hbw_m0.trans (on1.below hbw_m0.size (fun k hk h => by have := unhide HB1 _ h; (try simp at this); omega))
  have X0_m1 := X0_m0.onlyS on1 (fun h => by have := unhide HB1 _ h; (try simp at this); omega)
  have X1_m1 := X1_m0.onlyS on1 (fun h => by have := unhide HB1 _ h; (try simp at this); omega)
  have Y1_m1 := Y1_m0.onlyS on1 (fun h => by have := unhide HB1 _ h; (try simp at this); omega)
  have rU_m1 := rU_m0.only on1 (fun k hk h => by have := unhide gS k hk; have := unhide HB1 _ h; (try simp at this); omega)
  have rG_m1 := rG_m0.only on1 (fun k hk h => by have := unhide gG k hk; have := unhide HB1 _ h; (try simp at this); omega)
  have mz3_m1 := mz3_m0.only on1 (fun k hk h => by have := unhide HB3 k hk; have := unhide HB1 _ h; (try simp at this); omega)
  have moT_m1 := moT_m0.only on1 (fun k hk h => by have := unhide MBT k hk; have := unhide HB1 _ h; (try simp at this); omega)
  have moO_m1 := moO_m0.only on1 (fun k hk h => by have := unhide MBO k hk; have := unhide HB1 _ h; (try simp at this); omega)
  have y0 := Y1_m1.2.1 0 _ rfl
  have y1 := Y1_m1.2.1 1 _ rfl
  have y2 := Y1_m1.2.1 2 _ rfl
  have y3 := Y1_m1.2.1 3 _ rfl
  have y4 := Y1_m1.2.1 4 _ rfl
  go_wp2_with fail
  refine (markTrain_any _ _ _ _ _ _ _ (rr0 + (zs.length : Int)) mfT _ hbl (by omega) (by omega) moT_m1).mono ?_
  rintro e w_m2 ⟨rfl, _, on2⟩
  clear y0 y1 y2 y3 y4
  have hbw_m2 := hbw_m1.trans (on2.below hbw_m1.size (fun k hk h => by have := unhide MBT _ h; (try simp at this); omega))
  have X0_m2 := X0_m1.onlyS on2 (fun h => by have := unhide MBT _ h; (try simp at this); omega)
  have X1_m2 := X1_m1.onlyS on2 (fun h => by have := unhide MBT _ h; (try simp at this); omega)
  have rU_m2 := rU_m1.only on2 (fun k hk h => by have := unhide gS k hk; have := unhide MBT _ h; (try simp at this); omega)
  have rG_m2 := rG_m1.only on2 (fun k hk h => by have := unhide gG k hk; have := unhide MBT _ h; (try simp at this); omega)
  have mz3_m2 := mz3_m1.only on2 (fun k hk h => by have := unhide HB3 k hk; have := unhide MBT _ h; (try simp at this); omega)
  have moO_m2 := moO_m1.only on2 (fun k hk h => by have := unhide MBO k hk; have := unhide MBT _ h; (try simp at this); omega)
  go_wp2_with fail
  refine (markIntS_any _ _ _ (rr0 + (zs.length : Int) + ((t.back.length * 2 : Nat) : Int)) zf3 _ hxl (by omega) (by omega) mz3_m2).mono ?_
  rintro e w_m3 ⟨rfl, _, on3⟩
  have hbw_m3 := hbw_m2.trans (on3.below hbw_m2.size (fun k hk h => by have := unhide HB3 _ h; (try simp at this); omega))
  have X0_m3 := X0_m2.onlyS on3 (fun h => by have := unhide HB3 _ h; (try simp at this); omega)
  have X1_m3 := X1_m2.onlyS on3 (fun h => by have := unhide HB3 _ h; (try simp at this); omega)
  have rU_m3 := rU_m2.only on3 (fun k hk h => by have := unhide gS k hk; have := unhide HB3 _ h; (try simp at this); omega)
  have rG_m3 := rG_m2.only on3 (fun k hk h => by have := unhide gG k hk; have := unhide HB3 _ h; (try simp at this); omega)
  have moO_m3 := moO_m2.only on3 (fun k hk h => by have := unhide MBO k hk; have := unhide HB3 _ h; (try simp at this); omega)
  go_wp2_with fail
  refine (markPostS_any _ _ _ (rr0 + (zs.length : Int) + ((t.back.length * 2 : Nat) : Int) + (ax.length : Int)) mfO _ hpl (by omega) (by omega) moO_m3).mono ?_
  rintro e w_m4 ⟨rfl, _, on4⟩
  have hbw_m4 := hbw_m3.trans (on4.below hbw_m3.size (fun k hk h => by have := unhide MBO _ h; (try simp at this); omega))
  have X0_m4 := X0_m3.onlyS on4 (fun h => by have := unhide MBO _ h; (try simp at this); omega)
  have X1_m4 := X1_m3.onlyS on4 (fun h => by have := unhide MBO _ h; (try simp at this); omega)
  have rU_m4 := rU_m3.only on4 (fun k hk h => by have := unhide gS k hk; have := unhide MBO _ h; (try simp at this); omega)
  have rG_m4 := rG_m3.only on4 (fun k hk h => by have := unhide gG k hk; have := unhide MBO _ h; (try simp at this); omega)
  have hk0 : ¬ (rr0 + (zs.length : Int) + ((t.back.length * 2 : Nat) : Int) + (ax.length : Int) + ((po.length * 2 : Nat) : Int) < 0) := by omega
  go_wp2_with fail
  refine (eqPassS_any _ _ gout _ _ _ hol2 (paRow_pas rG_m4) (paRow_pas rU_m4)).mono ?_
  rintro e w_r ⟨rfl, hb_r⟩
  clear hk0
  have hbw_r := below_then hbw_m4 hb_r
  have X0_r := X0_m4.below hb_r
  have X1_r := X1_m4.below hb_r
  have rU_r := rU_m4.below hb_r
  have rG_r := rG_m4.below hb_r
  obtain ⟨gf, goG⟩ := paRow_own rG_r
  go_wp2_with fail
  refine (markPassS_any _ _ _ 1 gf _ hol2 (by omega) (by omega) goG).mono ?_
  rintro e w_mg ⟨rfl, hoG, onG⟩
  have hbw_mg := hbw_r.trans (onG.below hbw_r.size (fun k hk h => by have := unhide gG _ (ownBlock_slice h); have := hbw_x4.size; omega))
  have X0_mg := X0_r.onlyS onG (fun h => by have := unhide gG _ (ownBlock_slice h); omega)
  have X1_mg := X1_r.onlyS onG (fun h => by have := unhide gG _ (ownBlock_slice h); omega)
  have rU_mg := rU_r.only onG (fun k hk h => by have := unhide gS k hk; have := unhide gG _ (ownBlock_slice h); omega)
  go_wp2_with fail
  refine (heldPassS_any _ _ _ 1 _ hol2 (by omega) (by omega) hoG).mono ?_
  rintro e w_hd ⟨rfl, hw_hd⟩
  have hw_hd2 := hw_hd.symm
  clear hw_hd
  subst hw_hd2
  have hm0 : ¬ ((1 : Int) + ((gout.length * 3 : Nat) : Int) < 0) := by omega
  have HSm : Hid (∀ wx, Below w_mg.heap.size w_mg wx → (fun w' => w'.cell? ⟨w.heap.size, 0, none⟩ = some (.slice a n.pieces.length ca) ∧ w'.cell? ⟨w.heap.size, 1, none⟩ = some (.slice c n.joints.length cc) ∧ w'.cell? ⟨w.heap.size + 1, 0, none⟩ = some (.int .i64 t.front.piece) ∧ w'.cell? ⟨w.heap.size + 1, 1, none⟩ = some (.int .i64 t.front.at_) ∧ w'.cell? ⟨w.heap.size + 1, 2, none⟩ = some (.int .i64 t.front.way) ∧ w'.cell? ⟨w.heap.size + 1, 3, none⟩ = some (.int .i64 t.long) ∧ w'.cell? ⟨w.heap.size + 1, 4, none⟩ = some (.slice ta t.back.length tc)) wx) := fun wx hb => ⟨(X0_mg.below hb).2.1 0 _ rfl, (X0_mg.below hb).2.1 1 _ rfl, (X1_mg.below hb).2.1 0 _ rfl, (X1_mg.below hb).2.1 1 _ rfl, (X1_mg.below hb).2.1 2 _ rfl, (X1_mg.below hb).2.1 3 _ rfl, (X1_mg.below hb).2.1 4 _ rfl⟩
  go_wp2_with fail
  have hbD : Below w_mg.heap.size w_mg w_mg.drew := bw0
  refine wp_region_held_drew (S := fun w' => w'.cell? ⟨w.heap.size, 0, none⟩ = some (.slice a n.pieces.length ca) ∧ w'.cell? ⟨w.heap.size, 1, none⟩ = some (.slice c n.joints.length cc) ∧ w'.cell? ⟨w.heap.size + 1, 0, none⟩ = some (.int .i64 t.front.piece) ∧ w'.cell? ⟨w.heap.size + 1, 1, none⟩ = some (.int .i64 t.front.at_) ∧ w'.cell? ⟨w.heap.size + 1, 2, none⟩ = some (.int .i64 t.front.way) ∧ w'.cell? ⟨w.heap.size + 1, 3, none⟩ = some (.int .i64 t.long) ∧ w'.cell? ⟨w.heap.size + 1, 4, none⟩ = some (.slice ta t.back.length tc)) (by kernel_rfl) ?_ (fun hHeld => ?_)
  · exact unhide HSm _ hbD
  refine tkH 0 ?_
  refine tkH 2 ?_
  refine tkH 4 ?_
  refine tkH 6 ?_
  refine tkH 8 ?_
  refine tkH 10 ?_
  refine wpAnyH_ready (rs := [1]) (by kernel_rfl) (by simp) ?_
  refine (AllReadyH.cons rfl (fun K hK => ?_) AllReadyH.nil)
  go_simp
  refine (toNet_any _ n _ ((unhide HV).below (below_then hbw_mg hbD)) k1' k2' (unhide HK)).mono ?_
  rintro e d1 ⟨dv1, rfl, dn1, db1⟩
  have dc1 := below_then hbD db1
  refine hK.out _ _ (unhide HSm _ dc1) (fun hHeld => ?_)
  clear hK K
  (try simp only [Act.put, List.getElem_toArray, List.getElem_cons_zero, List.getElem_cons_succ, List.setIfInBounds_toArray, List.set_cons_zero, List.set_cons_succ])
  refine wpAnyH_ready (rs := [3]) (by kernel_rfl) (by simp) ?_
  refine (AllReadyH.cons rfl (fun K hK => ?_) AllReadyH.nil)
  go_simp
  refine (toIntS_any _ zs _ _ hzl ((unhide HZ).below (below_then hbw_mg dc1))).mono ?_
  rintro e d2 ⟨dv2, rfl, dn2, db2⟩
  have dc2 := below_then dc1 db2
  refine hK.out _ _ (unhide HSm _ dc2) (fun hHeld => ?_)
  clear hK K
  (try simp only [Act.put, List.getElem_toArray, List.getElem_cons_zero, List.getElem_cons_succ, List.setIfInBounds_toArray, List.set_cons_zero, List.set_cons_succ])
  refine wpAnyH_ready (rs := [5]) (by kernel_rfl) (by simp) ?_
  refine (AllReadyH.cons rfl (fun K hK => ?_) AllReadyH.nil)
  go_simp
  refine (toTrain_own _ t _ ((unhide HTT).below (below_then hbw_mg dc2)) hbl).mono ?_
  rintro e d3 ⟨dv3, rfl, dn3, db3⟩
  have dc3 := below_then dc2 db3
  refine hK.out _ _ (unhide HSm _ dc3) (fun hHeld => ?_)
  clear hK K
  (try simp only [Act.put, List.getElem_toArray, List.getElem_cons_zero, List.getElem_cons_succ, List.setIfInBounds_toArray, List.set_cons_zero, List.set_cons_succ])
  refine wpAnyH_ready (rs := [7]) (by kernel_rfl) (by simp) ?_
  refine (AllReadyH.cons rfl (fun K hK => ?_) AllReadyH.nil)
  go_simp
  refine (toIntS_any _ ax _ _ hxl ((unhide HX).below (below_then hbw_mg dc3))).mono ?_
  rintro e d4 ⟨dv4, rfl, dn4, db4⟩
  have dc4 := below_then dc3 db4
  refine hK.out _ _ (unhide HSm _ dc4) (fun hHeld => ?_)
  clear hK K
  (try simp only [Act.put, List.getElem_toArray, List.getElem_cons_zero, List.getElem_cons_succ, List.setIfInBounds_toArray, List.set_cons_zero, List.set_cons_succ])
  refine wpAnyH_ready (rs := [9]) (by kernel_rfl) (by simp) ?_
  refine (AllReadyH.cons rfl (fun K hK => ?_) AllReadyH.nil)
  go_simp
  refine (toPostS_own _ po _ _ hpl ((unhide HO).below (below_then hbw_mg dc4))).mono ?_
  rintro e d5 ⟨dv5, rfl, dn5, db5⟩
  have dc5 := below_then dc4 db5
  refine hK.out _ _ (unhide HSm _ dc5) (fun hHeld => ?_)
  clear hK K
  (try simp only [Act.put, List.getElem_toArray, List.getElem_cons_zero, List.getElem_cons_succ, List.setIfInBounds_toArray, List.set_cons_zero, List.set_cons_succ])
  have dN := (((dn1.below db2).below db3).below db4).below db5
  obtain ⟨dta, rfl, dts⟩ := dn3
  have dT := ((dts.at.mono (Nat.zero_le _)).below db4).below db5
  have dZ := ((dn2.below db3).below db4).below db5
  have dX := dn4.below db5
  have dP := dn5.at
  have dH := hide (And.intro dN (And.intro dT (And.intro dZ (And.intro dX dP))))
  obtain ⟨da', dc', dca', dcc', rfl, _, _⟩ := dN
  clear dn1 dn2 dts dn4 dn5 dT dZ dX dP
  refine wpAnyH_ready (rs := [11]) (by kernel_rfl) (by simp) ?_
  refine (AllReadyH.cons rfl (fun K hK => ?_) AllReadyH.nil)
  go_simp
  refine (implPasses_any _ _ _ _ n t _ _ _ zs _ _ ax _ _ po _ F _ (L := 0) (netAt0 (unhide dH).1).1 (netAt0 (unhide dH).1).2 (unhide dH).2.1 (unhide dH).2.2.1 (unhide dH).2.2.2.1 (unhide dH).2.2.2.2 (Nat.le_refl _) hbl k1' k2' hxl hpl (fun i h => (unhide HLE i h).1) (unhide HNM)).mono ?_
  rintro e d6 ⟨du, dout, rfl, drow, dis, db6⟩
  have dc6 := below_then dc5 db6
  refine hK.out _ _ (unhide HSm _ dc6) (fun hHeld => ?_)
  clear hK K
  (try simp only [Act.put, List.getElem_toArray, List.getElem_cons_zero, List.getElem_cons_succ, List.setIfInBounds_toArray, List.set_cons_zero, List.set_cons_succ])
  refine tkH 12 ?_
  refine wpAnyH_done (by kernel_rfl) ?_ _
  clear hHeld
  obtain rfl : gout = dout := (unhide HIS).unique dis
  obtain ⟨ra, rcap, rfl, _, _⟩ := paRow_at drow
  have hbw_h2 := below_then hbw_mg dc6
  have HRH := hide drow
  have hoG2 := hoG.below dc6
  have rU_h := rU_mg.below dc6
  clear dis drow HSm hbD dH db1 db2 db3 db4 db5 db6 dc1 dc2 dc3 dc4 dc5 dc6
  go_wp2_with fail
  refine (eqPassS_any _ _ gout _ _ _ hol2 (paRow_pas (unhide HRH)) (paRow_pas rU_h)).mono ?_
  rintro e w_s ⟨rfl, hb_s⟩
  have hbw_s := below_then hbw_h2 hb_s
  go_wp2_with fail
  refine (heldPassS_any _ _ _ 1 _ hol2 (by omega) (by omega) (hoG2.below hb_s)).mono ?_
  rintro e w_z ⟨rfl, hw_z⟩
  have hw_z2 := hw_z.symm
  clear hw_z
  subst hw_z2
  go_wp2
  go_ret
  exact ⟨rfl, hbw_s⟩

end Go.Proofs.YtcggkfpkkhjdhaaGreat

namespace Go.Proofs.YtcggkfpkkhjdhaaGreat
open Go.ChangeShapes Go.WideShapes Go.ChangeAt Go.RowKit

theorem own : ownKnob Tryz.prog.godebug = none := by kernel_rfl
theorem laidOut : laidOutB Tryz.prog = true := by kernel_rfl

set_option maxRecDepth 100000 in
theorem passes_lifted (os : Os) (started : os.Started) (H : Type) (enc : TypeId × Value → H) :
    ReturnsInHanded {} Tryz.checked os 3 .any (Rows.fnExactPassesSpec.pre6 enc Tryz.prog Tryz.f3 Rows.fnExactPassesRow.domain false) (Rows.fnExactPassesSpec.post enc Tryz.prog Tryz.f3 false true false false) := by
  refine returnsInHanded_of_change (C := Tryz.checked) own started (by kernel_rfl) Tryz.func3
    (ChangeSpec.witness6 (enc := enc) (C := Tryz.checked) false ⟨#[], #[.agg #[.slice none 0 0, .slice none 0 0], .slice none 0 0, .agg #[.int .i64 0, .int .i64 0, .int .i64 0, .int .i64 0, .slice none 0 0], .slice none 0 0, .slice none 0 0, .int .i64 0], []⟩ 8 (by kernel_rfl) (by kernel_rfl) (by kernel_rfl) (by kernel_rfl)) ?_
  intro W base args ds gs before hval0 hW _ _
  have hval : ∀ (j : Nat) t v, Tryz.f3.params[j]? = some t → args[j]? = some v → Value.okWide Tryz.prog W .any base t v := hval0
  have hW' := hW
  obtain ⟨p, q, hA0, hV, rfl, hfz, hnd⟩ := hW
  have hA : DataW.TrodAll enc Tryz.prog W 0 (fun _ => true) true Tryz.f3.params.toList args.toList ds p := hA0
  rw [Tryz.params3] at hA hval
  obtain ⟨v0, vs0, d0, ds0, p0, q0, hargs, rfl, rfl, h0, r0⟩ := trodAll_cons hA
  obtain ⟨v1, vs1, d1, ds1, p1, q1, rfl, rfl, rfl, h1, r1⟩ := trodAll_cons r0
  obtain ⟨v2, vs2, d2, ds2, p2, q2, rfl, rfl, rfl, h2, r2⟩ := trodAll_cons r1
  obtain ⟨v3, vs3, d3, ds3, p3, q3, rfl, rfl, rfl, h3, r3⟩ := trodAll_cons r2
  obtain ⟨v4, vs4, d4, ds4, p4, q4, rfl, rfl, rfl, h4, r4⟩ := trodAll_cons r3
  obtain ⟨v5, vs5, d5, ds5, p5, q5, rfl, rfl, rfl, h5, r5⟩ := trodAll_cons r4
  obtain ⟨rfl, rfl, rfl⟩ := trodAll_nil r5
  obtain rfl : args = #[v0, v1, v2, v3, v4, v5] := by cases args; simp_all
  obtain ⟨rfl, rfl⟩ := trodVars_none hV
  have k0 := h0
  have lt0 : ∀ x ∈ p0, x.block < W.heap.size := by obtain ⟨m, hm⟩ := k0; exact DataW.trod_lt m _ _ _ hm
  have k1 := h1
  have lt1 : ∀ x ∈ p1, x.block < W.heap.size := by obtain ⟨m, hm⟩ := k1; exact DataW.trod_lt m _ _ _ hm
  have k2 := h2
  have lt2 : ∀ x ∈ p2, x.block < W.heap.size := by obtain ⟨m, hm⟩ := k2; exact DataW.trod_lt m _ _ _ hm
  have k3 := h3
  have lt3 : ∀ x ∈ p3, x.block < W.heap.size := by obtain ⟨m, hm⟩ := k3; exact DataW.trod_lt m _ _ _ hm
  have k4 := h4
  have lt4 : ∀ x ∈ p4, x.block < W.heap.size := by obtain ⟨m, hm⟩ := k4; exact DataW.trod_lt m _ _ _ hm
  have k5 := h5
  have lt5 : ∀ x ∈ p5, x.block < W.heap.size := by obtain ⟨m, hm⟩ := k5; exact DataW.trod_lt m _ _ _ hm
  obtain ⟨zq, zc, zs, rfl, hz, _⟩ := readIntsV (hval 1 26 v1 rfl rfl) h1
  obtain ⟨t, ht, htl⟩ := readTrain (hval 2 31 v2 rfl rfl) h2
  obtain ⟨zq2, zc2, zs2, rfl, hz2, _⟩ := readIntsV (hval 3 26 v3 rfl rfl) h3
  obtain ⟨oq, oc, po, rfl, ho, hol⟩ := readPosV (hval 4 32 v4 rfl rfl) h4
  obtain ⟨z, rfl⟩ := readInt (hval 5 3 v5 rfl rfl)
  obtain ⟨n, hn, hl, hl', hle, hnm⟩ := readNet (hval 0 25 v0 rfl rfl) h0
  clear hA0 hval0
  refine (lawPasses_any v0 n zq zs zc v2 t zq2 zs2 zc2 oq po oc z W hn hl hl' hle hnm hz ht htl hz2 ho hol).mono fun e W' ⟨he, bel⟩ => ?_
  subst he
  exact ⟨_, rfl, _, _, _, [], _, [], hW', trodAll_mk1 (shut_bool Tryz.underlying4 _), (trodAll_cons_mk (Below.trod laidOut (by kernel_rfl) (of_decide_eq_true (by kernel_rfl)) k0 bel lt0) (trodAll_cons_mk (Below.trod laidOut (by kernel_rfl) (of_decide_eq_true (by kernel_rfl)) k1 bel lt1) (trodAll_cons_mk (Below.trod laidOut (by kernel_rfl) (of_decide_eq_true (by kernel_rfl)) k2 bel lt2) (trodAll_cons_mk (Below.trod laidOut (by kernel_rfl) (of_decide_eq_true (by kernel_rfl)) k3 bel lt3) (trodAll_cons_mk (Below.trod laidOut (by kernel_rfl) (of_decide_eq_true (by kernel_rfl)) k4 bel lt4) (trodAll_cons_mk (Below.trod laidOut (by kernel_rfl) (of_decide_eq_true (by kernel_rfl)) k5 bel lt5) trodAll_mk0)))))), rfl, bel.frame _, fun h => by cases h⟩

theorem passes_over : Rows.fnExactPassesRow.holds Tryz.pinned (OpenSpec.ofChange Rows.fnExactPassesSpec) :=
  OpenClaim.holds_of_wide 3 Tryz.f3 rfl rfl rfl rfl rfl rfl rfl ⟨rfl, rfl, rfl, rfl, rfl⟩ rfl rfl rfl rfl rfl (by kernel_rfl) Tryz.func3 (by kernel_rfl)
    (of_decide_eq_true (by kernel_rfl)) (by unfold Func.isWrapper; first | (rw [if_pos (by decide +kernel)]; kernel_rfl) | (rw [if_neg (by decide +kernel)]; exact ⟨rfl, rfl⟩))
    (fun os started H enc _ => passes_lifted os started H enc)

theorem passes_holds : Rows.FnExactPassesSaid := passes_over
#print axioms passes_holds
end Go.Proofs.YtcggkfpkkhjdhaaGreat

