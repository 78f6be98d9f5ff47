import Derived.Test.YtjacbppeebnjfaaGreatMPs4
import Derived.Test.YtjacbppeebnjfaaGreatMPm1
import Derived.Test.YtjacbppeebnjfaaGreatMPw9
import Derived.Test.YtjacbppeebnjfaaGreatMKt35
import Derived.Test.YtjacbppeebnjfaaGreatMKt17
import Derived.Test.YtjacbppeebnjfaaGreatMRo
set_option linter.unusedSimpArgs false
namespace Go.Proofs.YtjacbppeebnjfaaGreat
open Go.RowKit

theorem marks_fit {n : Nt} {qs : List (Int × Int)} {P : List Sx} (hP : ∀ x ∈ P, LowHigh x) {long : Int} (hl : 0 ≤ long ∧ long ≤ 100000) {F : Int} (hF : lenS P = long + F) (hF2 : F ≤ 10000) (hq : qs.length ≤ 60) : ∀ m ∈ marksI n qs (-long) P, MkFit m ∧ 0 ≤ m.post ∧ m.post < 1000 := fun m hm => by
 have hmem := mem_marks (n := n) (qs := qs) _ (-long) [] [] hP (fun m => ⟨fun h => by simp at h, fun ⟨u, p, _, h2, _⟩ => by simp at h2⟩) m
 rw [List.nil_append, List.append_nil] at hmem
 obtain ⟨u, p, h1, h2, h3, h4, _⟩ := hmem.1 hm
 obtain ⟨hlt, _⟩ := List.getElem?_eq_some_iff.1 h2
 obtain ⟨hlt2, _⟩ := List.getElem?_eq_some_iff.1 h4
 have := ur_len hP
 refine ⟨⟨by omega, by omega⟩, h3, by omega⟩
theorem HpTo.kept {g : Nat} {w w' : World} (h : HpTo g w (.slice none 0 0) w' (.slice none 0 0)) {k : Nat} (hk : k < w.heap.size) (hne : k ≠ g) : w'.heap[k]? = w.heap[k]? := h.block k hk hne (by simp [Value.ownBlock])
theorem way_of_run {n : Nt} {zs : List Int} {t : Tr} {F : Int} {m : Mv} {code joint : Int} {sx : List Sx} (hF : 0 ≤ F) (hr : RunIs n zs t.long F ⟨t.front, t.back, 0, []⟩ m code joint) (ho : OvS n zs t.long ⟨t.front, t.back, 0, []⟩ m sx) (hsx : ∀ x ∈ sx, LowHigh x) : WayIs n zs t F (ur sx) ∧ m.far = lenS sx ∧ 0 ≤ m.far ∧ m.far ≤ F := by
 obtain ⟨_, ⟨c, hu⟩, _, hf⟩ := ho
 dsimp only at hf hu
 have hl := ur_len hsx
 have hn := lenS_nn hsx
 rcases hr with ⟨h1, _, h3⟩ | ⟨h1, h2, _⟩
 ·rcases h3 with ⟨e, _⟩ | ⟨e, h4, i, r, h5, h6⟩
  ·exact ⟨Or.inl ⟨h1, c, _, _, hu, by omega, Or.inr (by omega)⟩, by omega, by omega, by omega⟩
  ·refine ⟨Or.inl ⟨h1, c, _, _, hu, by omega, Or.inl ⟨h4, i, r, h5, ?_⟩⟩, by omega, by omega, by omega⟩
   rcases h6 with h6 | h6
   ·exact Or.inl h6.1
   ·exact Or.inr h6.2.1
 ·subst h2
  dsimp only at hf
  refine ⟨Or.inr ⟨h1, List.length_eq_zero_iff.1 (by omega)⟩, by dsimp only; omega, Int.le_refl _, hF⟩
theorem body_low {n : Nt} (hG : NetGood n) {long F : Int} {m : Mv} (hM : MvOk n long F m) (hl : 0 < long) : lenS (stretchL n (spareOf n long m.s m.xs) (behind n m.s) ⟨m.s.piece, m.s.way⟩ m.xs) = long ∧ (∀ x ∈ stretchL n (spareOf n long m.s m.xs) (behind n m.s) ⟨m.s.piece, m.s.way⟩ m.xs, LowHigh x) ∧ ∀ x ∈ stretchL n (spareOf n long m.s m.xs) (behind n m.s) ⟨m.s.piece, m.s.way⟩ m.xs, SxOk n x := by
 obtain ⟨_, b2, b3⟩ := ur_body hG (spareOf n long m.s m.xs) m.xs (behind n m.s) long ⟨m.s.piece, m.s.way⟩ (behind_nonneg hM.spot) hl hM.steps hM.trim hM.enough rfl
 have hbe := behind_nonneg hM.spot
 have hll := hG.len hM.spot.1.1 hM.spot.1.2
 have hble : behind n m.s ≤ lenOf n m.s.piece := by have := hM.spot.2.2; unfold behind room; split <;> omega
 exact ⟨b2, b3, stretchL_ok hG (spare_le hG hl hM) ⟨hbe, by omega⟩ ⟨hM.spot.1, hM.spot.2.1⟩ hM.steps⟩
set_option maxRecDepth 100000 in
set_option maxHeartbeats 8000000 in
theorem implPasses_any (a c : Option Addr) (ca cc : Nat) (n : Nt) (t : Tr) (ba : Option Addr) (bc : Nat) (zq : Option Addr) (zs : List Int) (zc : Nat) (xq : Option Addr) (ax : List Int) (xc : Nat) (qa : Option Addr) (qs : List (Int × Int)) (qc : Nat) (F : Int) (w : World) {L L' L2 L3 : Nat} (hp : PcsAt L w a n.pieces) (hj : JtsAt L w c n.joints) (hst : StsAt 0 w ba t.back) (hz : IntsAt L' w zq zs) (hx : IntsAt L2 w xq ax) (hq : PoAt L3 w qa qs) (hcap : t.back.length ≤ bc) (hbl : t.back.length ≤ 1048576)
  (hl : n.pieces.length ≤ 1048576) (hl' : n.joints.length ≤ 1048576) (hxl : ax.length ≤ 1048576) (hql : qs.length ≤ 1048576) (hle : ∀ i (h : i < n.joints.length), n.joints[i].name.size ≤ maxLen) (hnm : ∀ i (h : i < n.pieces.length), n.pieces[i].name.size ≤ maxLen) :
  Calls Tryz.prog 7 #[.agg #[.slice a n.pieces.length ca, .slice c n.joints.length cc], .slice zq zs.length zc, .agg #[.int .i64 t.front.piece, .int .i64 t.front.at_, .int .i64 t.front.way, .int .i64 t.long, .slice ba t.back.length bc], .slice xq ax.length xc, .slice qa qs.length qc, .int .i64 F] w fun e w' => ∃ u out, e = .returned u ∧ PaRow w' w.heap.size u out ∧ PsIs n zs t ax qs F out ∧ Below w.heap.size w w' := by
 have hzs : Tryz.zeroCells72.size = 412 := by rw [zero_cells, bodyL_size]
 have HZS := hide hzs
 clear hzs
 have HX := hide hx
 have HQ := hide hq
 clear hx hq
 go_enter Tryz.func7, Tryz.ntmps7
 go_wp2_with fail
 refine (setOut_any a c ca cc n t ba bc zq zs zc F _ (L := L) (L' := L') ?hA ?hC ?hB ?hZ hcap hbl hl hl' hle hnm).mono ?_
 case hA => exact hp.below bw0
 case hC => exact hj.below bw0
 case hB => exact hst.below bw0
 case hZ => exact hz.below bw0
 rintro e w1 ⟨hret, hb1⟩
 have hbw1 : Below w.heap.size w w1 := below_then bw0 hb1
 rcases hret with ⟨hOut, ksh, kcsh, kst, kcst, hksh, hkst, rfl⟩ | ⟨hOut, rfl⟩
 ·have hst5 := store_new w1 _ (unhide HZS) _ (bodyL_len (.slice a n.pieces.length ca) (.slice ksh n.joints.length kcsh) (.slice kst n.pieces.length kcst) t.front t.long (spare n t) t.back) (bodyL_one _ _ _ _ rfl rfl rfl)
  have hlB := bodyL_len (.slice a n.pieces.length ca) (.slice ksh n.joints.length kcsh) (.slice kst n.pieces.length kcst) t.front t.long (spare n t) t.back
  have hA : Below w1.heap.size w1 (w1.alloc (.cells (bodyL (.slice a n.pieces.length ca) (.slice ksh n.joints.length kcsh) (.slice kst n.pieces.length kcst) t.front t.long (spare n t) t.back).toArray 72)) := bw0
  have hown := own_new w1 (.slice a n.pieces.length ca) (.slice ksh n.joints.length kcsh) (.slice kst n.pieces.length kcst) t.front t.long (spare n t) t.back 72
  have htk : TrkAt 0 w1 (.agg #[.slice a n.pieces.length ca, .slice ksh n.joints.length kcsh, .slice kst n.pieces.length kcst]) n := ⟨_, _, _, _, _, _, rfl, (hp.below hbw1).mono (Nat.zero_le _), hksh.mono (Nat.zero_le _), hkst.mono (Nat.zero_le _)⟩
  have hG := netGood hOut.1.1
  have hMv := fits_mv hOut.1.2 hOut.2.2.1
  have hspe : spare n t = spareOf n t.long t.front t.back := by unfold spare spareOf; omega
  rw [hspe] at hown hlB hst5 hA
  rw [hspe]
  have hgb := gb_of hown (by have := hMv.len; dsimp only at this; omega)
  obtain ⟨_, _, _, b3, b4, b5, b6, _, _⟩ := hgb.cells
  have hBl := hgb.lt
  obtain ⟨WB, hWB⟩ : ∃ WB, w1.alloc (.cells (bodyL (.slice a n.pieces.length ca) (.slice ksh n.joints.length kcsh) (.slice kst n.pieces.length kcst) t.front t.long (spareOf n t.long t.front t.back) t.back).toArray 72) = WB := ⟨_, rfl⟩
  rw [hWB] at hst5 hA hown hgb b3 b4 b5 b6 hBl
  clear hWB
  have HOUT := hide hOut
  have HTK := hide htk
  have HOWN := hide hown
  have HGB := hide hgb
  have HMV := hide hMv
  have hbwA := below_then hbw1 hA
  clear hOut hksh hkst htk hown hMv hspe hgb
  unfold bodyV
  go_wp2_with fail
  refine (axlesFit_any xq xc ax t.long _ ((unhide HX).below hbwA) hxl).mono ?_
  rintro e w2 ⟨hax, hb2⟩
  have HAX := hide hax
  clear hax
  rcases unhide HAX with ⟨rfl, hA1⟩ | ⟨rfl, hA1⟩
  rotate_left
  ·clear HAX
   go_wp2_with fail
   go_ret
   exact ⟨_, [], rfl, Row.nil _ _ _ _ _, Or.inr ⟨fun h => hA1 h.2.1, rfl⟩, below_then hbwA hb2⟩
  have HA1 := hide hA1
  clear HAX hA1
  have HGB2 := hide ((unhide HGB).below hb2)
  obtain ⟨_, _, _, b3, b4, b5, b6, _, _⟩ := (unhide HGB2).cells
  have hBl := (unhide HGB2).lt
  go_wp2_with fail
  refine (postsFit_any _ n qa qc qs _ (((unhide HTK).below hA).below hb2) hG ((unhide HQ).below (below_then hbwA hb2)) hql).mono ?_
  rintro e w3 ⟨hpf, hb3⟩
  rcases hpf with ⟨rfl, hP1⟩ | ⟨rfl, hP1⟩
  rotate_left
  ·go_wp2_with fail
   go_ret
   exact ⟨_, [], rfl, Row.nil _ _ _ _ _, Or.inr ⟨fun h => hP1 h.2.2, rfl⟩, below_then hbwA (below_then hb2 hb3)⟩
  have HP1 := hide hP1
  clear hP1
  have hb23 := below_then hb2 hb3
  have HGB3 := hide ((unhide HGB).below hb23)
  go_wp2_with fail
  refine (stretches_any w1.heap.size n a ksh kst ca kcsh kcst t.front t.long _ t.back _ (unhide HGB3) (((unhide HTK).below hA).below hb23) hG (unhide HMV).spot (unhide HMV).steps (unhide HMV).len).mono ?_
  rintro e w4 ⟨u4, rfl, hr4, hb4⟩
  obtain ⟨BX, hBX⟩ : ∃ BX, stretchL n (spareOf n t.long t.front t.back) (behind n t.front) ⟨t.front.piece, t.front.way⟩ t.back = BX := ⟨_, rfl⟩
  have hBXl : BX.length = t.back.length + 1 := by rw [← hBX]; exact stretchL_len _ _ _ _ _
  rw [hBX] at hr4
  obtain ⟨g, cp, rfl, hcp⟩ : ∃ g cp, u4 = .slice (some ⟨g, 0, none⟩) BX.length cp ∧ BX.length ≤ cp := by
   obtain ⟨x, cap, rfl, hc, hx⟩ := hr4.shape sxF_len
   obtain ⟨g, rfl, _⟩ := hx 0 (by omega)
   exact ⟨g, cap, rfl, hc⟩
  have hgl := hr4.lt g rfl
  have hML := (unhide HMV).len
  dsimp only at hML
  have HR4 := hide hr4
  have HBX := hide hBX
  have HBL := hide hBXl
  have hBX1 : BX.length ≤ 201 := by omega
  clear hr4 hBX hBXl
  go_wp2_with fail
  refine (revX_any g BX.length cp w3.heap.size BX w4 (unhide HR4) rfl (by omega)).mono ?_
  rintro e w5 ⟨rfl, hr5, hT5⟩
  have hs23 := hb23.size
  have hs4 := hb4.size
  have hown5 : OwnC w5 w1.heap.size 0 412 (bodyF (.slice a n.pieces.length ca) (.slice ksh n.joints.length kcsh) (.slice kst n.pieces.length kcst) t.front t.long (spareOf n t.long t.front t.back) t.back) := (((unhide HOWN).below hb23).below hb4).of_block (hT5.kept (by omega) (by omega)) hT5.size
  have hbA5 : Below WB.heap.size WB w5 := (below_then hb23 hb4).trans ⟨hT5.os, hT5.tape, hT5.output, hT5.size, fun k hk => hT5.kept (by omega) (by omega)⟩
  have hbw5 := below_then hbwA hbA5
  have HR5 := hide hr5
  have HOWN5 := hide hown5
  have hs5 := hT5.size
  have hb15 := below_then hA hbA5
  have hsA := hA.size
  clear hr5 hown5 hT5 HR4
  go_wp2_with fail
  refine (run_any w1.heap.size n a ksh kst ca kcsh kcst t.front t.long F t.back zq zs zc _ (unhide HOWN5) (fun wb ho => (unhide HTK).below (hb15.trans (ho.below (by omega) (fun k hk he => by omega)))) ?hkB hG (fun wb ho => ((hz.below hbw1).zero).below (hb15.trans (ho.below (by omega) (fun k hk he => by omega)))) (unhide HOUT).2.1.1 (unhide HMV) (by have := (unhide HOUT).1.2.2.1.1; omega) (unhide HOUT).2.2.2).mono ?_
  case hkB =>
   intro b off hb
   obtain ⟨b', off', e', h', _⟩ := hp 0 (by have := (unhide HMV).spot.1; dsimp only at this; omega)
   rw [hb] at e'
   simp at e'
   have h2 := hbw1.size
   have h3 := h'.2
   omega
  rintro e w6 ⟨m, ov, sx, code, joint, rfl, hrun, hgb, hrow, hov, hoks, hfew, ho6⟩
  have hs6 := ho6.size
  have hb16 : Below w1.heap.size w1 w6 := hb15.trans (ho6.below (by omega) (fun k hk he => by omega))
  have hbw6 := below_then hbw1 hb16
  have hr6 : SxRow w6 w3.heap.size (.slice (some ⟨g, 0, none⟩) BX.length cp) BX.reverse := (unhide HR5).block fun k hk => by
   have := (unhide HR5).lt k hk
   exact ho6.ob.block k this.2 (show ¬ k = w1.heap.size by omega)
  have htk6 := (unhide HTK).below hb16
  have HRUN := hide hrun
  have HGB6 := hide hgb
  have HROW := hide hrow
  have HOV := hide hov
  have HOKS := hide hoks
  have HR6 := hide hr6
  have HTK6 := hide htk6
  clear hrun hgb hrow hov hoks hr6 htk6 ho6 HR5 HOWN5
  have hBl6 := (unhide HGB6).lt
  obtain ⟨oa, oc, rfl, hocap, _⟩ := sxRow_at (unhide HROW)
  have hlg := (unhide HOUT).1.2.2.1
  have hwn : IntKind.i64.wrap (-t.long) = -t.long := wrap_small (by omega) (by omega)
  obtain ⟨i0, hi0, hz0, hz1, hz2⟩ := info_parts info_stretch
  go_wp2_with fail
  have hbWA : Below w6.heap.size w6 (w6.alloc (.cells #[.slice oa sx.length oc, .int .i64 m.far] 83)) := bw0
  have hxb : Boxed (w6.alloc (.cells #[.slice oa sx.length oc, .int .i64 m.far] 83)) w6.heap.size [.slice oa sx.length oc, .int .i64 m.far] := boxed_alloc _ _ _
  generalize w6.alloc (.cells #[.slice oa sx.length oc, .int .i64 m.far] 83) = WA at *
  have hsW := hxb.1
  have HGW := hide ((unhide HGB6).below hbWA)
  obtain ⟨_, _, _, c3, c4, c5, c6, _, _⟩ := (unhide HGW).cells
  have x0 := hxb.2.1 0 _ rfl
  have x1 := hxb.2.1 1 _ rfl
  have HS : Hid (∀ wx : World, (∀ k, k = w1.heap.size ∨ k = w6.heap.size → wx.heap[k]? = WA.heap[k]?) → (fun w' => w'.cell? ⟨w1.heap.size, 3, none⟩ = some (.slice a n.pieces.length ca) ∧ w'.cell? ⟨w1.heap.size, 4, none⟩ = some (.slice ksh n.joints.length kcsh) ∧ w'.cell? ⟨w1.heap.size, 5, none⟩ = some (.slice kst n.pieces.length kcst) ∧ w'.cell? ⟨w1.heap.size, 6, none⟩ = some (.int .i64 t.long) ∧ w'.cell? ⟨w6.heap.size, 0, none⟩ = some (.slice oa sx.length oc) ∧ w'.cell? ⟨w6.heap.size, 1, none⟩ = some (.int .i64 m.far)) wx) := fun wx h =>
   ⟨(World.cell?_of_block (w := WA) (a := ⟨w1.heap.size, 3, none⟩) (h _ (Or.inl rfl))).trans c3, (World.cell?_of_block (w := WA) (a := ⟨w1.heap.size, 4, none⟩) (h _ (Or.inl rfl))).trans c4, (World.cell?_of_block (w := WA) (a := ⟨w1.heap.size, 5, none⟩) (h _ (Or.inl rfl))).trans c5, (World.cell?_of_block (w := WA) (a := ⟨w1.heap.size, 6, none⟩) (h _ (Or.inl rfl))).trans c6, (World.cell?_of_block (w := WA) (a := ⟨w6.heap.size, 0, none⟩) (h _ (Or.inr rfl))).trans x0, (World.cell?_of_block (w := WA) (a := ⟨w6.heap.size, 1, none⟩) (h _ (Or.inr rfl))).trans x1⟩
  have hbD : Below WA.heap.size WA WA.drew := bw0
  have HBD := hide hbD
  have hsW2 := hbWA.size
  have hgw : g < w6.heap.size := by omega
  clear c3 c4 c5 c6 x0 x1
  refine wp_region_held_drew (S := fun w' => w'.cell? ⟨w1.heap.size, 3, none⟩ = some (.slice a n.pieces.length ca) ∧ w'.cell? ⟨w1.heap.size, 4, none⟩ = some (.slice ksh n.joints.length kcsh) ∧ w'.cell? ⟨w1.heap.size, 5, none⟩ = some (.slice kst n.pieces.length kcst) ∧ w'.cell? ⟨w1.heap.size, 6, none⟩ = some (.int .i64 t.long) ∧ w'.cell? ⟨w6.heap.size, 0, none⟩ = some (.slice oa sx.length oc) ∧ w'.cell? ⟨w6.heap.size, 1, none⟩ = some (.int .i64 m.far)) (by kernel_rfl) ?_ (fun hHeld => ?_)
  ·exact unhide HS _ (fun k hk => (unhide HBD).block k (by omega))
  refine tkH 0 ?_
  refine tkH 1 ?_
  refine tkH 2 ?_
  refine tkH 3 ?_
  refine tkH 4 ?_
  refine tkH 6 ?_
  refine tkH 7 ?_
  refine tkH 8 ?_
  refine tkH 9 ?_
  refine wpAnyH_ready (rs := [5]) (by kernel_rfl) (by simp) ?_
  refine (AllReadyH.cons rfl (fun K hK => ?_) AllReadyH.nil)
  refine step_append_rows rfl (.tmp 54) (.tmp 56) 77 rfl sxF_len sx_ones (.slice (some ⟨g, 0, none⟩) BX.length cp) (.slice oa sx.length oc) (by simp [Act.eval]) (by simp [Act.eval]) (((unhide HR6).below hbWA).below (unhide HBD)) (((unhide HROW).below hbWA).below (unhide HBD)) i0 _ 32 Tryz.underlying77 hi0 hz0 hz1 hz2 rfl (by decide) (by unfold maxLen; rw [List.length_reverse]; omega) (by rw [List.length_reverse]; omega) (by have := (unhide HBD).size; omega) ?_
  intro u7 w7 hr7 hg7
  have hob : ∀ k, k ≠ g → (some k = (Value.slice (some ⟨g, 0, none⟩) BX.length cp).ownBlock) → False := fun k hk e => hk (by simpa [Value.ownBlock] using e)
  have hsD := (unhide HBD).size
  have hb17 : Below w1.heap.size w1 w7 := (below_then (below_then hb16 hbWA) (unhide HBD)).trans ⟨hg7.os, hg7.tape, hg7.output, hg7.size, fun k hk => hg7.block k (by omega) (fun e => hob k (by omega) e)⟩
  have hk7 : ∀ k, k = w1.heap.size ∨ k = w6.heap.size → w7.heap[k]? = WA.heap[k]? := fun k hk => (hg7.block k (by omega) (fun e => hob k (by omega) e)).trans ((unhide HBD).block k (by omega))
  refine hK.out _ _ (unhide HS _ hk7) (fun hHeld => ?_)
  clear hK K
  (try simp only [Act.put, List.getElem_toArray, List.getElem_cons_zero, List.getElem_cons_succ, List.setIfInBounds_toArray, List.set_cons_zero, List.set_cons_succ])
  obtain ⟨hlB2, hlhB, hokB⟩ := body_low hG (unhide HMV) hlg.1
  dsimp only at hlB2 hlhB hokB
  rw [unhide HBX] at hlB2 hlhB hokB
  have hlhS : ∀ x ∈ sx, LowHigh x := fun x hx => ⟨((unhide HOKS) x hx).2.1.1, (unhide HOV).2.2.1 x hx⟩
  obtain ⟨hway, hfar, hf0, hfF⟩ := way_of_run (unhide HOUT).2.2.1 (unhide HRUN) (unhide HOV) hlhS
  obtain ⟨pa, pc, rfl, hpc, hpx⟩ := sxRow_at hr7
  obtain ⟨P, hPe⟩ : ∃ P, BX.reverse ++ sx = P := ⟨_, rfl⟩
  have hPl : P.length ≤ 11000 := by rw [← hPe, List.length_append, List.length_reverse]; omega
  have hPok : ∀ x ∈ P, SxOk n x := fun x hx => by
   rw [← hPe] at hx
   rcases List.mem_append.1 hx with h | h
   ·exact hokB x (List.mem_reverse.1 h)
   ·exact unhide HOKS x h
  have hPlh : ∀ x ∈ P, LowHigh x := fun x hx => by
   rw [← hPe] at hx
   rcases List.mem_append.1 hx with h | h
   ·exact hlhB x (List.mem_reverse.1 h)
   ·exact hlhS x h
  have hPlen : lenS P = t.long + m.far := by rw [← hPe, lenS_app, lenS_rev, hlB2, hfar]
  rw [hPe] at hpx hpc ⊢
  have hF10 := (unhide HOUT).2.2.2
  have hbw7 := below_then hbw1 hb17
  have HPE := hide hPe
  have HWAY := hide hway
  have HFAR := hide hfar
  have HPLH := hide hPlh
  have HPLEN := hide hPlen
  have HLHS := hide hlhS
  clear hr7 hPe hway hfar hlB2 hlhB hokB hlhS
  refine wpAnyH_ready (rs := [10]) (by kernel_rfl) (by simp) ?_
  refine (AllReadyH.cons rfl (fun K hK => ?_) AllReadyH.nil)
  go_simp
  refine (marksOn_any _ n pa pc P qa qc qs (-t.long) _ ((unhide HTK).below hb17) hG hpx hPok (unhide HPLH) ((unhide HQ).below hbw7) (unhide HP1).mem hPl (unhide HP1).1 ⟨by omega, by omega⟩ (by rw [unhide HPLEN]; omega)).mono ?_
  rintro e w8 ⟨ma, mc, M, rfl, hm8, hmc, hperm, hpw, hml, hb8⟩
  have hs7 := hg7.size
  refine hK.out _ _ (unhide HS _ (fun k hk => (hb8.block k (by omega)).trans (hk7 k hk))) (fun hHeld => ?_)
  clear hK K
  (try simp only [Act.put, List.getElem_toArray, List.getElem_cons_zero, List.getElem_cons_succ, List.setIfInBounds_toArray, List.set_cons_zero, List.set_cons_succ])
  have hfit := marks_fit (n := n) (qs := qs) (unhide HPLH) (long := t.long) ⟨by omega, by omega⟩ (unhide HPLEN) (by omega) (unhide HP1).1
  have HSM := hide (sorted_marks hperm hpw (marks_two (unhide HPLH) (-t.long)))
  have HFIT : Hid (∀ m ∈ M, MkFit m ∧ 0 ≤ m.post ∧ m.post < 1000) := fun m hm => hfit m (hperm.mem_iff.1 hm)
  have HPERM := hide hperm
  have HM8 := hide hm8
  have hbw8 := below_then hbw7 hb8
  have y1 := hHeld.2.2.2.2.2
  have hl8 : w6.heap.size < w8.heap.size := by have := hb8.size; omega
  clear hperm hpw hfit hm8 hk7 hg7
  refine tkH 11 ?_
  refine wpAnyH_done (by kernel_rfl) ?_ _
  clear hHeld
  go_wp2_with fail
  refine (passings_any M ma mc ax xq xc m.far w8 (unhide HM8) hmc (unhide HSM) (fun m hm => (unhide HFIT m hm).1) (fun m hm => (unhide HFIT m hm).2) (by omega) ((unhide HX).below hbw8) (unhide HA1).1 (fun x hx => by have := (unhide HA1).mem x hx; omega) ⟨hf0, by omega⟩).mono ?_
  rintro e w9 ⟨u9, LT, rfl, hr9, hLs, hLm, hb9⟩
  have HFIN : Hid (LT.map Tg.un = outS n qs ax (bu n t.front t.back) (ur sx)) := by
   rw [unhide HFAR] at hLm
   have hpm := unhide HPERM
   rw [← unhide HPE, ← unhide HBX] at hpm
   exact impl_out hG (unhide HMV).spot hlg.1 (unhide HMV).steps (unhide HMV).trim (unhide HMV).enough (unhide HLHS) (unhide HA1).mem hpm hLs hLm
  have HR9 := hide (hr9.mono hbw8.size)
  clear hr9 hLs hLm
  go_wp2_with fail
  go_ret
  exact ⟨u9, _, rfl, unhide HR9, Or.inl ⟨⟨unhide HOUT, unhide HA1, unhide HP1⟩, _, unhide HWAY, unhide HFIN⟩, below_then hbw8 hb9⟩
 ·have hst5 := store_new w1 _ (unhide HZS) _ (bodyL_len (.slice none 0 0) (.slice none 0 0) (.slice none 0 0) ⟨0, 0, 0⟩ 0 0 []) (bodyL_one _ _ _ _ rfl rfl rfl)
  have hlB := bodyL_len (.slice none 0 0) (.slice none 0 0) (.slice none 0 0) ⟨0, 0, 0⟩ 0 0 []
  have hA : Below w1.heap.size w1 (w1.alloc (.cells (bodyL (.slice none 0 0) (.slice none 0 0) (.slice none 0 0) ⟨0, 0, 0⟩ 0 0 []).toArray 72)) := bw0
  have hbw2 := below_then hbw1 hA
  generalize w1.alloc (.cells (bodyL (.slice none 0 0) (.slice none 0 0) (.slice none 0 0) ⟨0, 0, 0⟩ 0 0 []).toArray 72) = wA at *
  have HN := hide hOut
  clear hOut
  unfold zeroBody bodyV
  go_wp2_with fail
  go_ret
  exact ⟨_, [], rfl, Row.nil _ _ _ _ _, Or.inr ⟨fun h => unhide HN h.1, rfl⟩, hbw2⟩
end Go.Proofs.YtjacbppeebnjfaaGreat

