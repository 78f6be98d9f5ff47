import Derived.Test.YtbdggfpfpjijoabGreatDoorMTk6
set_option linter.unusedSimpArgs false
namespace Go.Proofs.YtbdggfpfpjijoabGreatDoor
open Go.RowKit

def TickRet (n : Nt) (zs : List Int) (ts : List Tr) (vs : List Int) (base : Nat) (e : Ending) (w' : World) : Prop :=
 ∃ ok b vt vc vf vk, TickIs n zs ts vs ok b ∧ e = .returned (.agg #[.bool ok, vt, vc, vf, vk]) ∧ TnD True w' base vt b.ts ∧ NtRow w' base vc b.codes ∧ NtRow w' base vf b.fars ∧ (vc.ownBlock = none ∨ vc.ownBlock ≠ vf.ownBlock) ∧ SkRow w' base vk b.strikes
theorem tickRet_no {n : Nt} {zs : List Int} {ts : List Tr} {vs : List Int} {base : Nat} {w' : World} (h : ¬ TickGood n zs ts vs) : TickRet n zs ts vs base (.returned (.agg #[.bool false, .slice none 0 0, .slice none 0 0, .slice none 0 0, .slice none 0 0])) w' :=
 ⟨false, ⟨[], [], [], []⟩, _, _, _, _, Or.inr ⟨h, rfl, rfl⟩, rfl, tnD_nil _ _ _, Row.nil _ _ _ _ _, Row.nil _ _ _ _ _, Or.inl rfl, Row.nil _ _ _ _ _⟩

set_option maxRecDepth 100000 in
set_option maxHeartbeats 8000000 in
theorem implTick_any (v : Value) (n : Nt) (tq : Option Addr) (ts : List Tr) (tk : Nat) (zq : Option Addr) (zs : List Int) (zc : Nat) (vq : Option Addr) (vs : List Int) (vc : Nat) (w : World) {L L' L3 L4 : Nat} (hv : NetAt L w v n) (hts : TrsAt L' w tq ts) (hz : IntsAt L3 w zq zs) (hvs : IntsAt L4 w vq vs) (htl : ts.length ≤ 1048576) (hbl : ∀ t ∈ ts, t.back.length ≤ 1048576) (hvl : vs.length ≤ 1048576)
  (hl : n.pieces.length ≤ 1048576) (hl' : n.joints.length ≤ 1048576) (hle : ∀ i (h : i < n.joints.length), n.joints[i].name.size ≤ maxLen) (hnm : ∀ i (h : i < n.pieces.length), n.pieces[i].name.size ≤ maxLen)
  (hg : w.cell? ⟨0, 0, none⟩ = some (.iface 273 (.agg #[.pointer (some ⟨4, 98, none⟩)]))) :
  Calls Tryz.prog 25 #[v, .slice zq zs.length zc, .slice tq ts.length tk, .slice vq vs.length vc] w fun e w' => TickRet n zs ts vs w.heap.size e w' ∧ Below w.heap.size w w' := by
 have hvv := hv
 obtain ⟨x, c, ca, cc, rfl, hp, hj⟩ := hv
 have HV := hide hvv
 have HTS := hide hts
 have HZ := hide hz
 have HVS := hide hvs
 clear hvv hp hj hts hz hvs
 go_enter Tryz.func25, Tryz.ntmps25
 go_wp2_with fail
 obtain ⟨wB, hwB⟩ : ∃ wB, (w.alloc (.cells #[.slice x n.pieces.length ca, .slice c n.joints.length cc] 45)).alloc (.cells #[.bool false, .slice none 0 0, .slice none 0 0, .slice none 0 0, .slice none 0 0] 63) = wB := ⟨_, rfl⟩
 have hbB : Below w.heap.size w wB := by rw [← hwB]; exact bw0
 have hR8 : Boxed wB (w.heap.size + 1) [.bool false, .slice none 0 0, .slice none 0 0, .slice none 0 0, .slice none 0 0] := by rw [← hwB]; exact boxedN _ _ _ (by simp)
 have hR8t : IsTy wB (w.heap.size + 1) 63 := by
  rw [← hwB]
  have h := isTy_alloc (w.alloc (.cells #[.slice x n.pieces.length ca, .slice c n.joints.length cc] 45)) #[.bool false, .slice none 0 0, .slice none 0 0, .slice none 0 0, .slice none 0 0] 63
  simpa using h
 rw [hwB]
 refine (worldOf_all _ n tq ts tk wB ((unhide HV).below hbB) ((unhide HTS).below hbB) htl hbl hl hl' hle hnm).mono ?_
 rintro e w2 ⟨⟨hok, w1, W, ka, ksh, kst, kca, kcsh, kcst, Mp, N, mvv, ms, rfl, hwld, hN, htrk, hb12, hbB1⟩ | ⟨hno, rfl⟩, hbB2⟩
 ·have hR2 := hR8.below hbB2
  have hR2t := hR8t.below hbB2
  have hT0 := TkW.of hwld htrk hb12 hok
  have hbw2 := below_then hbB hbB2
  have hbw1 := below_then hbB hbB1
  have hb1s := hbw1.size
  have HT0 := hide hT0
  have HR2 := hide hR2
  have HR2T := hide hR2t
  have c0 := hT0.c0
  have c1 := hT0.c1
  have c2 := hT0.c2
  have c3 := hT0.c3
  have hWl := hT0.ty.lt
  have HOK := hide hok
  have HB12 := hide hb12
  have HTRK := hide htrk
  have HBW2 := hide hbw2
  have HBW1 := hide hbw1
  clear hwld htrk hb12 hok hT0 hbB1 hbB2 hR8 hR8t hbw2 hbw1 hR2t
  dsimp only
  go_wp2_with fail
  refine (liesFit_any _ n _ zs _ _ ((unhide HTRK).below (unhide HB12)) ((unhide HZ).below (unhide HBW2)) hl').mono ?_
  rintro e w3 ⟨⟨rfl, hlf⟩ | ⟨rfl, hlf⟩, hb3⟩
  ·have hR3 := hR2.below hb3
   have HR3 := hide hR3
   have HR3T := hide ((unhide HR2T).below hb3)
   have HT3 := hide ((unhide HT0).below hb3)
   have hbw3 := below_then (unhide HBW2) hb3
   have HBW3 := hide hbw3
   have HLF := hide hlf
   clear hR2 c0 c1 c2 c3 hlf HR2 HR2T HT0 HBW2 hb3
   go_wp2_with fail
   refine (speedsFit_any vq vc vs ts.length _ ((unhide HVS).below hbw3) hvl).mono ?_
   rintro e w4 ⟨⟨rfl, hsp⟩ | ⟨rfl, hsp⟩, hw4⟩
   ·subst hw4
    have hgood : TickGood n zs ts vs := ⟨unhide HOK, unhide HLF, hsp⟩
    have HGOOD := hide hgood
    have c3 := (unhide HT3).c3
    have HLEN := hide (unhide HT3).len
    have h20 := (unhide HOK).2.1
    obtain ⟨ma, mcap, hmv, hmc, hptr⟩ := prRow_at (unhide HT3).row
    subst hmv
    have hWl := (unhide HT3).ty.lt
    clear hsp hR3 hgood hbw3 hptr
    go_wp2_with fail
    obtain ⟨w5, hw5⟩ : ∃ w5, w4.alloc (.cells #[.bool true, .slice none 0 0, .slice none 0 0, .slice none 0 0, .slice none 0 0] 63) = w5 := ⟨_, rfl⟩
    obtain ⟨A, hA⟩ : ∃ A, w4.heap.size = A := ⟨_, rfl⟩
    have hb45 : Below w4.heap.size w4 w5 := by rw [← hw5]; exact bw0
    have hAb : Boxed w5 A [.bool true, .slice none 0 0, .slice none 0 0, .slice none 0 0, .slice none 0 0] := by rw [← hw5, ← hA]; exact boxed_alloc _ _ _
    have hAt : IsTy w5 A 63 := by rw [← hw5, ← hA]; exact isTy_alloc _ _ _
    have HR5 := hide ((unhide HR3).below hb45)
    have HR5T := hide ((unhide HR3T).below hb45)
    have HT5 := hide ((unhide HT3).below hb45)
    have HBW5 := hide (below_then (unhide HBW3) hb45)
    have HAR := hide (TkR.mk (d := True) (sks := []) (ts := []) (codes := []) (fars := []) hAt hAb (tnD_nil _ _ _) (Row.nil _ _ _ _ _) (Row.nil _ _ _ _ _) (Or.inl rfl) (Row.nil _ _ _ _ _))
    have hRA : w.heap.size + 1 < A := by have := (unhide HR3).1; omega
    have hA1 : w1.heap.size ≤ A := by rw [← hA]; exact (unhide HT3).bel.size
    rw [hw5, hA]
    clear hw5 hA hb45 hAb hAt c3 HR3 HR3T HT3 HBW3
    go_loopw [48] (fun z wr => ∃ (i : Nat) (b : TkS) (N' : Nat) (vt vc' vf vk : Value), i ≤ ms.length ∧ z = .int .i64 i ∧ Hid (TickTo n zs ts vs i b) ∧ Hid (TkW wr w1 W n ka ksh kst kca kcsh kcst Mp N' (.slice ma ms.length mcap) ms b.ts i (20 + i)) ∧ N' ≤ 100000 + 2000 * i ∧ b.strikes.length ≤ 20 * i ∧ Hid (TkR True wr A (b.ts.take i) b.codes b.fars b.strikes vt vc' vf vk) ∧ Hid (Boxed wr (w.heap.size + 1) [.bool false, .slice none 0 0, .slice none 0 0, .slice none 0 0, .slice none 0 0]) ∧ Hid (IsTy wr (w.heap.size + 1) 63) ∧ Hid (Below w.heap.size w wr)) (fun z _ => ms.length - (intOf z).toNat)
    case atStart => exact ⟨0, ⟨ts, [], [], []⟩, N, _, _, _, _, Nat.zero_le _, rfl, hide .zero, HT5, by omega, by simp, HAR, HR5, HR5T, HBW5⟩
    case round =>
     obtain ⟨i, b, N', vt, vc', vf, vk, hi, rfl, HTO, HTW, hN', hsk, HTR, HR8, HR8T, HBW⟩ := hrel
     by_cases hlt : i < ms.length
     ·have hTW := unhide HTW
      have hlen := unhide HLEN
      have hok := (unhide HTO).ok (unhide HGOOD)
      have hib : i < b.ts.length := by rw [hok.len]; omega
      have hfit := hok.fits _ (trAt_mem hib)
      have hsp := (unhide HGOOD).2.2
      have hvlen : vs.length = ts.length := by have := hsp.2; omega
      obtain ⟨_, _, hma0, _, hptr⟩ := prRow_at hTW.row
      simp only [Value.slice.injEq] at hma0
      obtain ⟨rfl, _, rfl⟩ := hma0
      obtain ⟨mb, moff, hma, hmb, cm⟩ := hptr i hlt
      subst hma
      obtain ⟨vb, voff, hvq, hvb, cvs⟩ := ((unhide HVS).below (unhide HBW)) i (by omega)
      subst hvq
      obtain ⟨F, hFe⟩ : ∃ F, vs[i]'(by omega) = F := ⟨_, rfl⟩
      rw [hFe] at cvs
      have hF : 0 ≤ F ∧ F ≤ 10000 := by rw [← hFe]; exact hsp.1 _ (List.getElem_mem _)
      have HFD : Hid (vs.getD i 0 = F) := by unfold Hid; rw [List.getD_eq_getElem?_getD, List.getElem?_eq_getElem (show i < vs.length by omega), ← hFe]; rfl
      obtain ⟨M, hM⟩ : ∃ M, ms[i] = M := ⟨_, rfl⟩
      rw [hM] at cm
      have hMG := hTW.mvs i hlt
      have hOW := hTW.first i hlt (Nat.le_refl _)
      rw [hM] at hMG hOW
      obtain ⟨t, ht⟩ : ∃ t, trAt b.ts i = t := ⟨_, rfl⟩
      rw [ht] at hMG hOW hfit
      obtain ⟨ls, hLy, hLs⟩ := hTW.lying
      have hlt' : (i : Int) < (ms.length : Int) := by omega
      have hvl' : (i : Int) < (vs.length : Int) := by omega
      have hvbl := hvb.2
      have hmbl := hmb
      have hTR : TrainRight n t := ⟨(unhide HOK).1, hfit⟩
      have HTR0 := hide hTR
      have HMG := hide hMG
      have HOW := hide hOW
      have HLY := hide hLy
      have HLS := hide hLs
      have HME := hide hM
      have HTE := hide ht
      have HOKB := hide hok
      have hvbw : vb < w.heap.size := by
       obtain ⟨b2, o2, e2, h2, _⟩ := unhide HVS i (by omega)
       simp only [Option.some.injEq, Addr.mk.injEq, and_true] at e2
       rw [e2.1]
       exact h2.2
      have hm20 : ms.length ≤ 20 := by omega
      have HVL := hide hvlen
      clear hlen hvlen hTW hok hib hfit hsp hptr hFe hM hMG hOW ht hLy hLs hTR hvb hmb
      go_wp2_with fail
      obtain ⟨wC, hwC⟩ : ∃ wC, wr.alloc (.cells #[.pointer (some ⟨M, 0, none⟩)] 130) = wC := ⟨_, rfl⟩
      obtain ⟨C, hC⟩ : ∃ C, wr.heap.size = C := ⟨_, rfl⟩
      have hbC : Below wr.heap.size wr wC := by rw [← hwC]; exact bw0
      have hCb : Boxed wC C [.pointer (some ⟨M, 0, none⟩)] := by rw [← hwC, ← hC]; exact boxed_alloc _ _ _
      have hCt : IsTy wC C 130 := by rw [← hwC, ← hC]; exact isTy_alloc _ _ _
      rw [hwC, hC]
      have hTWC := (unhide HTW).below hbC
      have hLC : Lying wC w1.heap.size Mp N' ls (fun k => (Value.slice (some ⟨mb, moff, none⟩) ms.length mcap).ownBlock = some k ∨ k = C) := by rw [← hC]; exact (unhide HLY).fresh hbC
      have hav : ∀ k, ((Value.slice (some ⟨mb, moff, none⟩) ms.length mcap).ownBlock = some k ∨ k = C) → k < wC.heap.size := by
       rintro k (h | h)
       ·exact (hTWC.row.lt k h).2
       ·rw [h]; exact hCt.lt
      have hMC : MvG wC w1.heap.size n (.slice ka n.pieces.length kca) (.slice ksh n.joints.length kcsh) (.slice kst n.pieces.length kcst) M i t := by
       have h := hTWC.mvs i hlt
       rw [unhide HME, unhide HTE] at h
       exact h
      have hOC := (unhide HOW).below hbC
      have hbwC := below_then (unhide HBW) hbC
      have hz1 : IntsAt 0 w1 zq zs := ((unhide HZ).zero).below (unhide HBW1)
      have HMOVE : Hid (∀ W', Below wC.heap.size wC W' → Calls Tryz.prog 66 #[.pointer (some ⟨W, 0, none⟩), .pointer (some ⟨M, 0, none⟩), .slice zq zs.length zc, .int .i64 F] W' (MoveRet n zs t F w1.heap.size M Mp N' i (fun k => (Value.slice (some ⟨mb, moff, none⟩) ms.length mcap).ownBlock = some k ∨ k = C) (.slice ka n.pieces.length kca) (.slice ksh n.joints.length kcsh) (.slice kst n.pieces.length kcst) ls W')) := fun W' hb =>
       wmove_any w1 n t W M Mp N' (20 + i) i _ ka ksh kst kca kcsh kcst ls ms (fun j => bodyParts n (trAt b.ts j)) zq zs zc F W' hTWC.trk (hTWC.bel.trans (hb.mono hTWC.bel.size)) (hTWC.ty.below hb) ((hb.cell (p := ⟨W, 4, none⟩) hTWC.ty.lt).trans hTWC.c4) hTWC.lo.2
        (hMC.kept (hb.block M hMC.ty.lt) hb.size (fun k hk => hb.block k hk.lt)) (hOC.below hb) (unhide HTR0) (unhide HLF) hF hz1 (hLC.below hb) (unhide HLS) (fun q hq => by
         obtain ⟨j, hj, rfl⟩ := List.getElem_of_mem hq
         exact (hTWC.mvs j hj).ty.below hb) (by omega) (by omega) (fun k hk => Nat.lt_of_lt_of_le (hav k hk) hb.size)
      have cc0 := hCb.2.1 0 _ rfl
      have ccl := hCb.1
      have cv0 : wC.cell? ⟨vb, voff + i, none⟩ = some (.int .i64 F) := (hbC.cell (p := ⟨vb, voff + i, none⟩) hvbl).trans cvs
      have hvbC : vb < wC.heap.size := Nat.lt_of_lt_of_le hvbl hbC.size
      have HTWC := hide hTWC
      have HLC := hide hLC
      have HMC := hide hMC
      have HCT := hide hCt
      have HCB := hide hCb
      have HBWC := hide hbwC
      have HTRC : Hid (TkR True wC A (b.ts.take i) b.codes b.fars b.strikes vt vc' vf vk) := (unhide HTR).below hbC
      have HR8C := hide ((unhide HR8).below hbC)
      have HR8TC := hide ((unhide HR8T).below hbC)
      have hAC : A < C := by rw [← hC]; exact (unhide HTR).box.1
      clear hwC hC hbC hTWC hLC hav hMC hOC hbwC hz1 hCb hCt HTW HTR HR8 HR8T HBW HMG HOW HLY cm cvs
      go_cut [14, 15] (fun p er wx => ∃ (Q : Nat) (m : Mv) (oa : Option Addr) (oc : Nat) (sx : List Sx) (code joint : Int), p = .pointer (some ⟨Q, 0, none⟩) ∧ er = errV code joint ∧ Hid (RunIs n zs t.long F ⟨t.front, t.back, 0, []⟩ m code joint) ∧ Boxed wx Q [.slice oa sx.length oc, .int .i64 m.far] ∧ wC.heap.size ≤ Q ∧ IsTy wx Q 96 ∧ Hid (SxRow wx wC.heap.size (.slice oa sx.length oc) sx) ∧ Hid (partsL n sx = m.over) ∧ Hid (∀ x ∈ sx, SxOk n x) ∧ sx.length ≤ 10001 ∧ Hid (MvG wx w1.heap.size n (.slice ka n.pieces.length kca) (.slice ksh n.joints.length kcsh) (.slice kst n.pieces.length kcst) M i ⟨m.s, t.long, m.xs⟩) ∧ Hid (Lying wx w1.heap.size Mp (N' + 2000) (laid (lifted ls M (bodyParts n t)) M (bodyParts n ⟨m.s, t.long, m.xs⟩)) (fun k => (Value.slice (some ⟨mb, moff, none⟩) ms.length mcap).ownBlock = some k ∨ k = C)) ∧ Hid (Turn (TS w1.heap.size M Mp (fun k => (Value.slice (some ⟨mb, moff, none⟩) ms.length mcap).ownBlock = some k ∨ k = C) wC) wC wx))
      case first =>
       refine wp_region_held_drew (S := fun w' => w'.cell? ⟨C, 0, none⟩ = some (.pointer (some ⟨M, 0, none⟩)) ∧ w'.cell? ⟨vb, voff + i, none⟩ = some (.int .i64 F)) (by kernel_rfl) ?_ (fun hHeld => ?_)
       ·exact ⟨by simpa using cc0, by simpa using cv0⟩
       refine wpAnyH_take (i := 0) (v := ?va1) rfl (by kernel_rfl) (by kernel_rfl) (by kernel_rfl) (fun _ _ _ h => h) (Or.inl ⟨by rfl, ?ya1⟩) (by assumption) ?ra1
       case ya1 => (intro w0 hSw; (try dsimp only at hSw); go_simp; (try with_reducible rfl))
       (try simp only [Act.put, List.getElem_toArray, List.getElem_cons_zero, List.getElem_cons_succ, List.setIfInBounds_toArray, List.set_cons_zero, List.set_cons_succ])
       refine wpAnyH_take (i := 1) (v := ?va2) rfl (by kernel_rfl) (by kernel_rfl) (by kernel_rfl) (fun _ _ _ h => h) (Or.inl ⟨by rfl, ?ya2⟩) (by assumption) ?ra2
       case ya2 => (intro w0 hSw; (try dsimp only at hSw); go_simp; (try with_reducible rfl))
       (try simp only [Act.put, List.getElem_toArray, List.getElem_cons_zero, List.getElem_cons_succ, List.setIfInBounds_toArray, List.set_cons_zero, List.set_cons_succ])
       refine wpAnyH_take (i := 2) (v := ?va3) rfl (by kernel_rfl) (by kernel_rfl) (by kernel_rfl) (fun _ _ _ h => h) (Or.inl ⟨by rfl, ?ya3⟩) (by assumption) ?ra3
       case ya3 => (intro w0 hSw; (try dsimp only at hSw); go_simp; (try with_reducible rfl))
       (try simp only [Act.put, List.getElem_toArray, List.getElem_cons_zero, List.getElem_cons_succ, List.setIfInBounds_toArray, List.set_cons_zero, List.set_cons_succ])
       refine wpAnyH_take (i := 3) (v := ?va4) rfl (by kernel_rfl) (by kernel_rfl) (by kernel_rfl) (fun _ _ _ h => h) (Or.inl ⟨by rfl, ?ya4⟩) (by assumption) ?ra4
       case ya4 => (intro w0 hSw; (try dsimp only at hSw); go_simp; (try with_reducible rfl))
       (try simp only [Act.put, List.getElem_toArray, List.getElem_cons_zero, List.getElem_cons_succ, List.setIfInBounds_toArray, List.set_cons_zero, List.set_cons_succ])
       refine wpAnyH_take (i := 4) (v := ?va5) rfl (by kernel_rfl) (by kernel_rfl) (by kernel_rfl) (fun _ _ _ h => h) (Or.inl ⟨by rfl, ?ya5⟩) (by assumption) ?ra5
       case ya5 => (intro w0 hSw; (try dsimp only at hSw); go_simp; (try with_reducible rfl))
       (try simp only [Act.put, List.getElem_toArray, List.getElem_cons_zero, List.getElem_cons_succ, List.setIfInBounds_toArray, List.set_cons_zero, List.set_cons_succ])
       refine wpAnyH_take (i := 5) (v := ?va6) rfl (by kernel_rfl) (by kernel_rfl) (by kernel_rfl) (fun _ _ _ h => h) (Or.inl ⟨by rfl, ?ya6⟩) (by assumption) ?ra6
       case ya6 => (intro w0 hSw; (try dsimp only at hSw); go_simp; (try with_reducible rfl))
       (try simp only [Act.put, List.getElem_toArray, List.getElem_cons_zero, List.getElem_cons_succ, List.setIfInBounds_toArray, List.set_cons_zero, List.set_cons_succ])
       refine wpAnyH_take (i := 6) (v := ?va7) rfl (by kernel_rfl) (by kernel_rfl) (by kernel_rfl) (fun _ _ _ h => h) (Or.inl ⟨by rfl, ?ya7⟩) (by assumption) ?ra7
       case ya7 => (intro w0 hSw; (try dsimp only at hSw); go_simp; (try with_reducible rfl))
       (try simp only [Act.put, List.getElem_toArray, List.getElem_cons_zero, List.getElem_cons_succ, List.setIfInBounds_toArray, List.set_cons_zero, List.set_cons_succ])
       refine wpAnyH_ready (rs := [7, 11]) (by kernel_rfl) (by simp) ?_
       refine (AllReadyH.cons rfl (fun K hK => ?_) (AllReadyH.cons rfl (fun K hK => ?_) AllReadyH.nil))
       ·go_simp
        refine (unhide HMOVE _ (bw0 : Below wC.heap.size wC _)).mono ?_
        rintro e w6 ⟨m, ov, sx, code, joint, rfl, hrun, hsx, hover, hoks, hfew, hmv, hL6, hT6'⟩
        dsimp only
        obtain ⟨oa, oc, hov, _, _⟩ := sxRow_at hsx
        subst hov
        have hbW : Below wC.heap.size wC _ := (bw0 : Below wC.heap.size wC wC.drew)
        have hT6 : Turn (TS w1.heap.size M Mp (fun k => (Value.slice (some ⟨mb, moff, none⟩) ms.length mcap).ownBlock = some k ∨ k = C) wC) wC w6 := TS.trans (Turn.of_below hbW) hT6'
        have hsx6 : SxRow w6 wC.heap.size (.slice oa sx.length oc) sx := hsx.mono hbW.size
        have bC6 := TS.kept hT6 (unhide HLC) (unhide HMC).ty (unhide HCT) (Or.inr rfl)
        have hlow : ∀ k, k < w1.heap.size → w6.heap[k]? = wC.heap[k]? := fun k hk => (hT6.below (unhide HTWC).bel.size (fun k hk => by
         have h1 := (unhide HMC).lo
         have h2 := (unhide HTWC).lo.2
         rintro (e | e | ⟨e, _, _⟩) <;> omega)).block k hk
        have hbv6 := hlow vb (by have := (unhide HBW1).size; omega)
        have cc6 : w6.cell? ⟨C, 0, none⟩ = some (.pointer (some ⟨M, 0, none⟩)) := (World.cell?_of_block (w := wC) (a := ⟨C, 0, none⟩) bC6).trans cc0
        have cv6 : w6.cell? ⟨vb, voff + i, none⟩ = some (.int .i64 F) := (World.cell?_of_block (w := wC) (a := ⟨vb, voff + i, none⟩) hbv6).trans cv0
        have hC6 : C < w6.heap.size := Nat.lt_of_lt_of_le ccl hT6.size
        have hv6 : vb < w6.heap.size := Nat.lt_of_lt_of_le hvbC hT6.size
        have HRUN := hide hrun
        have HSX := hide hsx6
        have HOVER := hide hover
        have HOKS := hide hoks
        have HMV6 := hide hmv
        have HL6 := hide hL6
        have HT6 := hide hT6
        have hH6 : (fun w' => w'.cell? ⟨C, 0, none⟩ = some (.pointer (some ⟨M, 0, none⟩)) ∧ w'.cell? ⟨vb, voff + i, none⟩ = some (.int .i64 F)) w6 := ⟨cc6, cv6⟩
        clear hrun hsx hover hoks hmv hL6 hT6' hsx6 hbW bC6 hlow hbv6 hT6
        refine hK.out _ _ hH6 (fun hHeld => ?_)
        clear hK K
        (try simp only [Act.put, List.getElem_toArray, List.getElem_cons_zero, List.getElem_cons_succ, List.setIfInBounds_toArray, List.set_cons_zero, List.set_cons_succ])
        refine wpAnyH_take (i := 8) (v := ?va8) rfl (by kernel_rfl) (by kernel_rfl) (by kernel_rfl) (fun _ _ _ h => h) (Or.inl ⟨by rfl, ?ya8⟩) (by assumption) ?ra8
        case ya8 => (intro w0 hSw; (try dsimp only at hSw); go_simp; (try with_reducible rfl))
        (try simp only [Act.put, List.getElem_toArray, List.getElem_cons_zero, List.getElem_cons_succ, List.setIfInBounds_toArray, List.set_cons_zero, List.set_cons_succ])
        refine wpAnyH_take (i := 9) (v := ?va9) rfl (by kernel_rfl) (by kernel_rfl) (by kernel_rfl) (fun _ _ _ h => h) (Or.inl ⟨by rfl, ?ya9⟩) (by assumption) ?ra9
        case ya9 => (intro w0 hSw; (try dsimp only at hSw); go_simp; (try with_reducible rfl))
        (try simp only [Act.put, List.getElem_toArray, List.getElem_cons_zero, List.getElem_cons_succ, List.setIfInBounds_toArray, List.set_cons_zero, List.set_cons_succ])
        refine wpAnyH_take (i := 10) (v := ?va10) rfl (by kernel_rfl) (by kernel_rfl) (by kernel_rfl) (fun _ _ _ h => h) (Or.inl ⟨by rfl, ?ya10⟩) (by assumption) ?ra10
        case ya10 => (intro w0 hSw; (try dsimp only at hSw); go_simp; (try with_reducible rfl))
        (try simp only [Act.put, List.getElem_toArray, List.getElem_cons_zero, List.getElem_cons_succ, List.setIfInBounds_toArray, List.set_cons_zero, List.set_cons_succ])
        refine wpAnyH_ready (rs := [11]) (by kernel_rfl) (by simp) ?_
        refine (AllReadyH.cons rfl (fun K hK => ?_) AllReadyH.nil)
        go_simp
        have hH7 : (fun w' => w'.cell? ⟨C, 0, none⟩ = some (.pointer (some ⟨M, 0, none⟩)) ∧ w'.cell? ⟨vb, voff + i, none⟩ = some (.int .i64 F)) (w6.alloc (.cells #[.slice none 0 0, .int .i64 0] 96)) := ⟨((bw0 : Below w6.heap.size w6 (w6.alloc (.cells #[.slice none 0 0, .int .i64 0] 96))).cell (p := ⟨C, 0, none⟩) hC6).trans cc6, ((bw0 : Below w6.heap.size w6 (w6.alloc (.cells #[.slice none 0 0, .int .i64 0] 96))).cell (p := ⟨vb, voff + i, none⟩) hv6).trans cv6⟩
        refine hK.out _ _ hH7 (fun hHeld => ?_)
        clear hK K
        (try simp only [Act.put, List.getElem_toArray, List.getElem_cons_zero, List.getElem_cons_succ, List.setIfInBounds_toArray, List.set_cons_zero, List.set_cons_succ])
        refine wpAnyH_ready (rs := [12]) (by kernel_rfl) (by simp) ?_
        refine (AllReadyH.cons rfl (fun K hK => ?_) AllReadyH.nil)
        go_simp
        have hb7 : Below w6.heap.size w6 (w6.alloc (.cells #[.slice oa sx.length oc, .int .i64 m.far] 96)) := bw0
        have hH8 : (fun w' => w'.cell? ⟨C, 0, none⟩ = some (.pointer (some ⟨M, 0, none⟩)) ∧ w'.cell? ⟨vb, voff + i, none⟩ = some (.int .i64 F)) (w6.alloc (.cells #[.slice oa sx.length oc, .int .i64 m.far] 96)) := ⟨(hb7.cell (p := ⟨C, 0, none⟩) hC6).trans cc6, (hb7.cell (p := ⟨vb, voff + i, none⟩) hv6).trans cv6⟩
        refine hK.out _ _ hH8 (fun hHeld => ?_)
        clear hK K
        (try simp only [Act.put, List.getElem_toArray, List.getElem_cons_zero, List.getElem_cons_succ, List.setIfInBounds_toArray, List.set_cons_zero, List.set_cons_succ])
        refine wpAnyH_take (i := 13) (v := ?va11) rfl (by kernel_rfl) (by kernel_rfl) (by kernel_rfl) (fun _ _ _ h => h) (Or.inl ⟨by rfl, ?ya11⟩) (by assumption) ?ra11
        case ya11 => (intro w0 hSw; (try dsimp only at hSw); go_simp; (try with_reducible rfl))
        (try simp only [Act.put, List.getElem_toArray, List.getElem_cons_zero, List.getElem_cons_succ, List.setIfInBounds_toArray, List.set_cons_zero, List.set_cons_succ])
        refine wpAnyH_done (by kernel_rfl) ?_ _

        go_wp2_with fail
        go_meet
        exact ⟨w6.heap.size, m, oa, oc, sx, code, joint, rfl, rfl, HRUN, boxed_alloc _ _ _, (unhide HT6).size, isTy_alloc _ _ _, hide ((unhide HSX).below hb7), HOVER, HOKS, hfew, hide ((unhide HMV6).kept (hb7.block M (unhide HMV6).ty.lt) hb7.size (fun k hk => hb7.block k hk.lt)), hide ((unhide HL6).below hb7), hide ((unhide HT6).then_below hb7)⟩
       ·go_simp
        have hH5 : (fun w' => w'.cell? ⟨C, 0, none⟩ = some (.pointer (some ⟨M, 0, none⟩)) ∧ w'.cell? ⟨vb, voff + i, none⟩ = some (.int .i64 F)) (wC.drew.alloc (.cells #[.slice none 0 0, .int .i64 0] 96)) := ⟨((bw0 : Below wC.heap.size wC (wC.drew.alloc (.cells #[.slice none 0 0, .int .i64 0] 96))).cell (p := ⟨C, 0, none⟩) ccl).trans cc0, ((bw0 : Below wC.heap.size wC (wC.drew.alloc (.cells #[.slice none 0 0, .int .i64 0] 96))).cell (p := ⟨vb, voff + i, none⟩) hvbC).trans cv0⟩
        refine hK.out _ _ hH5 (fun hHeld => ?_)
        clear hK K
        (try simp only [Act.put, List.getElem_toArray, List.getElem_cons_zero, List.getElem_cons_succ, List.setIfInBounds_toArray, List.set_cons_zero, List.set_cons_succ])
        refine wpAnyH_ready (rs := [7]) (by kernel_rfl) (by simp) ?_
        refine (AllReadyH.cons rfl (fun K hK => ?_) AllReadyH.nil)
        go_simp
        refine (unhide HMOVE _ (bw0 : Below wC.heap.size wC _)).mono ?_
        rintro e w6 ⟨m, ov, sx, code, joint, rfl, hrun, hsx, hover, hoks, hfew, hmv, hL6, hT6'⟩
        dsimp only
        obtain ⟨oa, oc, hov, _, _⟩ := sxRow_at hsx
        subst hov
        have hbW : Below wC.heap.size wC _ := (bw0 : Below wC.heap.size wC (wC.drew.alloc (.cells #[.slice none 0 0, .int .i64 0] 96)))
        have hT6 : Turn (TS w1.heap.size M Mp (fun k => (Value.slice (some ⟨mb, moff, none⟩) ms.length mcap).ownBlock = some k ∨ k = C) wC) wC w6 := TS.trans (Turn.of_below hbW) hT6'
        have hsx6 : SxRow w6 wC.heap.size (.slice oa sx.length oc) sx := hsx.mono hbW.size
        have bC6 := TS.kept hT6 (unhide HLC) (unhide HMC).ty (unhide HCT) (Or.inr rfl)
        have hlow : ∀ k, k < w1.heap.size → w6.heap[k]? = wC.heap[k]? := fun k hk => (hT6.below (unhide HTWC).bel.size (fun k hk => by
         have h1 := (unhide HMC).lo
         have h2 := (unhide HTWC).lo.2
         rintro (e | e | ⟨e, _, _⟩) <;> omega)).block k hk
        have hbv6 := hlow vb (by have := (unhide HBW1).size; omega)
        have cc6 : w6.cell? ⟨C, 0, none⟩ = some (.pointer (some ⟨M, 0, none⟩)) := (World.cell?_of_block (w := wC) (a := ⟨C, 0, none⟩) bC6).trans cc0
        have cv6 : w6.cell? ⟨vb, voff + i, none⟩ = some (.int .i64 F) := (World.cell?_of_block (w := wC) (a := ⟨vb, voff + i, none⟩) hbv6).trans cv0
        have hQ0 : IsTy (wC.drew.alloc (.cells #[.slice none 0 0, .int .i64 0] 96)) wC.heap.size 96 := by simpa using isTy_alloc wC.drew #[.slice none 0 0, .int .i64 0] 96
        have hQblk := TS.same hT6' ((unhide HLC).below hbW) hQ0 (by decide) (fun e => by have := (unhide HMC).ty.lt; omega)
        have hQ6 : Boxed w6 wC.heap.size [.slice none 0 0, .int .i64 0] := boxed_kept (boxed_alloc wC.drew #[.slice none 0 0, .int .i64 0] 96) hQblk hT6'.size
        have hQ6t : IsTy w6 wC.heap.size 96 := hQ0.same hQblk
        have q0 := hQ6.2.1 0 _ rfl
        have q1 := hQ6.2.1 1 _ rfl
        have qz := hQ6.2.2
        have ql := hQ6.1
        have hC6 : C < w6.heap.size := Nat.lt_of_lt_of_le ccl hT6.size
        have hv6 : vb < w6.heap.size := Nat.lt_of_lt_of_le hvbC hT6.size
        have HRUN := hide hrun
        have HSX := hide hsx6
        have HOVER := hide hover
        have HOKS := hide hoks
        have HMV6 := hide hmv
        have HL6 := hide hL6
        have HT6 := hide hT6
        have hH6 : (fun w' => w'.cell? ⟨C, 0, none⟩ = some (.pointer (some ⟨M, 0, none⟩)) ∧ w'.cell? ⟨vb, voff + i, none⟩ = some (.int .i64 F)) w6 := ⟨cc6, cv6⟩
        clear hrun hsx hover hoks hmv hL6 hT6' hsx6 hbW bC6 hlow hbv6 hT6
        refine hK.out _ _ hH6 (fun hHeld => ?_)
        clear hK K
        (try simp only [Act.put, List.getElem_toArray, List.getElem_cons_zero, List.getElem_cons_succ, List.setIfInBounds_toArray, List.set_cons_zero, List.set_cons_succ])
        refine wpAnyH_take (i := 8) (v := ?va12) rfl (by kernel_rfl) (by kernel_rfl) (by kernel_rfl) (fun _ _ _ h => h) (Or.inl ⟨by rfl, ?ya12⟩) (by assumption) ?ra12
        case ya12 => (intro w0 hSw; (try dsimp only at hSw); go_simp; (try with_reducible rfl))
        (try simp only [Act.put, List.getElem_toArray, List.getElem_cons_zero, List.getElem_cons_succ, List.setIfInBounds_toArray, List.set_cons_zero, List.set_cons_succ])
        refine wpAnyH_take (i := 9) (v := ?va13) rfl (by kernel_rfl) (by kernel_rfl) (by kernel_rfl) (fun _ _ _ h => h) (Or.inl ⟨by rfl, ?ya13⟩) (by assumption) ?ra13
        case ya13 => (intro w0 hSw; (try dsimp only at hSw); go_simp; (try with_reducible rfl))
        (try simp only [Act.put, List.getElem_toArray, List.getElem_cons_zero, List.getElem_cons_succ, List.setIfInBounds_toArray, List.set_cons_zero, List.set_cons_succ])
        refine wpAnyH_take (i := 10) (v := ?va14) rfl (by kernel_rfl) (by kernel_rfl) (by kernel_rfl) (fun _ _ _ h => h) (Or.inl ⟨by rfl, ?ya14⟩) (by assumption) ?ra14
        case ya14 => (intro w0 hSw; (try dsimp only at hSw); go_simp; (try with_reducible rfl))
        (try simp only [Act.put, List.getElem_toArray, List.getElem_cons_zero, List.getElem_cons_succ, List.setIfInBounds_toArray, List.set_cons_zero, List.set_cons_succ])
        refine wpAnyH_ready (rs := [12]) (by kernel_rfl) (by simp) ?_
        refine (AllReadyH.cons rfl (fun K hK => ?_) AllReadyH.nil)
        go_simp
        have hOq : Only (fun k => k = wC.heap.size) w6 ((w6.setCell ⟨wC.heap.size, 0, none⟩ (.slice oa sx.length oc)).setCell ⟨wC.heap.size, 1, none⟩ (.int .i64 m.far)) := (only_setCell (S := fun k => k = wC.heap.size) w6 (p := ⟨wC.heap.size, 0, none⟩) rfl _).trans (only_setCell (S := fun k => k = wC.heap.size) _ (p := ⟨wC.heap.size, 1, none⟩) rfl _)
        have hH8 : (fun w' => w'.cell? ⟨C, 0, none⟩ = some (.pointer (some ⟨M, 0, none⟩)) ∧ w'.cell? ⟨vb, voff + i, none⟩ = some (.int .i64 F)) ((w6.setCell ⟨wC.heap.size, 0, none⟩ (.slice oa sx.length oc)).setCell ⟨wC.heap.size, 1, none⟩ (.int .i64 m.far)) := ⟨(World.cell?_of_block (w := w6) (a := ⟨C, 0, none⟩) (hOq.block C hC6 (by omega))).trans cc6, (World.cell?_of_block (w := w6) (a := ⟨vb, voff + i, none⟩) (hOq.block vb hv6 (by omega))).trans cv6⟩
        refine hK.out _ _ hH8 (fun hHeld => ?_)
        clear hK K
        (try simp only [Act.put, List.getElem_toArray, List.getElem_cons_zero, List.getElem_cons_succ, List.setIfInBounds_toArray, List.set_cons_zero, List.set_cons_succ])
        refine wpAnyH_take (i := 13) (v := ?va15) rfl (by kernel_rfl) (by kernel_rfl) (by kernel_rfl) (fun _ _ _ h => h) (Or.inl ⟨by rfl, ?ya15⟩) (by assumption) ?ra15
        case ya15 => (intro w0 hSw; (try dsimp only at hSw); go_simp; (try with_reducible rfl))
        (try simp only [Act.put, List.getElem_toArray, List.getElem_cons_zero, List.getElem_cons_succ, List.setIfInBounds_toArray, List.set_cons_zero, List.set_cons_succ])
        refine wpAnyH_done (by kernel_rfl) ?_ _

        have hQf := (hQ6.setAt (i := 0) (by simp) (.slice oa sx.length oc)).setAt (i := 1) (by simp) (.int .i64 m.far)
        have hneq : ∀ {k T}, IsTy w6 k T → T ≠ 96 → k ≠ wC.heap.size := fun {k T} hk hT e => by subst e; exact hT (hk.unique hQ6t)
        have hMpl := (unhide HL6).lt
        go_wp2_with fail
        go_meet
        exact ⟨wC.heap.size, m, oa, oc, sx, code, joint, rfl, rfl, HRUN, hQf, Nat.le_refl _, isTy_set (isTy_set hQ6t _ _) _ _, hide ((unhide HSX).block fun k hk => hOq.block k ((unhide HSX).lt k hk).2 (hneq ((unhide HSX).ty hk) (by decide))), HOVER, HOKS, hfew, hide ((unhide HMV6).kept (hOq.block M (unhide HMV6).ty.lt (hneq (unhide HMV6).ty (by decide))) hOq.size (fun k hk => hOq.block k hk.lt (hneq hk (by decide)))), hide ((unhide HL6).kept (hOq.block Mp hMpl (fun e => (unhide HL6).notCells hQ6t.cells e.symm)) fun k hk _ => hOq.block k hk.lt (hneq hk (by decide))), hide ((unhide HT6).only hOq (fun k hk e => by omega))⟩
      case rest =>
       obtain ⟨Q, m, oa, oc, sx, code, joint, rfl, rfl, HRUN, hQ, hQl, hQt, HSX, HOVER, HOKS, hfew, HMV, HL, HT⟩ := hcut
       obtain ⟨w6, rfl⟩ : ∃ w6, w6 = wc := ⟨_, rfl⟩
       obtain ⟨t', ht'⟩ : ∃ t', (⟨m.s, t.long, m.xs⟩ : Tr) = t' := ⟨_, rfl⟩
       rw [ht'] at HMV HL
       have HTE' := hide ht'
       have hT6 := unhide HT
       have HTR6 := hide ((unhide HTRC).moved hT6 (unhide HLC) (unhide HMC).ty)
       have hTW6 : TkW w6 w1 W n ka ksh kst kca kcsh kcst Mp (N' + 2000) (.slice (some ⟨mb, moff, none⟩) ms.length mcap) ms (b.ts.set i t') (i + 1) (20 + i + 1) := by
        have h1 := unhide HMV
        have h2 := unhide HL
        have h3 := hT6
        rw [← unhide HME] at h1 h2 h3
        rw [← unhide HTE] at h2
        exact (unhide HTWC).moved hlt (unhide HLC) (unhide HLS) h1 h2 h3
       have HTW6 := hide hTW6
       have hneM : ∀ {k T}, IsTy wC k T → T ≠ 133 → k ≠ M := fun {k T} hk hT e => by subst e; exact hT (hk.unique (unhide HMC).ty)
       have HC6 := hide (boxed_kept (unhide HCB) (TS.kept hT6 (unhide HLC) (unhide HMC).ty (unhide HCT) (Or.inr rfl)) hT6.size)
       have HC6T := hide ((unhide HCT).same (TS.kept hT6 (unhide HLC) (unhide HMC).ty (unhide HCT) (Or.inr rfl)))
       have hbR8 := TS.same hT6 (unhide HLC) (unhide HR8TC) (by decide) (hneM (unhide HR8TC) (by decide))
       have HR86 := hide (boxed_kept (unhide HR8C) hbR8 hT6.size)
       have HR8T6 := hide ((unhide HR8TC).same hbR8)
       have HQ6 := hide hQ
       have hlo6 : Below w1.heap.size wC w6 := hT6.below (unhide HTWC).bel.size (fun k hk => by
        have h1 := (unhide HMC).lo
        have h2 := (unhide HTWC).lo.2
        rintro (e | e | ⟨e, _, _⟩) <;> omega)
       have HBW6 := hide ((unhide HBWC).trans (hlo6.mono hb1s))
       have HZ6 : Hid (TkZ w w1 W n ka ksh kst kca kcsh kcst Mp (N' + 2000) (.slice (some ⟨mb, moff, none⟩) ms.length mcap) ms (b.ts.set i t') (i + 1) (20 + i + 1) C M Q (w.heap.size + 1) wC.heap.size oa oc sx m.far w6) := ⟨hTW6, unhide HC6, unhide HC6T, hQ, hQt, unhide HSX, unhide HR86, unhide HR8T6, hb1s, unhide HBW6⟩
       obtain ⟨ta, tcap, e1, _⟩ := tnRow_at (unhide HTR6).rt.row
       subst e1
       obtain ⟨qs, hqm, hqv, hqe, hqt⟩ := (unhide HTR6).rt
       have hql : qs.length ≤ 20 := by
        have h1 := congrArg List.length hqm
        rw [List.length_map, List.length_take] at h1
        omega
       have hqlen : (b.ts.take i).length = qs.length := by rw [← hqm, List.length_map]
       rw [hqlen] at hqv
       have HQV := hide hqv
       have HQE := hide hqe
       have HQM := hide hqm
       have HQT := hide hqt
       have HQL := hide hqlen
       have hTR6 := unhide HTR6
       rw [hqlen] at hTR6
       have HTR6 := hide hTR6
       clear HSX HR86 HR8T6 HBW6 HTW6 HC6T
       have x0 := (unhide HC6).2.1 0 _ rfl
       have xl := (unhide HC6).1
       have a1 := hTR6.box.2.1 1 _ rfl
       have az := hTR6.box.2.2
       have al := hTR6.box.1
       have hTl : A < w6.heap.size := al
       have hMl6 : M < w6.heap.size := (unhide HMV).ty.lt
       obtain ⟨i1, hj1, hy0, hy1, hy2⟩ := info_parts info_Train
       have HGB := hide (unhide HMV).body
       have HTy6 := hide hTR6.ty
       clear hT6 hTW6 hneM hbR8 hQ hQt hlo6 hqv hqe hqm hqt hqlen hTR6 cc0 ccl cv0 hvbC
       go_wp2_with fail
       go_cut [16] (fun _ wx => ∃ vt' : Value, Hid (TkR True wx A (b.ts.take i ++ [t']) b.codes b.fars b.strikes vt' vc' vf vk) ∧ Hid (TkZ w w1 W n ka ksh kst kca kcsh kcst Mp (N' + 2000) (.slice (some ⟨mb, moff, none⟩) ms.length mcap) ms (b.ts.set i t') (i + 1) (20 + i + 1) C M Q (w.heap.size + 1) wC.heap.size oa oc sx m.far wx))
       case first =>
        go_region_law (first
         | (go_simp; go_at_call 45; refine (train_any M _ _ _ t'.front t'.long (spare n t') t'.back _ ((unhide HGB).below bw0)).mono ?_; rintro e w7 ⟨sa, scap, rfl, hst7, hb7⟩; dsimp only; have x7 := (((bw0 : Below w6.heap.size w6 _).trans (hb7.mono (bw0 : Below w6.heap.size w6 _).size)).cell (p := ⟨C, 0, none⟩) xl).trans x0; have a7 := (((bw0 : Below w6.heap.size w6 _).trans (hb7.mono (bw0 : Below w6.heap.size w6 _).size)).cell (p := ⟨A, 1, none⟩) al).trans a1; have al7 : A < w7.heap.size := Nat.lt_of_lt_of_le al ((bw0 : Below w6.heap.size w6 _).trans (hb7.mono (bw0 : Below w6.heap.size w6 _).size)).size; have xl7 : C < w7.heap.size := Nat.lt_of_lt_of_le xl ((bw0 : Below w6.heap.size w6 _).trans (hb7.mono (bw0 : Below w6.heap.size w6 _).size)).size)
         | (refine step_append_lies _ rfl (.tmp 65) (.tmp 70) 60 rfl (A + 1) 37 i1 (.agg #[.int .i64 0, .int .i64 0, .int .i64 0, .int .i64 0, .slice none 0 0]) 5 56 Tryz.underlying60 hj1 hy0 hy1 hy2 rfl (by decide) (.slice ta qs.length tcap) qs.length (qs.flatMap tvF) (by simp [Act.eval]) ((unhide HQV).below (below_then (below_then bw0 hb7) bw0)) _ 1 1 (tvF (t', .slice sa t'.back.length scap)) (by simp [Act.eval]) rfl (tv_news (boxed_alloc _ _ _)) (tv_one _ _ _ _) (by omega) (by unfold maxLen; omega) (by omega) (by have := hb7.size; simp at this ⊢; omega) _ rfl ?_; intro g cap w8 hown8 hgrow hat8 hlt8; have hne8 : some A ≠ (Value.slice ta qs.length tcap).ownBlock := (fun hc => (by have := ((unhide HQV).lt _ hc.symm).1; omega)); have hA8 := boxed_grown' hgrow ((unhide HTR6).box.below (below_then (below_then bw0 hb7) bw0)) hne8; have d1 := hA8.2.1 1 _ rfl; have dz := hA8.2.2; have dl := hA8.1))
        all_goals have hbX := (below_then (below_then (show Below w6.heap.size w6 _ from bw0) hb7) (show Below w7.heap.size w7 (w7.alloc (.cells #[.int .i64 t'.front.piece, .int .i64 t'.front.at_, .int .i64 t'.front.way, .int .i64 t'.long, .slice sa t'.back.length scap] 37)) from bw0))
        all_goals have hst8 : StRow _ (A + 1) _ _ := (hst7.mono (show A + 1 ≤ _ from hTl)).below (show Below w7.heap.size w7 (w7.alloc (.cells #[.int .i64 t'.front.piece, .int .i64 t'.front.at_, .int .i64 t'.front.way, .int .i64 t'.long, .slice sa t'.back.length scap] 37)) from bw0)
        all_goals have HR8x := hide (TkR.addT (t := t') ((unhide HTR6).below hbX) (unhide HQM) ((unhide HQV).below hbX) (fun q hq => by obtain ⟨a', c', he, hr⟩ := unhide HQE q hq; exact ⟨a', c', he, hr.below hbX⟩) (unhide HQT) (fun _ q hq k h1 h2 => by obtain ⟨_, _, _, hr⟩ := unhide HQE q hq; have g1 := (hr.lt k h1).2; have g2 : w6.heap.size ≤ k := (hst7.lt k h2).1; omega) hst8 hgrow (Row.snoc hown8))
        all_goals have hZ8 := ((unhide HZ6).below hbX).grown hgrow (fun k hk => ⟨Nat.le_trans (Nat.le_trans hA1 (Nat.le_succ A)) ((unhide HQV).lt k hk).1, 37, ((unhide HQV).below hbX).ty hk, Or.inl rfl⟩)
        all_goals have HZ9 := hide (hZ8.set (((unhide HTR6).ty.below hbX).same (hgrow.block A (Nat.lt_of_lt_of_le al hbX.size) hne8)) hA1 (by omega) 1 (.slice (some ⟨g, 0, none⟩) (qs.length + 1) cap))
        all_goals clear hZ8
        all_goals go_wp2_with fail
        all_goals go_meet
        all_goals exact ⟨_, HR8x, HZ9⟩
       case rest =>
        obtain ⟨vt', HTR9, HZ9⟩ := hcut
        obtain ⟨w9, rfl⟩ : ∃ w9, w9 = wc := ⟨_, rfl⟩
        have hcl : b.codes.length ≤ 20 := by rw [(unhide HOKB).codes]; omega
        obtain ⟨ca9, cc9, e2, _, _⟩ := ntRow_at (unhide HTR9).rc
        subst e2
        have HRC9 := hide (unhide HTR9).rc
        have b1 := (unhide HTR9).box.2.1 2 _ rfl
        have bz := (unhide HTR9).box.2.2
        have bl := (unhide HTR9).box.1
        have hg9 : w9.cell? ⟨0, 0, none⟩ = some (.iface 273 (.agg #[.pointer (some ⟨4, 98, none⟩)])) := ((unhide HZ9).bel.cell (p := ⟨0, 0, none⟩) (by
         rcases Nat.eq_zero_or_pos w.heap.size with h0 | h
         ·simp [World.cell?, h0] at hg
         ·exact h)).trans hg
        have hw09 : 0 < w9.heap.size := by omega
        have HG9 := hide hg9
        have hfld : ∀ (W' : World), (Instr.field 102 (.agg #[.int .i64 code, .int .i64 joint]) 0).run Tryz.prog W' = .ok (.int .i64 code) W' := fun W' => by kernel_rfl
        obtain ⟨i2, hj2, hx0, hx1, hx2⟩ := info_parts info_Int
        obtain ⟨cs, hcs⟩ : ∃ cs, b.codes = cs := ⟨_, rfl⟩
        rw [hcs] at HRC9 b1 hcl HTR9
        have HCS := hide hcs
        clear hg9 x0 xl a1 az al hTl hMl6 HTR6 HZ6 HQV HQE HQM HQT HQL HGB HTy6 HMV HL HT HTRC HTWC HLC HMC HCT HCB HBWC HR8C HR8TC HMOVE hcs hj1 hy0 hy1 hy2
        go_wp2_with fail
        go_cut [16] (fun _ wx => ∃ vc2 : Value, Hid (TkR True wx A (b.ts.take i ++ [t']) (cs ++ [code]) b.fars b.strikes vt' vc2 vf vk) ∧ Hid (TkZ w w1 W n ka ksh kst kca kcsh kcst Mp (N' + 2000) (.slice (some ⟨mb, moff, none⟩) ms.length mcap) ms (b.ts.set i t') (i + 1) (20 + i + 1) C M Q (w.heap.size + 1) wC.heap.size oa oc sx m.far wx))
        case first =>
         go_region_law (first
          | (go_simp; go_at_call 44; refine (haltOf_any code joint (runIs_code (unhide HRUN)) _ ((((bw0 : Below w9.heap.size w9 _).cell (p := ⟨0, 0, none⟩) hw09)).trans (unhide HG9))).mono ?_; rintro e w10 ⟨rfl, hb10⟩; dsimp only; have b10 := (((bw0 : Below w9.heap.size w9 _).trans (hb10.mono (bw0 : Below w9.heap.size w9 _).size)).cell (p := ⟨A, 2, none⟩) bl).trans b1; have bl10 : A < w10.heap.size := Nat.lt_of_lt_of_le bl ((bw0 : Below w9.heap.size w9 _).trans (hb10.mono (bw0 : Below w9.heap.size w9 _).size)).size)
          | (refine step_append_lies _ rfl (.tmp 74) (.tmp 78) 26 rfl (A + 1) 3 i2 (.int .i64 0) 1 8 Tryz.underlying26 hj2 hx0 hx1 hx2 rfl (by decide) (.slice ca9 cs.length cc9) cs.length (cs.flatMap ntF) (by simp [Act.eval]) ((unhide HRC9).below (below_then (below_then bw0 hb10) bw0)) _ 1 1 (ntF code) (by simp [Act.eval]) rfl (nt_news (boxed_alloc _ _ _)) (nt_one _) (by omega) (by unfold maxLen; omega) (by omega) (by have := hb10.size; simp at this ⊢; omega) _ rfl ?_; intro g cap w11 hown hgrow hat hlt11; have hne11 : some A ≠ (Value.slice ca9 cs.length cc9).ownBlock := (fun hc => (by have := ((unhide HRC9).lt _ hc.symm).1; omega)); have hA11 := boxed_grown' hgrow ((unhide HTR9).box.below (below_then (below_then bw0 hb10) bw0)) hne11; have d2 := hA11.2.1 2 _ rfl; have dz := hA11.2.2; have dl := hA11.1))
         all_goals have hbX := (below_then (below_then (show Below w9.heap.size w9 _ from bw0) hb10) (show Below w10.heap.size w10 (w10.alloc (.cells #[.int .i64 code] 3)) from bw0))
         all_goals have HR11 := hide (TkR.addC (g := g) ((unhide HTR9).below hbX) hgrow (Row.snoc hown) rfl (by first | exact hat | (rcases hat with h | h; exact Or.inl h; exact Or.inr (Nat.le_of_eq h.symm))))
         all_goals have hZ11 := ((unhide HZ9).below hbX).grown hgrow (fun k hk => ⟨Nat.le_trans (Nat.le_trans hA1 (Nat.le_succ A)) ((unhide HRC9).lt k hk).1, 3, ((unhide HRC9).below hbX).ty hk, Or.inr (Or.inl rfl)⟩)
         all_goals have HZ12 := hide (hZ11.set (((unhide HTR9).ty.below hbX).same (hgrow.block A (Nat.lt_of_lt_of_le bl hbX.size) hne11)) hA1 (by omega) 2 (.slice (some ⟨g, 0, none⟩) (cs.length + 1) cap))
         all_goals clear hZ11
         all_goals go_wp2_with fail
         all_goals go_meet
         all_goals exact ⟨_, HR11, HZ12⟩
        case rest =>
         obtain ⟨vc2, HTR12, HZ12⟩ := hcut
         obtain ⟨w12, rfl⟩ : ∃ w12, w12 = wc := ⟨_, rfl⟩
         have hfl : b.fars.length ≤ 20 := by rw [(unhide HOKB).fars]; omega
         obtain ⟨fa9, fc9, e3, _, _⟩ := ntRow_at (unhide HTR12).rf
         subst e3
         obtain ⟨fs, hfs⟩ : ∃ fs, b.fars = fs := ⟨_, rfl⟩
         rw [hfs] at HTR12 hfl
         have HFS := hide hfs
         have HRF := hide (unhide HTR12).rf
         have e3 := (unhide HTR12).box.2.1 3 _ rfl
         have ez := (unhide HTR12).box.2.2
         have el := (unhide HTR12).box.1
         have q1 := (unhide HZ12).qb.2.1 1 _ rfl
         have ql := (unhide HZ12).qb.1
         have hne13 : some A ≠ (Value.slice fa9 fs.length fc9).ownBlock := fun hc => by have := ((unhide HRF).lt _ hc.symm).1; omega
         clear b1 bz bl hw09 HG9 hfld HRC9 HTR9 HZ9 hfs
         go_wp2_with (at_builtin; refine wpList_append_lies _ rfl (.tmp 82) (.tmp 85) 26 rfl (A + 1) 3 i2 (.int .i64 0) 1 8 Tryz.underlying26 hj2 hx0 hx1 hx2 rfl (by decide) _ fs.length (fs.flatMap ntF) rfl ((unhide HRF).below bw0) ⟨w12.heap.size, 0, none⟩ 1 1 (ntF m.far) rfl rfl (nt_news (boxed_alloc _ _ _)) (nt_one _) (by omega) (by unfold maxLen; omega) (by omega) (by first | omega | (simp; omega)) _ rfl ?_)
         intro g cap w13 hown hgrow hat hlt13
         have hbX : Below w12.heap.size w12 (w12.alloc (.cells #[.int .i64 m.far] 3)) := bw0
         have hA13 := boxed_grown' hgrow ((unhide HTR12).box.below hbX) hne13
         have d3 := hA13.2.1 3 _ rfl
         have dz := hA13.2.2
         have dl := hA13.1
         have HTR13 := hide (TkR.addF (g := g) ((unhide HTR12).below hbX) hgrow (Row.snoc hown) rfl (by rcases hat with h | h; exact Or.inl h; exact Or.inr (by simp; omega)))
         have hZ13 := ((unhide HZ12).below hbX).grown hgrow (fun k hk => ⟨Nat.le_trans (Nat.le_trans hA1 (Nat.le_succ A)) ((unhide HRF).lt k hk).1, 3, ((unhide HRF).below hbX).ty hk, Or.inr (Or.inl rfl)⟩)
         have HZ14 := hide (hZ13.set (((unhide HTR12).ty.below hbX).same (hgrow.block A (Nat.lt_of_lt_of_le el hbX.size) hne13)) hA1 (by omega) 3 (.slice (some ⟨g, 0, none⟩) (fs.length + 1) cap))
         clear hZ13 hbX hgrow hown hat hA13 HZ12 HTR12 HRF e3 ez el q1 ql
         go_wp2_with fail
         clear d3 dz dl hne13 hlt13
         generalize w13.setCell ⟨A, 3, none⟩ (.slice (some ⟨g, 0, none⟩) (fs.length + 1) cap) = w14 at HTR13 HZ14 ⊢
         have hZ := unhide HZ14
         have hib : i < b.ts.length := by rw [(unhide HOKB).len]; have := unhide HLEN; omega
         have hMv : MvG w14 w1.heap.size n (.slice ka n.pieces.length kca) (.slice ksh n.joints.length kcsh) (.slice kst n.pieces.length kcst) M i t' := by
          have h := hZ.tw.mvs i hlt
          rw [unhide HME, trAt_set hib, if_pos rfl] at h
          exact h
         obtain ⟨cvv, m13, hcov⟩ := hMv.cov
         obtain ⟨pa, pc, hcv, _, _⟩ := ptRow_at hcov
         subst hcv
         have hG := netGood (unhide HOK).1
         have hfit' : TrainFits n t' := by rw [← unhide HTE']; exact run_fits (unhide HTR0) (unhide HLF) hF.1 (unhide HRUN)
         have hbpl := bodyParts_len hG hfit'
         have hbpf := (body_fits ⟨(unhide HOK).1, hfit'⟩).1.1
         obtain ⟨bp, hbp⟩ : ∃ bp, bodyParts n t' = bp := ⟨_, rfl⟩
         rw [hbp] at m13 hcov hbpl hbpf
         have HBP := hide hbp
         have HCOV := hide hcov
         have HBPF := hide hbpf
         have HFIT := hide hfit'
         obtain ⟨ov, hov⟩ : ∃ ov, partsL n sx = ov := ⟨_, rfl⟩
         have hovl : ov.length ≤ 10001 := by rw [← hov]; exact Nat.le_trans (partsL_len n sx) hfew
         have HOVP := hide (show ∀ p ∈ ov, 0 ≤ p.piece ∧ p.piece < n.pieces.length by rw [← hov]; exact partsL_piece (unhide HOKS))
         have HOV := hide hov
         have HMT := hide hMv.ty
         have c0 := hZ.tw.c0
         have c1 := hZ.tw.c1
         have c2 := hZ.tw.c2
         have cq := hZ.qb.2.1 0 _ rfl
         have cx := hZ.cb.2.1 0 _ rfl
         have lW := hZ.tw.ty.lt
         have lC := hZ.cb.1
         have lQ := hZ.qb.1
         have lM := hMv.ty.lt
         have HS : Hid (∀ wx, Below w14.heap.size w14 wx → (fun w' => w'.cell? ⟨C, 0, none⟩ = some (.pointer (some ⟨M, 0, none⟩)) ∧ w'.cell? ⟨M, 413, none⟩ = some (.slice pa bp.length pc) ∧ w'.cell? ⟨W, 0, none⟩ = some (.slice ka n.pieces.length kca) ∧ w'.cell? ⟨W, 1, none⟩ = some (.slice ksh n.joints.length kcsh) ∧ w'.cell? ⟨W, 2, none⟩ = some (.slice kst n.pieces.length kcst) ∧ w'.cell? ⟨Q, 0, none⟩ = some (.slice oa sx.length oc)) wx) := fun wx hb => ⟨(hb.cell (p := ⟨C, 0, none⟩) lC).trans cx, (hb.cell (p := ⟨M, 413, none⟩) lM).trans m13, (hb.cell (p := ⟨W, 0, none⟩) lW).trans c0, (hb.cell (p := ⟨W, 1, none⟩) lW).trans c1, (hb.cell (p := ⟨W, 2, none⟩) lW).trans c2, (hb.cell (p := ⟨Q, 0, none⟩) lQ).trans cq⟩
         clear hbp hov hcov hMv hZ hbpf hfit'
         refine wp_region_held_drew (S := fun w' => w'.cell? ⟨C, 0, none⟩ = some (.pointer (some ⟨M, 0, none⟩)) ∧ w'.cell? ⟨M, 413, none⟩ = some (.slice pa bp.length pc) ∧ w'.cell? ⟨W, 0, none⟩ = some (.slice ka n.pieces.length kca) ∧ w'.cell? ⟨W, 1, none⟩ = some (.slice ksh n.joints.length kcsh) ∧ w'.cell? ⟨W, 2, none⟩ = some (.slice kst n.pieces.length kcst) ∧ w'.cell? ⟨Q, 0, none⟩ = some (.slice oa sx.length oc)) (by kernel_rfl) ?_ (fun hHeld => ?_)
         ·exact unhide HS _ (bw0 : Below w14.heap.size w14 w14.drew)
         refine wpAnyH_take (i := 0) (v := ?vc1) rfl (by kernel_rfl) (by kernel_rfl) (by kernel_rfl) (fun _ _ _ h => h) (Or.inl ⟨by rfl, ?yc1⟩) (by assumption) ?rc1
         case yc1 => (intro w0 hSw; (try dsimp only at hSw); go_simp; (try with_reducible rfl))
         (try simp only [Act.put, List.getElem_toArray, List.getElem_cons_zero, List.getElem_cons_succ, List.setIfInBounds_toArray, List.set_cons_zero, List.set_cons_succ])
         refine wpAnyH_take (i := 1) (v := ?vc2) rfl (by kernel_rfl) (by kernel_rfl) (by kernel_rfl) (fun _ _ _ h => h) (Or.inl ⟨by rfl, ?yc2⟩) (by assumption) ?rc2
         case yc2 => (intro w0 hSw; (try dsimp only at hSw); go_simp; (try with_reducible rfl))
         (try simp only [Act.put, List.getElem_toArray, List.getElem_cons_zero, List.getElem_cons_succ, List.setIfInBounds_toArray, List.set_cons_zero, List.set_cons_succ])
         refine wpAnyH_take (i := 2) (v := ?vc3) rfl (by kernel_rfl) (by kernel_rfl) (by kernel_rfl) (fun _ _ _ h => h) (Or.inl ⟨by rfl, ?yc3⟩) (by assumption) ?rc3
         case yc3 => (intro w0 hSw; (try dsimp only at hSw); go_simp; (try with_reducible rfl))
         (try simp only [Act.put, List.getElem_toArray, List.getElem_cons_zero, List.getElem_cons_succ, List.setIfInBounds_toArray, List.set_cons_zero, List.set_cons_succ])
         refine wpAnyH_take (i := 3) (v := ?vc4) rfl (by kernel_rfl) (by kernel_rfl) (by kernel_rfl) (fun _ _ _ h => h) (Or.inl ⟨by rfl, ?yc4⟩) (by assumption) ?rc4
         case yc4 => (intro w0 hSw; (try dsimp only at hSw); go_simp; (try with_reducible rfl))
         (try simp only [Act.put, List.getElem_toArray, List.getElem_cons_zero, List.getElem_cons_succ, List.setIfInBounds_toArray, List.set_cons_zero, List.set_cons_succ])
         refine wpAnyH_take (i := 4) (v := ?vc5) rfl (by kernel_rfl) (by kernel_rfl) (by kernel_rfl) (fun _ _ _ h => h) (Or.inl ⟨by rfl, ?yc5⟩) (by assumption) ?rc5
         case yc5 => (intro w0 hSw; (try dsimp only at hSw); go_simp; (try with_reducible rfl))
         (try simp only [Act.put, List.getElem_toArray, List.getElem_cons_zero, List.getElem_cons_succ, List.setIfInBounds_toArray, List.set_cons_zero, List.set_cons_succ])
         refine wpAnyH_take (i := 5) (v := ?vc6) rfl (by kernel_rfl) (by kernel_rfl) (by kernel_rfl) (fun _ _ _ h => h) (Or.inl ⟨by rfl, ?yc6⟩) (by assumption) ?rc6
         case yc6 => (intro w0 hSw; (try dsimp only at hSw); go_simp; (try with_reducible rfl))
         (try simp only [Act.put, List.getElem_toArray, List.getElem_cons_zero, List.getElem_cons_succ, List.setIfInBounds_toArray, List.set_cons_zero, List.set_cons_succ])
         refine wpAnyH_take (i := 6) (v := ?vc7) rfl (by kernel_rfl) (by kernel_rfl) (by kernel_rfl) (fun _ _ _ h => h) (Or.inl ⟨by rfl, ?yc7⟩) (by assumption) ?rc7
         case yc7 => (intro w0 hSw; (try dsimp only at hSw); go_simp; (try with_reducible rfl))
         (try simp only [Act.put, List.getElem_toArray, List.getElem_cons_zero, List.getElem_cons_succ, List.setIfInBounds_toArray, List.set_cons_zero, List.set_cons_succ])
         refine wpAnyH_take (i := 7) (v := ?vc8) rfl (by kernel_rfl) (by kernel_rfl) (by kernel_rfl) (fun _ _ _ h => h) (Or.inl ⟨by rfl, ?yc8⟩) (by assumption) ?rc8
         case yc8 => (intro w0 hSw; (try dsimp only at hSw); go_simp; (try with_reducible rfl))
         (try simp only [Act.put, List.getElem_toArray, List.getElem_cons_zero, List.getElem_cons_succ, List.setIfInBounds_toArray, List.set_cons_zero, List.set_cons_succ])
         refine wpAnyH_take (i := 8) (v := ?vc9) rfl (by kernel_rfl) (by kernel_rfl) (by kernel_rfl) (fun _ _ _ h => h) (Or.inl ⟨by rfl, ?yc9⟩) (by assumption) ?rc9
         case yc9 => (intro w0 hSw; (try dsimp only at hSw); go_simp; (try with_reducible rfl))
         (try simp only [Act.put, List.getElem_toArray, List.getElem_cons_zero, List.getElem_cons_succ, List.setIfInBounds_toArray, List.set_cons_zero, List.set_cons_succ])
         refine wpAnyH_take (i := 9) (v := ?vc10) rfl (by kernel_rfl) (by kernel_rfl) (by kernel_rfl) (fun _ _ _ h => h) (Or.inl ⟨by rfl, ?yc10⟩) (by assumption) ?rc10
         case yc10 => (intro w0 hSw; (try dsimp only at hSw); go_simp; (try with_reducible rfl))
         (try simp only [Act.put, List.getElem_toArray, List.getElem_cons_zero, List.getElem_cons_succ, List.setIfInBounds_toArray, List.set_cons_zero, List.set_cons_succ])
         refine wpAnyH_take (i := 10) (v := ?vc11) rfl (by kernel_rfl) (by kernel_rfl) (by kernel_rfl) (fun _ _ _ h => h) (Or.inl ⟨by rfl, ?yc11⟩) (by assumption) ?rc11
         case yc11 => (intro w0 hSw; (try dsimp only at hSw); go_simp; (try with_reducible rfl))
         (try simp only [Act.put, List.getElem_toArray, List.getElem_cons_zero, List.getElem_cons_succ, List.setIfInBounds_toArray, List.set_cons_zero, List.set_cons_succ])
         refine wpAnyH_take (i := 14) (v := ?vc12) rfl (by kernel_rfl) (by kernel_rfl) (by kernel_rfl) (fun _ _ _ h => h) (Or.inl ⟨by rfl, ?yc12⟩) (by assumption) ?rc12
         case yc12 => (intro w0 hSw; (try dsimp only at hSw); go_simp; (try with_reducible rfl))
         (try simp only [Act.put, List.getElem_toArray, List.getElem_cons_zero, List.getElem_cons_succ, List.setIfInBounds_toArray, List.set_cons_zero, List.set_cons_succ])
         refine wpAnyH_ready (rs := [11]) (by kernel_rfl) (by simp) ?_
         refine (AllReadyH.cons rfl (fun K hK => ?_) AllReadyH.nil)
         go_simp
         have hbD : Below w14.heap.size w14 w14.drew := bw0
         refine (kpartsOf_any _ n oa oc sx _ (((unhide HZ14).tw.trk.below (unhide HZ14).tw.bel).below hbD) ((sxRow_at0 (unhide HZ14).row).below hbD) hG (unhide HOKS) (by omega)).mono ?_
         rintro e w15 ⟨u, rfl, hu, hb15⟩
         rw [unhide HOV] at hu
         obtain ⟨qa, qc, hue, _, _⟩ := ptRow_at hu
         subst hue
         have hbw15 : Below w14.heap.size w14 w15 := below_then hbD hb15
         have HU := hide hu
         clear hu hb15 hbD
         dsimp only
         refine hK.out _ _ (unhide HS _ hbw15) (fun hHeld => ?_)
         clear hK K
         (try simp only [Act.put, List.getElem_toArray, List.getElem_cons_zero, List.getElem_cons_succ, List.setIfInBounds_toArray, List.set_cons_zero, List.set_cons_succ])
         refine wpAnyH_ready (rs := [12]) (by kernel_rfl) (by simp) ?_
         refine (AllReadyH.cons rfl (fun K hK => ?_) AllReadyH.nil)
         go_simp
         have hb16 : Below w15.heap.size w15 (w15.alloc (.cells #[.slice pa bp.length pc, .slice qa ov.length qc] 38)) := bw0
         refine hK.out _ _ (unhide HS _ (below_then hbw15 hb16)) (fun hHeld => ?_)
         clear hK K
         (try simp only [Act.put, List.getElem_toArray, List.getElem_cons_zero, List.getElem_cons_succ, List.setIfInBounds_toArray, List.set_cons_zero, List.set_cons_succ])
         refine wpAnyH_ready (rs := [13]) (by kernel_rfl) (by simp) ?_
         refine (AllReadyH.cons rfl (fun K hK => ?_) AllReadyH.nil)
         go_simp
         refine (concatP_any w15.heap.size pa qa pc qc bp ov _ (boxed_alloc _ _ _) (((unhide HCOV).below hbw15).below hb16) ((unhide HU).below hb16) (by omega)).mono ?_
         rintro e w17 ⟨v3, rfl, hv3, hb17⟩
         obtain ⟨ps, hps⟩ : ∃ ps, bp ++ ov = ps := ⟨_, rfl⟩
         have hpsl : ps.length ≤ 20000 := by rw [← hps, List.length_append]; omega
         rw [hps] at hv3
         have HPS := hide hps
         clear hps
         obtain ⟨ra, rc, hve, _, _⟩ := ptRow_at hv3
         subst hve
         have hbw17 := below_then (below_then hbw15 hb16) hb17
         have HV3 := hide hv3
         clear hv3 hb16 hbw15 hb17
         dsimp only
         refine hK.out _ _ (unhide HS _ hbw17) (fun hHeld => ?_)
         clear hK K
         (try simp only [Act.put, List.getElem_toArray, List.getElem_cons_zero, List.getElem_cons_succ, List.setIfInBounds_toArray, List.set_cons_zero, List.set_cons_succ])
         refine wpAnyH_ready (rs := [15]) (by kernel_rfl) (by simp) ?_
         refine (AllReadyH.cons rfl (fun K hK => ?_) AllReadyH.nil)
         go_simp
         have hZ17 := (unhide HZ14).below hbw17
         have hT17 := (unhide HTR13).below hbw17
         have hM17 := (unhide HMT).below hbw17
         have hS17 := unhide HS _ hbw17
         have hfits : ∀ y ∈ b.ts.set i t', TrainFits n y := fun y hy => by
          rcases List.mem_or_eq_of_mem_set hy with h | h
          ·exact (unhide HOKB).fits y h
          ·rw [h]; exact unhide HFIT
         refine (strikes_any w17 w1 W n ka ksh kst kca kcsh kcst Mp (N' + 2000) _ ms (b.ts.set i t') i _ A C M _ _ _ b.strikes vt' vc2 _ vk ra rc ps hZ17.tw hT17 hZ17.cb hZ17.ct hlt (unhide HME) hG hfits hm20 (by omega) (by omega) (unhide HV3) (by omega) ?pp).mono ?_
         case pp =>
          intro x hx
          rw [← unhide HPS] at hx
          rcases List.mem_append.1 hx with h | h
          ·exact (unhide HBPF x h).1
          ·exact unhide HOVP x h
         rintro e w18 ⟨⟨vr, rfl⟩, u, hB18, hty18, hrow18, hT18⟩
         rw [← unhide HPS] at hrow18
         have HTR18 := hide (hT17.struck hT18 hB18 hty18 hrow18)
         have hZ18 := hZ17.struck hT18 hT17.ty hA1 (by omega)
         have HZ18 := hide hZ18
         have bM : w18.heap[M]? = w17.heap[M]? := hT18.block M hM17.lt (by
          rintro (e | ⟨_, e⟩)
          ·rw [e] at hM17
           exact absurd (hT17.ty.unique hM17) (by decide)
          ·exact absurd (hM17.unique e) (by decide))
         have hS18 : (fun w' => w'.cell? ⟨C, 0, none⟩ = some (.pointer (some ⟨M, 0, none⟩)) ∧ w'.cell? ⟨M, 413, none⟩ = some (.slice pa bp.length pc) ∧ w'.cell? ⟨W, 0, none⟩ = some (.slice ka n.pieces.length kca) ∧ w'.cell? ⟨W, 1, none⟩ = some (.slice ksh n.joints.length kcsh) ∧ w'.cell? ⟨W, 2, none⟩ = some (.slice kst n.pieces.length kcst) ∧ w'.cell? ⟨Q, 0, none⟩ = some (.slice oa sx.length oc)) w18 := ⟨hZ18.cb.2.1 0 _ rfl, (World.cell?_of_block (w := w17) (a := ⟨M, 413, none⟩) bM).trans hS17.2.1, hZ18.tw.c0, hZ18.tw.c1, hZ18.tw.c2, hZ18.qb.2.1 0 _ rfl⟩
         clear hZ17 hT17 hM17 hS17 hfits hB18 hty18 hrow18 hT18 bM hZ18
         dsimp only
         refine hK.out _ _ hS18 (fun hHeld => ?_)
         clear hK K
         (try simp only [Act.put, List.getElem_toArray, List.getElem_cons_zero, List.getElem_cons_succ, List.setIfInBounds_toArray, List.set_cons_zero, List.set_cons_succ])
         refine wpAnyH_done (by kernel_rfl) ?_ _

         have hlen := unhide HLEN
         have hoklen := (unhide HOKB).len
         have hTO2 : TickTo n zs ts vs (i + 1) ⟨b.ts.set i t', cs ++ [code], fs ++ [m.far], b.strikes ++ strikesOf n i m.over (b.ts.set i t')⟩ := by
          refine TickTo.succ (unhide HTO) (by omega) ⟨m, code, joint, ?_, ?_⟩
          ·rw [unhide HTE, unhide HFD]
           exact unhide HRUN
          ·rw [unhide HTE, unhide HTE', unhide HCS, unhide HFS]
         have hstr := strikesOf_eq (n := n) (over := m.over) (m := ms.length) hib (unhide HBP) (by omega)
         have hovr := unhide HOVER
         rw [unhide HOV] at hovr
         rw [← hovr] at hstr hTO2
         have hTR18 := unhide HTR18
         rw [← hstr, ← take_set_succ hib] at hTR18
         have HTO2 := hide hTO2
         have HTR19 := hide hTR18
         have hsl : (strikesOf n i ov (b.ts.set i t')).length ≤ 20 := by
          rw [hstr]
          exact Nat.le_trans (strL_len _ _) (Nat.le_trans (List.length_filter_le _ _) (by simp; omega))
         clear hTO2 hTR18 hstr hovr hlen hoklen c0 c1 c2 cq cx m13
         go_wp2_with fail
         refine ⟨⟨i + 1, ⟨b.ts.set i t', cs ++ [code], fs ++ [m.far], b.strikes ++ strikesOf n i ov (b.ts.set i t')⟩, N' + 2000, _, _, _, _, by omega, by go_num, HTO2, hide (unhide HZ18).tw, by omega, by simp only [List.length_append]; omega, HTR19, hide (unhide HZ18).r8, hide (unhide HZ18).r8t, hide (unhide HZ18).bel⟩, by simp [intOf]; omega⟩
     ·have hlt' : ¬ (i : Int) < (ms.length : Int) := by omega
      obtain rfl : i = ms.length := by omega
      have hok := (unhide HTO).ok (unhide HGOOD)
      have htk : b.ts.take ms.length = b.ts := List.take_of_length_le (by rw [hok.len, unhide HLEN]; exact Nat.le_refl _)
      have hTR := unhide HTR
      rw [htk] at hTR
      have a0 := hTR.box.2.1 0 _ rfl
      have a1 := hTR.box.2.1 1 _ rfl
      have a2 := hTR.box.2.1 2 _ rfl
      have a3 := hTR.box.2.1 3 _ rfl
      have a4 := hTR.box.2.1 4 _ rfl
      have al := hTR.box.1
      obtain ⟨ta', tc', e1, _⟩ := tnRow_at hTR.rt.row
      obtain ⟨ca', cc', e2, _⟩ := ntRow_at hTR.rc
      obtain ⟨fa', fc', e3, _⟩ := ntRow_at hTR.rf
      obtain ⟨ka', kc', e4, _⟩ := hTR.rk.shape skF_len
      subst e1 e2 e3 e4
      have hR8 := unhide HR8
      have r0 := hR8.2.1 0 _ rfl
      have r1 := hR8.2.1 1 _ rfl
      have r2 := hR8.2.1 2 _ rfl
      have r3 := hR8.2.1 3 _ rfl
      have r4 := hR8.2.1 4 _ rfl
      have rz := hR8.2.2
      have rl := hR8.1
      have HTR2 := hide hTR
      clear hTR htk hok HTR hR8
      go_wp2_with fail
      have hFin := ((((((unhide HR8).setAt (i := 0) (by simp) (.bool true)).setAt (i := 1) (by simp) (.slice ta' b.ts.length tc')).setAt (i := 2) (by simp) (.slice ca' b.codes.length cc')).setAt (i := 3) (by simp) (.slice fa' b.fars.length fc')).setAt (i := 4) (by simp) (.slice ka' b.strikes.length kc'))
      have hOF := (((((only_setCell (S := fun k => k = w.heap.size + 1) wr (p := ⟨w.heap.size + 1, 0, none⟩) rfl (.bool true)).trans (only_setCell (S := fun k => k = w.heap.size + 1) _ (p := ⟨w.heap.size + 1, 1, none⟩) rfl (.slice ta' b.ts.length tc'))).trans (only_setCell (S := fun k => k = w.heap.size + 1) _ (p := ⟨w.heap.size + 1, 2, none⟩) rfl (.slice ca' b.codes.length cc'))).trans (only_setCell (S := fun k => k = w.heap.size + 1) _ (p := ⟨w.heap.size + 1, 3, none⟩) rfl (.slice fa' b.fars.length fc'))).trans (only_setCell (S := fun k => k = w.heap.size + 1) _ (p := ⟨w.heap.size + 1, 4, none⟩) rfl (.slice ka' b.strikes.length kc')))
      have f0 := hFin.2.1 0 _ rfl
      have f1 := hFin.2.1 1 _ rfl
      have f2 := hFin.2.1 2 _ rfl
      have f3 := hFin.2.1 3 _ rfl
      have f4 := hFin.2.1 4 _ rfl
      have hTR := unhide HTR2
      have hsame : ∀ k, A + 1 ≤ k → k < wr.heap.size → _ := fun k hk hkl => hOF.block k hkl (by omega)
      have hTO := unhide HTO
      rw [unhide HLEN] at hTO
      have hbF := below_then (unhide HBW) (show Below wr.heap.size wr wr from Below.refl _ _)
      refine bodyPost_ret (v := .agg #[.bool true, .slice ta' b.ts.length tc', .slice ca' b.codes.length cc', .slice fa' b.fars.length fc', .slice ka' b.strikes.length kc']) (by simp [results, Tryz.results25, go_sem, f0, f1, f2, f3, f4]) rfl ⟨⟨true, b, _, _, _, _, Or.inl ⟨unhide HGOOD, rfl, hTO⟩, rfl, (hTR.rt.blocks hsame).mono (by omega), ?_, ?_, hTR.dis, ?_⟩, hbF.trans (hOF.below (by have := hbF.size; omega) (fun k hk e => by omega))⟩
      ·exact (hTR.rc.block fun k hk => hsame k (hTR.rc.lt k hk).1 (hTR.rc.lt k hk).2).mono (by omega)
      ·exact (hTR.rf.block fun k hk => hsame k (hTR.rf.lt k hk).1 (hTR.rf.lt k hk).2).mono (by omega)
      ·exact (hTR.rk.block fun k hk => hsame k (hTR.rk.lt k hk).1 (hTR.rk.lt k hk).2).mono (by omega)
   ·have hw : w4 = w3 := hw4
    subst hw
    have r0 := hR3.2.1 0 _ rfl
    have r1 := hR3.2.1 1 _ rfl
    have r2 := hR3.2.1 2 _ rfl
    have r3 := hR3.2.1 3 _ rfl
    have r4 := hR3.2.1 4 _ rfl
    have rz := hR3.2.2
    have rl := hR3.1
    have hbw := hbw3
    go_wp2_with fail
    have hFin := (((((hR3.setAt (i := 0) (by simp) (.bool false)).setAt (i := 1) (by simp) (.slice none 0 0)).setAt (i := 2) (by simp) (.slice none 0 0)).setAt (i := 3) (by simp) (.slice none 0 0)).setAt (i := 4) (by simp) (.slice none 0 0))
    have f0 := hFin.2.1 0 _ rfl
    have f1 := hFin.2.1 1 _ rfl
    have f2 := hFin.2.1 2 _ rfl
    have f3 := hFin.2.1 3 _ rfl
    have f4 := hFin.2.1 4 _ rfl
    exact bodyPost_ret (v := .agg #[.bool false, .slice none 0 0, .slice none 0 0, .slice none 0 0, .slice none 0 0]) (by simp [results, Tryz.results25, go_sem, f0, f1, f2, f3, f4]) rfl ⟨tickRet_no (fun h => hsp h.2.2), (bw1 hbw)⟩
  ·have hR3 := hR2.below hb3
   have r0 := hR3.2.1 0 _ rfl
   have r1 := hR3.2.1 1 _ rfl
   have r2 := hR3.2.1 2 _ rfl
   have r3 := hR3.2.1 3 _ rfl
   have r4 := hR3.2.1 4 _ rfl
   have rz := hR3.2.2
   have rl := hR3.1
   have hbw := below_then (unhide HBW2) hb3
   go_wp2_with fail
   have hFin := (((((hR3.setAt (i := 0) (by simp) (.bool false)).setAt (i := 1) (by simp) (.slice none 0 0)).setAt (i := 2) (by simp) (.slice none 0 0)).setAt (i := 3) (by simp) (.slice none 0 0)).setAt (i := 4) (by simp) (.slice none 0 0))
   have f0 := hFin.2.1 0 _ rfl
   have f1 := hFin.2.1 1 _ rfl
   have f2 := hFin.2.1 2 _ rfl
   have f3 := hFin.2.1 3 _ rfl
   have f4 := hFin.2.1 4 _ rfl
   exact bodyPost_ret (v := .agg #[.bool false, .slice none 0 0, .slice none 0 0, .slice none 0 0, .slice none 0 0]) (by simp [results, Tryz.results25, go_sem, f0, f1, f2, f3, f4]) rfl ⟨tickRet_no (fun h => hlf h.2.1), (bw1 hbw)⟩
 ·have HR := hide (hR8.below hbB2)
  have hRl := (hR8.below hbB2).1
  have r0 := (hR8.below hbB2).2.1 0 _ rfl
  have r1 := (hR8.below hbB2).2.1 1 _ rfl
  have r2 := (hR8.below hbB2).2.1 2 _ rfl
  have r3 := (hR8.below hbB2).2.1 3 _ rfl
  have r4 := (hR8.below hbB2).2.1 4 _ rfl
  have rz := (hR8.below hbB2).2.2
  go_wp2_with fail
  have hbw := below_then hbB hbB2
  have hFin := ((((((unhide HR).setAt (i := 0) (by simp) (.bool false)).setAt (i := 1) (by simp) (.slice none 0 0)).setAt (i := 2) (by simp) (.slice none 0 0)).setAt (i := 3) (by simp) (.slice none 0 0)).setAt (i := 4) (by simp) (.slice none 0 0))
  have f0 := hFin.2.1 0 _ rfl
  have f1 := hFin.2.1 1 _ rfl
  have f2 := hFin.2.1 2 _ rfl
  have f3 := hFin.2.1 3 _ rfl
  have f4 := hFin.2.1 4 _ rfl
  exact bodyPost_ret (v := .agg #[.bool false, .slice none 0 0, .slice none 0 0, .slice none 0 0, .slice none 0 0]) (by simp [results, Tryz.results25, go_sem, f0, f1, f2, f3, f4]) rfl ⟨tickRet_no (fun h => hno h.1), (bw1 hbw)⟩

end Go.Proofs.YtbdggfpfpjijoabGreatDoor

