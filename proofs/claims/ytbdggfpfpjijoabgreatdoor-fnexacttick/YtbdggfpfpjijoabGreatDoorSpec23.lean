import Derived.Test.YtbdggfpfpjijoabGreatDoorMTq1
import Derived.Test.YtbdggfpfpjijoabGreatDoorMTk6
import Derived.Test.YtbdggfpfpjijoabGreatDoorSpec19
import Derived.Test.YtbdggfpfpjijoabGreatDoorMSpec22
set_option linter.unusedSimpArgs false
namespace Go.Proofs.YtbdggfpfpjijoabGreatDoor
open Go.RowKit

def TickRetS (n : Nt) (zs : List Int) (ts : List Tr) (vs : List Int) (base : Nat) (e : Ending) (w' : World) : Prop :=
 ∃ ok b vt vc vf vk, TickIs n zs ts vs ok b ∧ e = .returned (.agg #[.bool ok, vt, vc, vf, vk]) ∧ TnRow w' base vt b.ts ∧ NtRow w' base vc b.codes ∧ NtRow w' base vf b.fars ∧ SkRow w' base vk b.strikes
theorem tickRetS_no {n : Nt} {zs : List Int} {ts : List Tr} {vs : List Int} {base : Nat} {w' : World} (h : ¬ TickGood n zs ts vs) : TickRetS n zs ts vs base (.returned (.agg #[.bool false, .slice none 0 0, .slice none 0 0, .slice none 0 0, .slice none 0 0])) w' :=
 ⟨false, ⟨[], [], [], []⟩, _, _, _, _, Or.inr ⟨h, rfl, rfl⟩, rfl, tnRow_nil _ _, Row.nil _ _ _ _ _, Row.nil _ _ _ _ _, Row.nil _ _ _ _ _⟩
theorem st_zero (W : World) : StRow (W.alloc (.cells #[] 86)) W.heap.size (.slice (some ⟨W.heap.size, 0, none⟩) 0 0) [] :=
 ⟨rfl, Or.inr ⟨W.heap.size, 0, #[], rfl, Nat.le_refl _, Deep.blk_alloc_new W (.cells #[] 86), Nat.le_refl _, by unfold maxLen; omega, rfl, rfl⟩⟩
theorem touch_comm {x y : Pt} (h : Touch x y) : Touch y x := ⟨h.1.symm, h.2.2, h.2.1⟩
theorem touchL_comm {ps qs : List Pt} (h : TouchL ps qs) : TouchL qs ps := by
 obtain ⟨i, j, h1, h2, h3⟩ := h
 exact ⟨j, i, h2, h1, touch_comm h3⟩
theorem hits_or (ps qs cs : List Pt) : hits (ps ++ qs) cs = true ↔ TouchL qs cs ∨ TouchL ps cs := by
 have e : hits (ps ++ qs) cs = (hits ps cs || hits qs cs) := by simp [hits, List.any_append]
 rw [e, Bool.or_eq_true, ← touch_hits, ← touch_hits]
 exact ⟨fun h => h.symm.imp touchL_comm touchL_comm, fun h => h.symm.imp touchL_comm touchL_comm⟩
theorem strL_succ (i k : Nat) (P : Nat → Bool) : strL i ((List.range (k + 1)).filter P) = strL i ((List.range k).filter P) ++ (if k ≠ i ∧ P k = true then [((i : Int), (k : Int))] else []) := by
 rw [List.range_succ, List.filter_append]
 unfold strL
 rw [List.filter_append, List.map_append]
 congr 1
 by_cases h1 : P k = true <;> by_cases h2 : k = i <;> simp [h1, h2]

set_option maxRecDepth 100000 in
set_option maxHeartbeats 8000000 in
theorem specTick_any (v : Value) (n : Nt) (tq : Option Addr) (ts : List Tr) (tk : Nat) (zq : Option Addr) (zs : List Int) (zc : Nat) (vq : Option Addr) (vs : List Int) (vc : Nat) (w : World) {L L' L3 L4 : Nat} (hv : NetAt L w v n) (hts : TrsAt L' w tq ts) (hz : IntsAt L3 w zq zs) (hvs : IntsAt L4 w vq vs) (htl : ts.length ≤ 1048576) (hbl : ∀ t ∈ ts, t.back.length ≤ 1048576)
  (hl : n.pieces.length ≤ 1048576) (hl' : n.joints.length ≤ 1048576) (hle : ∀ i (h : i < n.joints.length), n.joints[i].ends.length ≤ 1048576 ∧ n.joints[i].name.size ≤ maxLen) (hnm : ∀ i (h : i < n.pieces.length), n.pieces[i].name.size ≤ maxLen) :
  Calls Tryz.prog 23 #[v, .slice zq zs.length zc, .slice tq ts.length tk, .slice vq vs.length vc] w fun e w' => TickRetS n zs ts vs w.heap.size e w' ∧ Below w.heap.size w w' := by
 have hvv := hv
 obtain ⟨x, c, ca, cc, rfl, hp, hj⟩ := hv
 have HV := hide hvv
 have HTS := hide hts
 have HZ := hide hz
 have HVS := hide hvs
 clear hvv hp hj hts hz hvs
 go_enter Tryz.func23, Tryz.ntmps23
 go_wp2_with fail
 obtain ⟨wB, hwB⟩ : ∃ wB, (w.alloc (.cells #[.slice x n.pieces.length ca, .slice c n.joints.length cc] 45)).alloc (.cells #[.bool false, .slice none 0 0, .slice none 0 0, .slice none 0 0, .slice none 0 0] 63) = wB := ⟨_, rfl⟩
 have hbB : Below w.heap.size w wB := by rw [← hwB]; exact bw0
 have hN0 : Boxed wB w.heap.size [.slice x n.pieces.length ca, .slice c n.joints.length cc] := by rw [← hwB]; exact (boxed_alloc _ _ _).alloc _
 have hR8 : Boxed wB (w.heap.size + 1) [.bool false, .slice none 0 0, .slice none 0 0, .slice none 0 0, .slice none 0 0] := by rw [← hwB]; exact boxedN _ _ _ (by simp)
 rw [hwB]
 refine (specLiesOk_any _ n zq zs zc wB ((unhide HV).below hbB) ((unhide HZ).below hbB) hl hl' hle hnm).mono ?_
 clear hwB
 rintro e w1 ⟨hR, hb1⟩
 have hbw1 := below_then hbB hb1
 have hN1 := hN0.below hb1
 have hR1 := hR8.below hb1
 clear hN0 hR8 hbB hb1
 rcases hR with ⟨rfl, hR⟩ | ⟨rfl, hR⟩
 rotate_left
 ·have HR : Hid (¬ TickGood n zs ts vs) := fun h => hR ⟨h.1.1, h.2.1⟩
  clear hR
  have r0 := hR1.2.1 0 _ rfl
  have r1 := hR1.2.1 1 _ rfl
  have r2 := hR1.2.1 2 _ rfl
  have r3 := hR1.2.1 3 _ rfl
  have r4 := hR1.2.1 4 _ rfl
  have rz := hR1.2.2
  have rl := hR1.1
  go_wp2_with fail
  have hFin := (((((hR1.setAt (i := 0) (by simp) (.bool false)).setAt (i := 1) (by simp) (.slice none 0 0)).setAt (i := 2) (by simp) (.slice none 0 0)).setAt (i := 3) (by simp) (.slice none 0 0)).setAt (i := 4) (by simp) (.slice none 0 0))
  have f0 := hFin.2.1 0 _ rfl
  have f1 := hFin.2.1 1 _ rfl
  have f2 := hFin.2.1 2 _ rfl
  have f3 := hFin.2.1 3 _ rfl
  have f4 := hFin.2.1 4 _ rfl
  exact bodyPost_ret (v := .agg #[.bool false, .slice none 0 0, .slice none 0 0, .slice none 0 0, .slice none 0 0]) (by simp [results, Tryz.results23, go_sem, f0, f1, f2, f3, f4]) rfl ⟨tickRetS_no (unhide HR), (bw1 hbw1)⟩
 have HLF := hide hR.2
 clear hR
 have q0 := hN1.2.1 0 _ rfl
 have q1 := hN1.2.1 1 _ rfl
 have nl := hN1.1
 go_wp2_with fail
 refine (l4good_any _ n tq ts tk _ ((unhide HV).below hbw1) ((unhide HTS).below hbw1) htl hbl hl hl' hle hnm).mono ?_
 rintro e w2 ⟨hR, hb2⟩
 have hbw2 := below_then hbw1 hb2
 have hN2 := hN1.below hb2
 have hR2 := hR1.below hb2
 clear hN1 hR1 hbw1 hb2 q0 q1 nl
 rcases hR with ⟨rfl, hR⟩ | ⟨rfl, hR⟩
 rotate_left
 ·have HR : Hid (¬ TickGood n zs ts vs) := fun h => hR h.1
  clear hR
  have r0 := hR2.2.1 0 _ rfl
  have r1 := hR2.2.1 1 _ rfl
  have r2 := hR2.2.1 2 _ rfl
  have r3 := hR2.2.1 3 _ rfl
  have r4 := hR2.2.1 4 _ rfl
  have rz := hR2.2.2
  have rl := hR2.1
  go_wp2_with fail
  have hFin := (((((hR2.setAt (i := 0) (by simp) (.bool false)).setAt (i := 1) (by simp) (.slice none 0 0)).setAt (i := 2) (by simp) (.slice none 0 0)).setAt (i := 3) (by simp) (.slice none 0 0)).setAt (i := 4) (by simp) (.slice none 0 0))
  have f0 := hFin.2.1 0 _ rfl
  have f1 := hFin.2.1 1 _ rfl
  have f2 := hFin.2.1 2 _ rfl
  have f3 := hFin.2.1 3 _ rfl
  have f4 := hFin.2.1 4 _ rfl
  exact bodyPost_ret (v := .agg #[.bool false, .slice none 0 0, .slice none 0 0, .slice none 0 0, .slice none 0 0]) (by simp [results, Tryz.results23, go_sem, f0, f1, f2, f3, f4]) rfl ⟨tickRetS_no (unhide HR), (bw1 hbw2)⟩
 have HOK := hide hR
 clear hR
 by_cases hvt : vs.length = ts.length
 rotate_left
 ·have hne : ¬ (vs.length : Int) = (ts.length : Int) := by omega
  have HR : Hid (¬ TickGood n zs ts vs) := fun h => hvt (by have := h.2.2.2; omega)
  have r0 := hR2.2.1 0 _ rfl
  have r1 := hR2.2.1 1 _ rfl
  have r2 := hR2.2.1 2 _ rfl
  have r3 := hR2.2.1 3 _ rfl
  have r4 := hR2.2.1 4 _ rfl
  have rz := hR2.2.2
  have rl := hR2.1
  clear hvt
  go_wp2_with fail
  have hFin := (((((hR2.setAt (i := 0) (by simp) (.bool false)).setAt (i := 1) (by simp) (.slice none 0 0)).setAt (i := 2) (by simp) (.slice none 0 0)).setAt (i := 3) (by simp) (.slice none 0 0)).setAt (i := 4) (by simp) (.slice none 0 0))
  have f0 := hFin.2.1 0 _ rfl
  have f1 := hFin.2.1 1 _ rfl
  have f2 := hFin.2.1 2 _ rfl
  have f3 := hFin.2.1 3 _ rfl
  have f4 := hFin.2.1 4 _ rfl
  exact bodyPost_ret (v := .agg #[.bool false, .slice none 0 0, .slice none 0 0, .slice none 0 0, .slice none 0 0]) (by simp [results, Tryz.results23, go_sem, f0, f1, f2, f3, f4]) rfl ⟨tickRetS_no (unhide HR), (bw1 hbw2)⟩
 have hbe : ((vs.length : Int) != (ts.length : Int)) = false := by simp [hvt]
 have hbe2 : ¬ (vs.length : Int) ≠ (ts.length : Int) := by omega
 have HVT := hide hvt
 clear hvt
 go_wp2_with fail
 go_loopw [39] (fun z wr => ∃ k : Nat, k ≤ vs.length ∧ z = .int .i64 k ∧ Hid (∀ j (h : j < vs.length), j < k → 0 ≤ vs[j] ∧ vs[j] ≤ 10000) ∧ Boxed wr w.heap.size [.slice x n.pieces.length ca, .slice c n.joints.length cc] ∧ Boxed wr (w.heap.size + 1) [.bool false, .slice none 0 0, .slice none 0 0, .slice none 0 0, .slice none 0 0] ∧ Below w.heap.size w wr) (fun z _ => vs.length - (intOf z).toNat)
 case atStart => exact ⟨0, Nat.zero_le _, rfl, hide fun j _ hj => by omega, hN2, hR2, hbw2⟩
 case round =>
  obtain ⟨k, hk, rfl, HSP, hN, hR, hb⟩ := hrel
  by_cases hlt : k < vs.length
  ·obtain ⟨vb, voff, hvq, hvb, cv⟩ := ((unhide HVS).below hb) k hlt
   subst hvq
   have hvb2 := hvb.2
   have hlt' : (k : Int) < (vs.length : Int) := by omega
   generalize hX : vs[k] = X at *
   have HX := hide hX
   clear hX
   by_cases h1 : 0 ≤ X ∧ X ≤ 10000
   ·have e1 := inB_true h1
    go_wp2_with fail
    refine (l1in_T _ _ _ _ e1).mono ?_
    rintro e w3 ⟨rfl, rfl⟩
    go_wp2_with fail
    refine ⟨⟨k + 1, by omega, by go_num, hide fun j hj hjk => ?_, hN, hR, hb⟩, by simp [intOf]; omega⟩
    by_cases e : j = k
    ·subst e; rw [unhide HX]; exact h1
    ·exact unhide HSP j hj (by omega)
   ·have e1 := inB_false h1
    have HR : Hid (¬ TickGood n zs ts vs) := fun h => h1 (by rw [← unhide HX]; exact h.2.2.1 _ (List.getElem_mem _))
    go_wp2_with fail
    refine (l1in_F _ _ _ _ e1).mono ?_
    rintro e w3 ⟨rfl, rfl⟩
    have r0 := hR.2.1 0 _ rfl
    have r1 := hR.2.1 1 _ rfl
    have r2 := hR.2.1 2 _ rfl
    have r3 := hR.2.1 3 _ rfl
    have r4 := hR.2.1 4 _ rfl
    have rz := hR.2.2
    have rl := hR.1
    go_wp2_with fail
    have hFin := (((((hR.setAt (i := 0) (by simp) (.bool false)).setAt (i := 1) (by simp) (.slice none 0 0)).setAt (i := 2) (by simp) (.slice none 0 0)).setAt (i := 3) (by simp) (.slice none 0 0)).setAt (i := 4) (by simp) (.slice none 0 0))
    have f0 := hFin.2.1 0 _ rfl
    have f1 := hFin.2.1 1 _ rfl
    have f2 := hFin.2.1 2 _ rfl
    have f3 := hFin.2.1 3 _ rfl
    have f4 := hFin.2.1 4 _ rfl
    exact bodyPost_ret (v := .agg #[.bool false, .slice none 0 0, .slice none 0 0, .slice none 0 0, .slice none 0 0]) (by simp [results, Tryz.results23, go_sem, f0, f1, f2, f3, f4]) rfl ⟨tickRetS_no (unhide HR), (bw1 hb)⟩
  ·have hgood : TickGood n zs ts vs := ⟨unhide HOK, unhide HLF, fun z hz => by
    obtain ⟨j, hj, rfl⟩ := List.getElem_of_mem hz
    exact unhide HSP j hj (by omega), by have := unhide HVT; omega⟩
   have HGOOD := hide hgood
   obtain ⟨w4, rfl⟩ : ∃ w4, w4 = wr := ⟨_, rfl⟩
   have hlt' : ¬ (k : Int) < (vs.length : Int) := by omega
   have h20 := (unhide HOK).2.1
   have hHN := hide hN
   have hHR := hide hR
   have HB4 := hide hb
   have hRl := hR.1
   clear hgood hN hR
   go_wp2_with fail
   obtain ⟨w5, hw5⟩ : ∃ w5, w4.alloc (.cells #[.bool true, .slice none 0 0, .slice none 0 0, .slice none 0 0, .slice none 0 0] 63) = w5 := ⟨_, rfl⟩
   obtain ⟨A, hA⟩ : ∃ A, w4.heap.size = A := ⟨_, rfl⟩
   have hb45 : Below w4.heap.size w4 w5 := by rw [← hw5]; exact bw0
   have hAb : Boxed w5 A [.bool true, .slice none 0 0, .slice none 0 0, .slice none 0 0, .slice none 0 0] := by rw [← hw5, ← hA]; exact boxed_alloc _ _ _
   have hAt : IsTy w5 A 63 := by rw [← hw5, ← hA]; exact isTy_alloc _ _ _
   have HN5 := hide ((unhide hHN).below hb45)
   have HR5 := hide ((unhide hHR).below hb45)
   have HB5 := hide (below_then hb hb45)
   have hRA : w.heap.size + 1 < A := by omega
   have HAR := hide (TkR.mk (d := False) (sks := []) (ts := []) (codes := []) (fars := []) hAt hAb (tnD_nil _ _ _) (Row.nil _ _ _ _ _) (Row.nil _ _ _ _ _) (Or.inl rfl) (Row.nil _ _ _ _ _))
   rw [hw5, hA]
   clear hw5 hA hb45 hAb hAt hHN hHR HB4 hb hRl hk HSP
   go_loopw [51] (fun z wr => ∃ (k : Nat) (vt : Value), k ≤ ts.length ∧ z = .int .i64 k ∧ Hid (TkR False wr A (ts.take k) [] [] [] vt (.slice none 0 0) (.slice none 0 0) (.slice none 0 0)) ∧ Hid (Boxed wr w.heap.size [.slice x n.pieces.length ca, .slice c n.joints.length cc]) ∧ Hid (Boxed wr (w.heap.size + 1) [.bool false, .slice none 0 0, .slice none 0 0, .slice none 0 0, .slice none 0 0]) ∧ Hid (Below w.heap.size w wr)) (fun z _ => ts.length - (intOf z).toNat)
   case atStart => exact ⟨0, _, Nat.zero_le _, rfl, HAR, HN5, HR5, HB5⟩
   case round =>
    obtain ⟨k, vt, hk, rfl, HTR, HN, HR8, HBW⟩ := hrel
    by_cases hlt2 : k < ts.length
    ·obtain ⟨tb, toff, ba, bc, hte, htb, c0, c1, c2, c3, c4, hst, hcap⟩ := (unhide HTS).below (unhide HBW) k hlt2
     have hblk := hbl ts[k] (List.getElem_mem hlt2)
     have htk : ts.take (k + 1) = ts.take k ++ [ts[k]] := List.take_succ_eq_append_getElem hlt2
     have HTK : Hid (∀ y, ts[k] = y → ts.take (k + 1) = ts.take k ++ [y]) := fun y e => by rw [htk, e]
     clear htk
     generalize ht : ts[k] = t at *
     have HTK2 := hide (unhide HTK t rfl)
     have htb2 := htb.2
     have hlt2' : (k : Int) < (ts.length : Int) := by omega
     subst hte
     have HST := hide hst
     obtain ⟨qs, hqm, hqv, hqe, _⟩ := (unhide HTR).rt
     have hql : qs.length ≤ 20 := by
      have h1 := congrArg List.length hqm
      rw [List.length_map, List.length_take] at h1
      omega
     have hqlen : (ts.take k).length = qs.length := by rw [← hqm, List.length_map]
     obtain ⟨ta, tcap, e1, _⟩ := hqv.shape tvF_len
     subst e1
     have HQV := hide hqv
     have HQE := hide hqe
     have HQM := hide hqm
     have hAl := (unhide HTR).box.1
     have a1 := (unhide HTR).box.2.1 1 _ rfl
     have az := (unhide HTR).box.2.2
     obtain ⟨i1, hi1, hy0, hy1, hy2⟩ := info_parts info_Step
     obtain ⟨i2, hj2, hx0, hx1, hx2⟩ := info_parts info_Train
     clear ht HTK hst hqv hqe hqm hqlen htb
     by_cases hnil : t.back.length = 0
     ·have c4' := c4
      rw [hnil] at c4'
      clear c4
      rcases ba with _ | ba
      ·go_upto_region 15 with fail
       obtain ⟨wX, hwX⟩ : ∃ wX, ((wr.alloc (.cells #[.int .i64 t.front.piece, .int .i64 t.front.at_, .int .i64 t.front.way, .int .i64 t.long, .slice none 0 bc] 37)).alloc (.cells #[.int .i64 t.front.piece, .int .i64 t.front.at_, .int .i64 t.front.way, .int .i64 t.long, .slice (some ⟨wr.heap.size + 1 + 1, 0, none⟩) 0 0] 37)).alloc (.cells #[] 86) = wX := ⟨_, rfl⟩
       have hbX : Below wr.heap.size wr wX := by rw [← hwX]; exact bw0
       have hB : Boxed wX (wr.heap.size + 1) [.int .i64 t.front.piece, .int .i64 t.front.at_, .int .i64 t.front.way, .int .i64 t.long, .slice (some ⟨wr.heap.size + 1 + 1, 0, none⟩) 0 0] := by rw [← hwX]; exact (boxedN _ _ _ (by simp)).alloc _
       have hsr : StRow wX (A + 1) (.slice (some ⟨wr.heap.size + 1 + 1, 0, none⟩) t.back.length 0) t.back := by
        have h := st_zero ((wr.alloc (.cells #[.int .i64 t.front.piece, .int .i64 t.front.at_, .int .i64 t.front.way, .int .i64 t.long, .slice none 0 bc] 37)).alloc (.cells #[.int .i64 t.front.piece, .int .i64 t.front.at_, .int .i64 t.front.way, .int .i64 t.long, .slice (some ⟨wr.heap.size + 1 + 1, 0, none⟩) 0 0] 37))
        simp only [World.size_alloc] at h
        rw [hnil, List.eq_nil_of_length_eq_zero hnil, ← hwX]
        exact h.mono (by omega)
       rw [hwX]
       clear hwX c0 c1 c2 c3 c4'

       have hTRX := (unhide HTR).below hbX
       have y0 := hB.2.1 0 _ rfl
       have y1 := hB.2.1 1 _ rfl
       have y2 := hB.2.1 2 _ rfl
       have y3 := hB.2.1 3 _ rfl
       have y4 := hB.2.1 4 _ rfl
       have yl := hB.1
       have b1 := hTRX.box.2.1 1 _ rfl
       have bz := hTRX.box.2.2
       have bl := hTRX.box.1
       have hszX := hbX.size
       have hne8 : some A ≠ (Value.slice ta qs.length tcap).ownBlock := fun hc => by have := ((unhide HQV).lt _ hc.symm).1; omega
       have HSR := hide hsr
       have HTRX := hide hTRX
       clear hsr hTRX a1 az hAl
       go_wp2_with (at_builtin; refine wpList_append_lies _ rfl (.tmp 62) (.tmp 64) 60 rfl (A + 1) 37 i2 (.agg #[.int .i64 0, .int .i64 0, .int .i64 0, .int .i64 0, .slice none 0 0]) 5 56 Tryz.underlying60 hj2 hx0 hx1 hx2 rfl (by decide) _ qs.length (qs.flatMap tvF) rfl (((unhide HQV).below hbX).below bw0) ⟨wX.heap.size, 0, none⟩ 1 1 (tvF (t, .slice (some ⟨wr.heap.size + 1 + 1, 0, none⟩) 0 0)) rfl rfl (tv_news (boxed_alloc _ _ _)) (tv_one _ _ _ _) (by omega) (by unfold maxLen; omega) (by omega) (by first | omega | (simp; omega)) _ rfl ?_)
       intro g cap w8 hown8 hgrow hat8 hlt8
       have hbY : Below wX.heap.size wX (wX.alloc (.cells #[.int .i64 t.front.piece, .int .i64 t.front.at_, .int .i64 t.front.way, .int .i64 t.long, .slice (some ⟨wr.heap.size + 1 + 1, 0, none⟩) 0 0] 37)) := bw0
       have hA8 := boxed_grown' hgrow ((unhide HTRX).box.below hbY) hne8
       have d1 := hA8.2.1 1 _ rfl
       have dz := hA8.2.2
       have dl := hA8.1
       have HR8x := hide (TkR.addT (t := t) ((unhide HTRX).below hbY) (unhide HQM) (((unhide HQV).below hbX).below hbY) (fun q hq => by obtain ⟨a', c', he, hr⟩ := unhide HQE q hq; exact ⟨a', c', he, (hr.below hbX).below hbY⟩) False.elim False.elim ((unhide HSR).below hbY) hgrow (by rw [hnil]; exact Row.snoc hown8))
       have hge : ∀ j, (Value.slice ta qs.length tcap).ownBlock = some j → A + 1 ≤ j := fun j hj => ((unhide HQV).lt j hj).1
       have HN9 := hide ((boxed_grown' hgrow (((unhide HN).below hbX).below hbY) (fun e => by have := hge _ e.symm; omega)).apart (p := ⟨A, 1, none⟩) (show w.heap.size ≠ A by omega) (.slice (some ⟨g, 0, none⟩) (qs.length + 1) cap))
       have HR9 := hide ((boxed_grown' hgrow (((unhide HR8).below hbX).below hbY) (fun e => by have := hge _ e.symm; omega)).apart (p := ⟨A, 1, none⟩) (show w.heap.size + 1 ≠ A by omega) (.slice (some ⟨g, 0, none⟩) (qs.length + 1) cap))
       have hbwY := below_then (below_then (unhide HBW) hbX) hbY
       have HB9 := hide ((Below.grown hbwY hgrow hbwY.size (fun j hj => by have := hge j hj; omega)).setCell (p := ⟨A, 1, none⟩) (show w.heap.size ≤ A by omega) (.slice (some ⟨g, 0, none⟩) (qs.length + 1) cap))
       clear hgrow hown8 hbwY hA8 hge y0 y1 y2 y3 y4 b1 bz
       go_wp2_with fail
       refine ⟨⟨k + 1, .slice (some ⟨g, 0, none⟩) (qs.length + 1) cap, by omega, by go_num, ?_, HN9, HR9, HB9⟩, by simp [intOf]; omega⟩
       rw [unhide HTK2]
       exact HR8x
      ·go_upto_region 15 with fail
       obtain ⟨wX, hwX⟩ : ∃ wX, ((wr.alloc (.cells #[.int .i64 t.front.piece, .int .i64 t.front.at_, .int .i64 t.front.way, .int .i64 t.long, .slice (some ba) 0 bc] 37)).alloc (.cells #[.int .i64 t.front.piece, .int .i64 t.front.at_, .int .i64 t.front.way, .int .i64 t.long, .slice (some ⟨wr.heap.size + 1 + 1, 0, none⟩) 0 0] 37)).alloc (.cells #[] 86) = wX := ⟨_, rfl⟩
       have hbX : Below wr.heap.size wr wX := by rw [← hwX]; exact bw0
       have hB : Boxed wX (wr.heap.size + 1) [.int .i64 t.front.piece, .int .i64 t.front.at_, .int .i64 t.front.way, .int .i64 t.long, .slice (some ⟨wr.heap.size + 1 + 1, 0, none⟩) 0 0] := by rw [← hwX]; exact (boxedN _ _ _ (by simp)).alloc _
       have hsr : StRow wX (A + 1) (.slice (some ⟨wr.heap.size + 1 + 1, 0, none⟩) t.back.length 0) t.back := by
        have h := st_zero ((wr.alloc (.cells #[.int .i64 t.front.piece, .int .i64 t.front.at_, .int .i64 t.front.way, .int .i64 t.long, .slice (some ba) 0 bc] 37)).alloc (.cells #[.int .i64 t.front.piece, .int .i64 t.front.at_, .int .i64 t.front.way, .int .i64 t.long, .slice (some ⟨wr.heap.size + 1 + 1, 0, none⟩) 0 0] 37))
        simp only [World.size_alloc] at h
        rw [hnil, List.eq_nil_of_length_eq_zero hnil, ← hwX]
        exact h.mono (by omega)
       rw [hwX]
       clear hwX c0 c1 c2 c3 c4'

       have hTRX := (unhide HTR).below hbX
       have y0 := hB.2.1 0 _ rfl
       have y1 := hB.2.1 1 _ rfl
       have y2 := hB.2.1 2 _ rfl
       have y3 := hB.2.1 3 _ rfl
       have y4 := hB.2.1 4 _ rfl
       have yl := hB.1
       have b1 := hTRX.box.2.1 1 _ rfl
       have bz := hTRX.box.2.2
       have bl := hTRX.box.1
       have hszX := hbX.size
       have hne8 : some A ≠ (Value.slice ta qs.length tcap).ownBlock := fun hc => by have := ((unhide HQV).lt _ hc.symm).1; omega
       have HSR := hide hsr
       have HTRX := hide hTRX
       clear hsr hTRX a1 az hAl
       go_wp2_with (at_builtin; refine wpList_append_lies _ rfl (.tmp 62) (.tmp 64) 60 rfl (A + 1) 37 i2 (.agg #[.int .i64 0, .int .i64 0, .int .i64 0, .int .i64 0, .slice none 0 0]) 5 56 Tryz.underlying60 hj2 hx0 hx1 hx2 rfl (by decide) _ qs.length (qs.flatMap tvF) rfl (((unhide HQV).below hbX).below bw0) ⟨wX.heap.size, 0, none⟩ 1 1 (tvF (t, .slice (some ⟨wr.heap.size + 1 + 1, 0, none⟩) 0 0)) rfl rfl (tv_news (boxed_alloc _ _ _)) (tv_one _ _ _ _) (by omega) (by unfold maxLen; omega) (by omega) (by first | omega | (simp; omega)) _ rfl ?_)
       intro g cap w8 hown8 hgrow hat8 hlt8
       have hbY : Below wX.heap.size wX (wX.alloc (.cells #[.int .i64 t.front.piece, .int .i64 t.front.at_, .int .i64 t.front.way, .int .i64 t.long, .slice (some ⟨wr.heap.size + 1 + 1, 0, none⟩) 0 0] 37)) := bw0
       have hA8 := boxed_grown' hgrow ((unhide HTRX).box.below hbY) hne8
       have d1 := hA8.2.1 1 _ rfl
       have dz := hA8.2.2
       have dl := hA8.1
       have HR8x := hide (TkR.addT (t := t) ((unhide HTRX).below hbY) (unhide HQM) (((unhide HQV).below hbX).below hbY) (fun q hq => by obtain ⟨a', c', he, hr⟩ := unhide HQE q hq; exact ⟨a', c', he, (hr.below hbX).below hbY⟩) False.elim False.elim ((unhide HSR).below hbY) hgrow (by rw [hnil]; exact Row.snoc hown8))
       have hge : ∀ j, (Value.slice ta qs.length tcap).ownBlock = some j → A + 1 ≤ j := fun j hj => ((unhide HQV).lt j hj).1
       have HN9 := hide ((boxed_grown' hgrow (((unhide HN).below hbX).below hbY) (fun e => by have := hge _ e.symm; omega)).apart (p := ⟨A, 1, none⟩) (show w.heap.size ≠ A by omega) (.slice (some ⟨g, 0, none⟩) (qs.length + 1) cap))
       have HR9 := hide ((boxed_grown' hgrow (((unhide HR8).below hbX).below hbY) (fun e => by have := hge _ e.symm; omega)).apart (p := ⟨A, 1, none⟩) (show w.heap.size + 1 ≠ A by omega) (.slice (some ⟨g, 0, none⟩) (qs.length + 1) cap))
       have hbwY := below_then (below_then (unhide HBW) hbX) hbY
       have HB9 := hide ((Below.grown hbwY hgrow hbwY.size (fun j hj => by have := hge j hj; omega)).setCell (p := ⟨A, 1, none⟩) (show w.heap.size ≤ A by omega) (.slice (some ⟨g, 0, none⟩) (qs.length + 1) cap))
       clear hgrow hown8 hbwY hA8 hge y0 y1 y2 y3 y4 b1 bz
       go_wp2_with fail
       refine ⟨⟨k + 1, .slice (some ⟨g, 0, none⟩) (qs.length + 1) cap, by omega, by go_num, ?_, HN9, HR9, HB9⟩, by simp [intOf]; omega⟩
       rw [unhide HTK2]
       exact HR8x
     ·have hpos : 0 < t.back.length := by omega
      obtain ⟨sb, soff, hse, _, _⟩ := unhide HST 0 hpos
      subst hse
      have hr0 := st_zero ((wr.alloc (.cells #[.int .i64 t.front.piece, .int .i64 t.front.at_, .int .i64 t.front.way, .int .i64 t.long, .slice (some ⟨sb, soff, none⟩) t.back.length bc] 37)).alloc (.cells #[.int .i64 t.front.piece, .int .i64 t.front.at_, .int .i64 t.front.way, .int .i64 t.long, .slice (some ⟨sb, soff, none⟩) t.back.length bc] 37))
      simp only [World.size_alloc] at hr0
      have HR0 := hide hr0
      clear hr0
      go_wp2_with (at_builtin; refine wpList_append_own _ rfl (.tmp 56) (.tmp 58) 35 rfl (wr.heap.size + 1 + 1) 86 i1 (.agg #[.int .i64 0, .int .i64 0]) 2 16 Tryz.underlying35 hi1 hy0 hy1 hy2 rfl (by decide) _ _ _ rfl (unhide HR0) ⟨sb, soff, none⟩ t.back.length bc (t.back.flatMap stF) rfl ?d0 ?d1 (st_all _) ?d3 ?d4 ?d5 ?_)
      case d0 => rw [flat_len stF_len]
      case d1 => exact sts_news ((unhide HST).below bw0)
      case d3 => (simp only [List.length_nil]; unfold maxLen; omega)
      case d4 => (simp only [List.length_nil]; omega)
      case d5 => (simp only [World.size_alloc]; omega)
      intro v' w5 hown' hgrow _
      have hrow' : StRow w5 (wr.heap.size + 1 + 1) v' t.back := by
       show World.ownsRow _ _ _ _ _ t.back.length (t.back.flatMap stF)
       simpa using hown'
      obtain ⟨va, vc2, hva, _, _⟩ := stRow_at hrow'
      subst hva
      have hb5 : Below wr.heap.size wr w5 := Below.grown (bw0 : Below wr.heap.size wr (((wr.alloc (.cells #[.int .i64 t.front.piece, .int .i64 t.front.at_, .int .i64 t.front.way, .int .i64 t.long, .slice (some ⟨sb, soff, none⟩) t.back.length bc] 37)).alloc (.cells #[.int .i64 t.front.piece, .int .i64 t.front.at_, .int .i64 t.front.way, .int .i64 t.long, .slice (some ⟨sb, soff, none⟩) t.back.length bc] 37)).alloc (.cells #[] 86))) hgrow (by simp only [World.size_alloc]; omega) (fun j hj => by simp [Value.ownBlock] at hj; omega)
      have hB5 : Boxed w5 (wr.heap.size + 1) [.int .i64 t.front.piece, .int .i64 t.front.at_, .int .i64 t.front.way, .int .i64 t.long, .slice (some ⟨sb, soff, none⟩) t.back.length bc] := boxed_grown' hgrow ((boxedN _ _ _ (by simp)).alloc _) (by simp [Value.ownBlock])
      have z4 := hB5.2.1 4 _ rfl
      have zz := hB5.2.2
      have zl := hB5.1
      have hbX : Below wr.heap.size wr (w5.setCell ⟨wr.heap.size + 1, 4, none⟩ (.slice va t.back.length vc2)) := hb5.setCell (p := ⟨wr.heap.size + 1, 4, none⟩) (show wr.heap.size ≤ wr.heap.size + 1 by omega) _
      have hB : Boxed (w5.setCell ⟨wr.heap.size + 1, 4, none⟩ (.slice va t.back.length vc2)) (wr.heap.size + 1) [.int .i64 t.front.piece, .int .i64 t.front.at_, .int .i64 t.front.way, .int .i64 t.long, .slice va t.back.length vc2] := hB5.setAt (i := 4) (by simp) _
      have hsr : StRow (w5.setCell ⟨wr.heap.size + 1, 4, none⟩ (.slice va t.back.length vc2)) (A + 1) (.slice va t.back.length vc2) t.back := (hrow'.setCell (p := ⟨wr.heap.size + 1, 4, none⟩) (show wr.heap.size + 1 < wr.heap.size + 1 + 1 by omega) _).mono (by omega)
      have HbX := hide hbX
      have HB := hide hB
      have HSR0 := hide hsr
      clear hbX hB hsr hrow' hown' hgrow hb5 hB5 c0 c1 c2 c3 c4
      go_upto_region 15 with fail
      have hbX := unhide HbX
      have hB := unhide HB
      have hsr := unhide HSR0
      clear HbX HB HSR0
      generalize w5.setCell ⟨wr.heap.size + 1, 4, none⟩ (.slice va t.back.length vc2) = wX at hbX hB hsr ⊢
      clear z4 zz zl

      have hTRX := (unhide HTR).below hbX
      have y0 := hB.2.1 0 _ rfl
      have y1 := hB.2.1 1 _ rfl
      have y2 := hB.2.1 2 _ rfl
      have y3 := hB.2.1 3 _ rfl
      have y4 := hB.2.1 4 _ rfl
      have yl := hB.1
      have b1 := hTRX.box.2.1 1 _ rfl
      have bz := hTRX.box.2.2
      have bl := hTRX.box.1
      have hszX := hbX.size
      have hne8 : some A ≠ (Value.slice ta qs.length tcap).ownBlock := fun hc => by have := ((unhide HQV).lt _ hc.symm).1; omega
      have HSR := hide hsr
      have HTRX := hide hTRX
      clear hsr hTRX a1 az hAl
      go_wp2_with (at_builtin; refine wpList_append_lies _ rfl (.tmp 62) (.tmp 64) 60 rfl (A + 1) 37 i2 (.agg #[.int .i64 0, .int .i64 0, .int .i64 0, .int .i64 0, .slice none 0 0]) 5 56 Tryz.underlying60 hj2 hx0 hx1 hx2 rfl (by decide) _ qs.length (qs.flatMap tvF) rfl (((unhide HQV).below hbX).below bw0) ⟨wX.heap.size, 0, none⟩ 1 1 (tvF (t, .slice va t.back.length vc2)) rfl rfl (tv_news (boxed_alloc _ _ _)) (tv_one _ _ _ _) (by omega) (by unfold maxLen; omega) (by omega) (by first | omega | (simp; omega)) _ rfl ?_)
      intro g cap w8 hown8 hgrow hat8 hlt8
      have hbY : Below wX.heap.size wX (wX.alloc (.cells #[.int .i64 t.front.piece, .int .i64 t.front.at_, .int .i64 t.front.way, .int .i64 t.long, .slice va t.back.length vc2] 37)) := bw0
      have hA8 := boxed_grown' hgrow ((unhide HTRX).box.below hbY) hne8
      have d1 := hA8.2.1 1 _ rfl
      have dz := hA8.2.2
      have dl := hA8.1
      have HR8x := hide (TkR.addT (t := t) ((unhide HTRX).below hbY) (unhide HQM) (((unhide HQV).below hbX).below hbY) (fun q hq => by obtain ⟨a', c', he, hr⟩ := unhide HQE q hq; exact ⟨a', c', he, (hr.below hbX).below hbY⟩) False.elim False.elim ((unhide HSR).below hbY) hgrow (by exact Row.snoc hown8))
      have hge : ∀ j, (Value.slice ta qs.length tcap).ownBlock = some j → A + 1 ≤ j := fun j hj => ((unhide HQV).lt j hj).1
      have HN9 := hide ((boxed_grown' hgrow (((unhide HN).below hbX).below hbY) (fun e => by have := hge _ e.symm; omega)).apart (p := ⟨A, 1, none⟩) (show w.heap.size ≠ A by omega) (.slice (some ⟨g, 0, none⟩) (qs.length + 1) cap))
      have HR9 := hide ((boxed_grown' hgrow (((unhide HR8).below hbX).below hbY) (fun e => by have := hge _ e.symm; omega)).apart (p := ⟨A, 1, none⟩) (show w.heap.size + 1 ≠ A by omega) (.slice (some ⟨g, 0, none⟩) (qs.length + 1) cap))
      have hbwY := below_then (below_then (unhide HBW) hbX) hbY
      have HB9 := hide ((Below.grown hbwY hgrow hbwY.size (fun j hj => by have := hge j hj; omega)).setCell (p := ⟨A, 1, none⟩) (show w.heap.size ≤ A by omega) (.slice (some ⟨g, 0, none⟩) (qs.length + 1) cap))
      clear hgrow hown8 hbwY hA8 hge y0 y1 y2 y3 y4 b1 bz
      go_wp2_with fail
      refine ⟨⟨k + 1, .slice (some ⟨g, 0, none⟩) (qs.length + 1) cap, by omega, by go_num, ?_, HN9, HR9, HB9⟩, by simp [intOf]; omega⟩
      rw [unhide HTK2]
      exact HR8x
    ·have hlt2' : ¬ (k : Int) < (ts.length : Int) := by omega
     obtain rfl : k = ts.length := by omega
     have hTR := unhide HTR
     rw [List.take_length] at hTR
     have HTR0 := hide hTR
     clear HTR hTR
     go_wp2_with fail
     go_loopw [70] (fun z wr => ∃ (i : Nat) (b : TkS) (vt vc' vf vk : Value), i ≤ vs.length ∧ z = .int .i64 i ∧ Hid (TickTo n zs ts vs i b) ∧ b.strikes.length ≤ 20 * i ∧ Hid (TkR False wr A b.ts b.codes b.fars b.strikes vt vc' vf vk) ∧ Hid (Boxed wr w.heap.size [.slice x n.pieces.length ca, .slice c n.joints.length cc]) ∧ Hid (Boxed wr (w.heap.size + 1) [.bool false, .slice none 0 0, .slice none 0 0, .slice none 0 0, .slice none 0 0]) ∧ Hid (Below w.heap.size w wr)) (fun z _ => vs.length - (intOf z).toNat)
     case atStart => exact ⟨0, ⟨ts, [], [], []⟩, _, _, _, _, Nat.zero_le _, rfl, hide .zero, by simp, HTR0, HN, HR8, HBW⟩
     case round =>
      obtain ⟨i, b, vt, vc', vf, vk, hi, rfl, HTO, hsk, HTR, HN, HR8, HBW⟩ := hrel
      by_cases hlt3 : i < vs.length
      ·have hok := (unhide HTO).ok (unhide HGOOD)
       have hvt := unhide HVT
       have hib : i < b.ts.length := by rw [hok.len]; omega
       have hfit := hok.fits _ (trAt_mem hib)
       have hbl20 : b.ts.length ≤ 20 := by rw [hok.len]; exact h20
       obtain ⟨vb, voff, hvq, hvb, cvs⟩ := ((unhide HVS).below (unhide HBW)) i hlt3
       subst hvq
       obtain ⟨F, hFe⟩ : ∃ F, vs[i] = F := ⟨_, rfl⟩
       rw [hFe] at cvs
       have hF : 0 ≤ F ∧ F ≤ 10000 := by rw [← hFe]; exact (unhide HGOOD).2.2.1 _ (List.getElem_mem _)
       have HFD : Hid (vs.getD i 0 = F) := by unfold Hid; rw [List.getD_eq_getElem?_getD, List.getElem?_eq_getElem hlt3, ← hFe]; rfl
       obtain ⟨g, gc, sa, sc, hve, hgl, hgt, c0, c1, c2, c3, c4, hst⟩ := (unhide HTR).rt.get hib
       subst hve
       obtain ⟨t, ht⟩ : ∃ t, trAt b.ts i = t := ⟨_, rfl⟩
       rw [ht] at c0 c1 c2 c3 c4 hst hfit
       have HTE := hide ht
       have HST := hide hst
       have HFIT := hide hfit
       have HGT := hide hgt
       have hlt3' : (i : Int) < (vs.length : Int) := by omega
       have hib' : (i : Int) < (b.ts.length : Int) := by omega
       have hvbl := hvb.2
       have hG := netGood (unhide HOK).1
       have hbk : t.back.length ≤ 1048576 := by have := hfit.2.2.1; omega
       have a1 := (unhide HTR).box.2.1 1 _ rfl
       have al := (unhide HTR).box.1
       have q0 := (unhide HN).2.1 0 _ rfl
       have q1 := (unhide HN).2.1 1 _ rfl
       have nl := (unhide HN).1
       have HOKB := hide hok
       have hgl1 := hgl.1
       have hgl2 := hgl.2
       have HS : Hid (∀ wx, Below wr.heap.size wr wx → (fun w' => w'.cell? ⟨w.heap.size, 0, none⟩ = some (.slice x n.pieces.length ca) ∧ w'.cell? ⟨w.heap.size, 1, none⟩ = some (.slice c n.joints.length cc) ∧ w'.cell? ⟨A, 1, none⟩ = some (.slice (some ⟨g, 0, none⟩) b.ts.length gc) ∧ w'.cell? ⟨g, i * 5, none⟩ = some (.int .i64 t.front.piece) ∧ w'.cell? ⟨g, i * 5 + 1, none⟩ = some (.int .i64 t.front.at_) ∧ w'.cell? ⟨g, i * 5 + 2, none⟩ = some (.int .i64 t.front.way) ∧ w'.cell? ⟨g, i * 5 + 3, none⟩ = some (.int .i64 t.long) ∧ w'.cell? ⟨g, i * 5 + 4, none⟩ = some (.slice sa t.back.length sc)) wx) := fun wx hb => ⟨(hb.cell (p := ⟨w.heap.size, 0, none⟩) nl).trans q0, (hb.cell (p := ⟨w.heap.size, 1, none⟩) nl).trans q1, (hb.cell (p := ⟨A, 1, none⟩) al).trans a1, (hb.cell (p := ⟨g, i * 5, none⟩) hgl2).trans c0, (hb.cell (p := ⟨g, i * 5 + 1, none⟩) hgl2).trans c1, (hb.cell (p := ⟨g, i * 5 + 2, none⟩) hgl2).trans c2, (hb.cell (p := ⟨g, i * 5 + 3, none⟩) hgl2).trans c3, (hb.cell (p := ⟨g, i * 5 + 4, none⟩) hgl2).trans c4⟩
       clear hok hvt hfit hFe ht hst hgt hvb hgl
       go_wp2_with fail
       go_cut [17] (fun p wx => ∃ (Q : Nat) (m : Mv) (code joint : Int) (ba : Option Addr) (bc : Nat) (oa : Option Addr) (oc : Nat), p = .pointer (some ⟨Q, 0, none⟩) ∧ wr.heap.size ≤ Q ∧ Hid (RunIs n zs t.long F ⟨t.front, t.back, 0, []⟩ m code joint) ∧ Hid (Boxed wx Q [.int .i64 code, .int .i64 m.far, .int .i64 joint, .int .i64 m.s.piece, .int .i64 m.s.at_, .int .i64 m.s.way, .int .i64 t.long, .slice ba m.xs.length bc, .slice oa m.over.length oc]) ∧ Hid (IsTy wx Q 40) ∧ Hid (StRow wx (A + 1) (.slice ba m.xs.length bc) m.xs) ∧ Hid (PtRow wx (A + 1) (.slice oa m.over.length oc) m.over) ∧ Hid (Below wr.heap.size wr wx))
       case first =>
        refine wp_region_held_drew (S := fun w' => w'.cell? ⟨w.heap.size, 0, none⟩ = some (.slice x n.pieces.length ca) ∧ w'.cell? ⟨w.heap.size, 1, none⟩ = some (.slice c n.joints.length cc) ∧ w'.cell? ⟨A, 1, none⟩ = some (.slice (some ⟨g, 0, none⟩) b.ts.length gc) ∧ w'.cell? ⟨g, i * 5, none⟩ = some (.int .i64 t.front.piece) ∧ w'.cell? ⟨g, i * 5 + 1, none⟩ = some (.int .i64 t.front.at_) ∧ w'.cell? ⟨g, i * 5 + 2, none⟩ = some (.int .i64 t.front.way) ∧ w'.cell? ⟨g, i * 5 + 3, none⟩ = some (.int .i64 t.long) ∧ w'.cell? ⟨g, i * 5 + 4, none⟩ = some (.slice sa t.back.length sc)) (by kernel_rfl) ?_ (fun hHeld => ?_)
        ·exact unhide HS _ (bw0 : Below wr.heap.size wr wr.drew)
        refine wpAnyH_take (i := 0) (v := ?va1) rfl (by kernel_rfl) (by kernel_rfl) (by kernel_rfl) (fun _ _ _ h => h) (Or.inl ⟨by rfl, ?ya1⟩) (by assumption) ?ra1
        case ya1 => (intro w0 hSw; (try dsimp only at hSw); go_simp; (try with_reducible rfl))
        (try simp only [Act.put, List.getElem_toArray, List.getElem_cons_zero, List.getElem_cons_succ, List.setIfInBounds_toArray, List.set_cons_zero, List.set_cons_succ])
        refine wpAnyH_take (i := 1) (v := ?va2) rfl (by kernel_rfl) (by kernel_rfl) (by kernel_rfl) (fun _ _ _ h => h) (Or.inl ⟨by rfl, ?ya2⟩) (by assumption) ?ra2
        case ya2 => (intro w0 hSw; (try dsimp only at hSw); go_simp; (try with_reducible rfl))
        (try simp only [Act.put, List.getElem_toArray, List.getElem_cons_zero, List.getElem_cons_succ, List.setIfInBounds_toArray, List.set_cons_zero, List.set_cons_succ])
        refine wpAnyH_take (i := 2) (v := ?va3) rfl (by kernel_rfl) (by kernel_rfl) (by kernel_rfl) (fun _ _ _ h => h) (Or.inl ⟨by rfl, ?ya3⟩) (by assumption) ?ra3
        case ya3 => (intro w0 hSw; (try dsimp only at hSw); go_simp; (try with_reducible rfl))
        (try simp only [Act.put, List.getElem_toArray, List.getElem_cons_zero, List.getElem_cons_succ, List.setIfInBounds_toArray, List.set_cons_zero, List.set_cons_succ])
        refine wpAnyH_take (i := 3) (v := ?va4) rfl (by kernel_rfl) (by kernel_rfl) (by kernel_rfl) (fun _ _ _ h => h) (Or.inl ⟨by rfl, ?ya4⟩) (by assumption) ?ra4
        case ya4 => (intro w0 hSw; (try dsimp only at hSw); go_simp; (try with_reducible rfl))
        (try simp only [Act.put, List.getElem_toArray, List.getElem_cons_zero, List.getElem_cons_succ, List.setIfInBounds_toArray, List.set_cons_zero, List.set_cons_succ])
        refine wpAnyH_take (i := 4) (v := ?va5) rfl (by kernel_rfl) (by kernel_rfl) (by kernel_rfl) (fun _ _ _ h => h) (Or.inl ⟨by rfl, ?ya5⟩) (by assumption) ?ra5
        case ya5 => (intro w0 hSw; (try dsimp only at hSw); go_simp; (try with_reducible rfl))
        (try simp only [Act.put, List.getElem_toArray, List.getElem_cons_zero, List.getElem_cons_succ, List.setIfInBounds_toArray, List.set_cons_zero, List.set_cons_succ])
        refine wpAnyH_take (i := 5) (v := ?va6) rfl (by kernel_rfl) (by kernel_rfl) (by kernel_rfl) (fun _ _ _ h => h) (Or.inl ⟨by rfl, ?ya6⟩) (by assumption) ?ra6
        case ya6 => (intro w0 hSw; (try dsimp only at hSw); go_simp; (try with_reducible rfl))
        (try simp only [Act.put, List.getElem_toArray, List.getElem_cons_zero, List.getElem_cons_succ, List.setIfInBounds_toArray, List.set_cons_zero, List.set_cons_succ])
        refine wpAnyH_take (i := 6) (v := ?va7) rfl (by kernel_rfl) (by kernel_rfl) (by kernel_rfl) (fun _ _ _ h => h) (Or.inl ⟨by rfl, ?ya7⟩) (by assumption) ?ra7
        case ya7 => (intro w0 hSw; (try dsimp only at hSw); go_simp; (try with_reducible rfl))
        (try simp only [Act.put, List.getElem_toArray, List.getElem_cons_zero, List.getElem_cons_succ, List.setIfInBounds_toArray, List.set_cons_zero, List.set_cons_succ])
        refine wpAnyH_take (i := 7) (v := ?va8) rfl (by kernel_rfl) (by kernel_rfl) (by kernel_rfl) (fun _ _ _ h => h) (Or.inl ⟨by rfl, ?ya8⟩) (by assumption) ?ra8
        case ya8 => (intro w0 hSw; (try dsimp only at hSw); go_simp; (try with_reducible rfl))
        (try simp only [Act.put, List.getElem_toArray, List.getElem_cons_zero, List.getElem_cons_succ, List.setIfInBounds_toArray, List.set_cons_zero, List.set_cons_succ])
        refine wpAnyH_ready (rs := [8, 9]) (by kernel_rfl) (by simp) ?_
        refine (AllReadyH.cons rfl (fun K hK => ?_) (AllReadyH.cons rfl (fun K hK => ?_) AllReadyH.nil))
        ·go_simp
         have hbW : Below wr.heap.size wr wr.drew := bw0
         refine (l3move_any _ n sa sc zq zs zc t F _ ((unhide HV).below (below_then (unhide HBW) hbW)) ((stRow_at0 (unhide HST)).below hbW) ((unhide HZ).below (below_then (unhide HBW) hbW)) hG (unhide HLF) (unhide HFIT) hF).mono ?_
         rintro e w6 ⟨⟨m, code, joint, ba, bc, oa, oc, rfl, hrun, hst6, hov6⟩, hb6⟩
         unfold movedV
         dsimp only
         have hbw6 : Below wr.heap.size wr w6 := below_then hbW hb6
         have hA6 : A + 1 ≤ wr.heap.size := al
         have HRUN := hide hrun
         have HST6 := hide hst6
         have HOV6 := hide hov6
         clear hrun hst6 hov6 hb6 hbW
         refine hK.out _ _ (unhide HS _ hbw6) (fun hHeld => ?_)
         clear hK K
         (try simp only [Act.put, List.getElem_toArray, List.getElem_cons_zero, List.getElem_cons_succ, List.setIfInBounds_toArray, List.set_cons_zero, List.set_cons_succ])
         refine wpAnyH_ready (rs := [9]) (by kernel_rfl) (by simp) ?_
         refine (AllReadyH.cons rfl (fun K hK => ?_) AllReadyH.nil)
         go_simp
         refine hK.out _ _ (unhide HS _ (below_then hbw6 bw0 : Below wr.heap.size wr (w6.alloc (.cells #[.int .i64 0, .int .i64 0, .int .i64 0, .int .i64 0, .int .i64 0, .int .i64 0, .int .i64 0, .slice none 0 0, .slice none 0 0] 40)))) (fun hHeld => ?_)
         clear hK K
         (try simp only [Act.put, List.getElem_toArray, List.getElem_cons_zero, List.getElem_cons_succ, List.setIfInBounds_toArray, List.set_cons_zero, List.set_cons_succ])
         refine wpAnyH_ready (rs := [10]) (by kernel_rfl) (by simp) ?_
         refine (AllReadyH.cons rfl (fun K hK => ?_) AllReadyH.nil)
         go_simp
         have hb7 : Below w6.heap.size w6 (w6.alloc (.cells #[.int .i64 code, .int .i64 m.far, .int .i64 joint, .int .i64 m.s.piece, .int .i64 m.s.at_, .int .i64 m.s.way, .int .i64 t.long, .slice ba m.xs.length bc, .slice oa m.over.length oc] 40)) := bw0
         refine hK.out _ _ (unhide HS _ (below_then hbw6 hb7)) (fun hHeld => ?_)
         clear hK K
         (try simp only [Act.put, List.getElem_toArray, List.getElem_cons_zero, List.getElem_cons_succ, List.setIfInBounds_toArray, List.set_cons_zero, List.set_cons_succ])
         refine wpAnyH_done (by kernel_rfl) ?_ _

         go_wp2_with fail
         go_meet
         exact ⟨w6.heap.size, m, code, joint, ba, bc, oa, oc, rfl, hbw6.size, HRUN, hide (boxed_alloc _ _ _), hide (isTy_alloc _ _ _), hide (((unhide HST6).mono hA6).below hb7), hide (((unhide HOV6).mono hA6).below hb7), hide (below_then hbw6 hb7)⟩
        ·go_simp
         refine hK.out _ _ (unhide HS _ (bw0 : Below wr.heap.size wr (wr.drew.alloc (.cells #[.int .i64 0, .int .i64 0, .int .i64 0, .int .i64 0, .int .i64 0, .int .i64 0, .int .i64 0, .slice none 0 0, .slice none 0 0] 40)))) (fun hHeld => ?_)
         clear hK K
         (try simp only [Act.put, List.getElem_toArray, List.getElem_cons_zero, List.getElem_cons_succ, List.setIfInBounds_toArray, List.set_cons_zero, List.set_cons_succ])
         refine wpAnyH_ready (rs := [8]) (by kernel_rfl) (by simp) ?_
         refine (AllReadyH.cons rfl (fun K hK => ?_) AllReadyH.nil)
         go_simp
         have hbW : Below wr.heap.size wr (wr.drew.alloc (.cells #[.int .i64 0, .int .i64 0, .int .i64 0, .int .i64 0, .int .i64 0, .int .i64 0, .int .i64 0, .slice none 0 0, .slice none 0 0] 40)) := bw0
         refine (l3move_any _ n sa sc zq zs zc t F _ ((unhide HV).below (below_then (unhide HBW) hbW)) ((stRow_at0 (unhide HST)).below hbW) ((unhide HZ).below (below_then (unhide HBW) hbW)) hG (unhide HLF) (unhide HFIT) hF).mono ?_
         rintro e w6 ⟨⟨m, code, joint, ba, bc, oa, oc, rfl, hrun, hst6, hov6⟩, hb6⟩
         unfold movedV
         dsimp only
         have hbw6 : Below wr.heap.size wr w6 := below_then hbW hb6
         have hA6 : A + 1 ≤ wr.heap.size := al
         have hQ6 : Boxed w6 wr.heap.size [.int .i64 0, .int .i64 0, .int .i64 0, .int .i64 0, .int .i64 0, .int .i64 0, .int .i64 0, .slice none 0 0, .slice none 0 0] := (boxed_alloc wr.drew #[.int .i64 0, .int .i64 0, .int .i64 0, .int .i64 0, .int .i64 0, .int .i64 0, .int .i64 0, .slice none 0 0, .slice none 0 0] 40).below hb6
         have hQ6t : IsTy w6 wr.heap.size 40 := (isTy_alloc wr.drew #[.int .i64 0, .int .i64 0, .int .i64 0, .int .i64 0, .int .i64 0, .int .i64 0, .int .i64 0, .slice none 0 0, .slice none 0 0] 40).below hb6
         have qz := hQ6.2.2
         have ql := hQ6.1
         have z0 := hQ6.2.1 0 _ rfl
         have z1 := hQ6.2.1 1 _ rfl
         have z2 := hQ6.2.1 2 _ rfl
         have z3 := hQ6.2.1 3 _ rfl
         have z4 := hQ6.2.1 4 _ rfl
         have z5 := hQ6.2.1 5 _ rfl
         have z6 := hQ6.2.1 6 _ rfl
         have z7 := hQ6.2.1 7 _ rfl
         have z8 := hQ6.2.1 8 _ rfl
         have HRUN := hide hrun
         have HST6 := hide hst6
         have HOV6 := hide hov6
         clear hrun hst6 hov6 hb6 hbW
         refine hK.out _ _ (unhide HS _ hbw6) (fun hHeld => ?_)
         clear hK K
         (try simp only [Act.put, List.getElem_toArray, List.getElem_cons_zero, List.getElem_cons_succ, List.setIfInBounds_toArray, List.set_cons_zero, List.set_cons_succ])
         refine wpAnyH_ready (rs := [10]) (by kernel_rfl) (by simp) ?_
         refine (AllReadyH.cons rfl (fun K hK => ?_) AllReadyH.nil)
         go_simp
         have hOq : Only (fun k => k = wr.heap.size) w6 (((((((((w6.setCell ⟨wr.heap.size, 0, none⟩ (.int .i64 code)).setCell ⟨wr.heap.size, 1, none⟩ (.int .i64 m.far)).setCell ⟨wr.heap.size, 2, none⟩ (.int .i64 joint)).setCell ⟨wr.heap.size, 3, none⟩ (.int .i64 m.s.piece)).setCell ⟨wr.heap.size, 4, none⟩ (.int .i64 m.s.at_)).setCell ⟨wr.heap.size, 5, none⟩ (.int .i64 m.s.way)).setCell ⟨wr.heap.size, 6, none⟩ (.int .i64 t.long)).setCell ⟨wr.heap.size, 7, none⟩ (.slice ba m.xs.length bc)).setCell ⟨wr.heap.size, 8, none⟩ (.slice oa m.over.length oc)) := ((((((((only_setCell (S := fun k => k = wr.heap.size) w6 (p := ⟨wr.heap.size, 0, none⟩) rfl (.int .i64 code)).trans (only_setCell (S := fun k => k = wr.heap.size) _ (p := ⟨wr.heap.size, 1, none⟩) rfl (.int .i64 m.far))).trans (only_setCell (S := fun k => k = wr.heap.size) _ (p := ⟨wr.heap.size, 2, none⟩) rfl (.int .i64 joint))).trans (only_setCell (S := fun k => k = wr.heap.size) _ (p := ⟨wr.heap.size, 3, none⟩) rfl (.int .i64 m.s.piece))).trans (only_setCell (S := fun k => k = wr.heap.size) _ (p := ⟨wr.heap.size, 4, none⟩) rfl (.int .i64 m.s.at_))).trans (only_setCell (S := fun k => k = wr.heap.size) _ (p := ⟨wr.heap.size, 5, none⟩) rfl (.int .i64 m.s.way))).trans (only_setCell (S := fun k => k = wr.heap.size) _ (p := ⟨wr.heap.size, 6, none⟩) rfl (.int .i64 t.long))).trans (only_setCell (S := fun k => k = wr.heap.size) _ (p := ⟨wr.heap.size, 7, none⟩) rfl (.slice ba m.xs.length bc))).trans (only_setCell (S := fun k => k = wr.heap.size) _ (p := ⟨wr.heap.size, 8, none⟩) rfl (.slice oa m.over.length oc))
         have hb7 : Below wr.heap.size wr (((((((((w6.setCell ⟨wr.heap.size, 0, none⟩ (.int .i64 code)).setCell ⟨wr.heap.size, 1, none⟩ (.int .i64 m.far)).setCell ⟨wr.heap.size, 2, none⟩ (.int .i64 joint)).setCell ⟨wr.heap.size, 3, none⟩ (.int .i64 m.s.piece)).setCell ⟨wr.heap.size, 4, none⟩ (.int .i64 m.s.at_)).setCell ⟨wr.heap.size, 5, none⟩ (.int .i64 m.s.way)).setCell ⟨wr.heap.size, 6, none⟩ (.int .i64 t.long)).setCell ⟨wr.heap.size, 7, none⟩ (.slice ba m.xs.length bc)).setCell ⟨wr.heap.size, 8, none⟩ (.slice oa m.over.length oc)) := hbw6.trans (hOq.below hbw6.size (fun k hk e => by omega))
         refine hK.out _ _ (unhide HS _ hb7) (fun hHeld => ?_)
         clear hK K
         (try simp only [Act.put, List.getElem_toArray, List.getElem_cons_zero, List.getElem_cons_succ, List.setIfInBounds_toArray, List.set_cons_zero, List.set_cons_succ])
         refine wpAnyH_done (by kernel_rfl) ?_ _

         have hQf : Boxed (((((((((w6.setCell ⟨wr.heap.size, 0, none⟩ (.int .i64 code)).setCell ⟨wr.heap.size, 1, none⟩ (.int .i64 m.far)).setCell ⟨wr.heap.size, 2, none⟩ (.int .i64 joint)).setCell ⟨wr.heap.size, 3, none⟩ (.int .i64 m.s.piece)).setCell ⟨wr.heap.size, 4, none⟩ (.int .i64 m.s.at_)).setCell ⟨wr.heap.size, 5, none⟩ (.int .i64 m.s.way)).setCell ⟨wr.heap.size, 6, none⟩ (.int .i64 t.long)).setCell ⟨wr.heap.size, 7, none⟩ (.slice ba m.xs.length bc)).setCell ⟨wr.heap.size, 8, none⟩ (.slice oa m.over.length oc)) wr.heap.size [.int .i64 code, .int .i64 m.far, .int .i64 joint, .int .i64 m.s.piece, .int .i64 m.s.at_, .int .i64 m.s.way, .int .i64 t.long, .slice ba m.xs.length bc, .slice oa m.over.length oc] := (((((((((hQ6.setAt (i := 0) (by simp) (.int .i64 code)).setAt (i := 1) (by simp) (.int .i64 m.far)).setAt (i := 2) (by simp) (.int .i64 joint)).setAt (i := 3) (by simp) (.int .i64 m.s.piece)).setAt (i := 4) (by simp) (.int .i64 m.s.at_)).setAt (i := 5) (by simp) (.int .i64 m.s.way)).setAt (i := 6) (by simp) (.int .i64 t.long)).setAt (i := 7) (by simp) (.slice ba m.xs.length bc)).setAt (i := 8) (by simp) (.slice oa m.over.length oc))
         have hQt : IsTy (((((((((w6.setCell ⟨wr.heap.size, 0, none⟩ (.int .i64 code)).setCell ⟨wr.heap.size, 1, none⟩ (.int .i64 m.far)).setCell ⟨wr.heap.size, 2, none⟩ (.int .i64 joint)).setCell ⟨wr.heap.size, 3, none⟩ (.int .i64 m.s.piece)).setCell ⟨wr.heap.size, 4, none⟩ (.int .i64 m.s.at_)).setCell ⟨wr.heap.size, 5, none⟩ (.int .i64 m.s.way)).setCell ⟨wr.heap.size, 6, none⟩ (.int .i64 t.long)).setCell ⟨wr.heap.size, 7, none⟩ (.slice ba m.xs.length bc)).setCell ⟨wr.heap.size, 8, none⟩ (.slice oa m.over.length oc)) wr.heap.size 40 := (isTy_set (isTy_set (isTy_set (isTy_set (isTy_set (isTy_set (isTy_set (isTy_set (isTy_set hQ6t _ _) _ _) _ _) _ _) _ _) _ _) _ _) _ _) _ _)
         have hsz6 : ∀ k, wr.heap.size + 1 ≤ k → k ≠ wr.heap.size := fun k hk e => by omega
         have HST7 := hide (((unhide HST6).block fun k hk => hOq.block k ((unhide HST6).lt k hk).2 (hsz6 k (by have := ((unhide HST6).lt k hk).1; simpa using this))).mono (show A + 1 ≤ _ by simp; omega))
         have HOV7 := hide (((unhide HOV6).block fun k hk => hOq.block k ((unhide HOV6).lt k hk).2 (hsz6 k (by have := ((unhide HOV6).lt k hk).1; simpa using this))).mono (show A + 1 ≤ _ by simp; omega))
         have HQf := hide hQf
         have HQt := hide hQt
         have Hb7 := hide hb7
         clear hQf hQt hb7 hOq
         go_wp2_with fail
         go_meet
         exact ⟨wr.heap.size, m, code, joint, ba, bc, oa, oc, rfl, Nat.le_refl _, HRUN, HQf, HQt, HST7, HOV7, Hb7⟩
       case rest =>
        obtain ⟨Q, m, code, joint, ba, bc, oa, oc, rfl, hQl, HRUN, HQ, HQT, HST7, HOV7, HB7⟩ := hcut
        obtain ⟨w7, rfl⟩ : ∃ w7, w7 = wc := ⟨_, rfl⟩
        have hb7 := unhide HB7
        obtain ⟨t', ht'⟩ : ∃ t', (⟨m.s, t.long, m.xs⟩ : Tr) = t' := ⟨_, rfl⟩
        have HTE' := hide ht'
        have HFIT' : Hid (TrainFits n t') := by unfold Hid; rw [← ht']; exact run_fits ⟨(unhide HOK).1, unhide HFIT⟩ (unhide HLF) hF.1 (unhide HRUN)
        have hovl : m.over.length ≤ 1048576 := by
         have h0 := fits_mv (unhide HFIT) hF.1
         have hm : MvOk n t.long F m := by
          rcases unhide HRUN with ⟨_, hg, _⟩ | ⟨_, rfl, _⟩
          ·exact hg.ok hG (by have := (unhide HFIT).2.1.1; omega) h0
          ·exact h0
         have k2 := hm.over
         have k3 := hm.farF
         omega
        have HY7 : Hid (TkY w A [.slice x n.pieces.length ca, .slice c n.joints.length cc] [.bool false, .slice none 0 0, .slice none 0 0, .slice none 0 0, .slice none 0 0] [.int .i64 code, .int .i64 m.far, .int .i64 joint, .int .i64 m.s.piece, .int .i64 m.s.at_, .int .i64 m.s.way, .int .i64 t.long, .slice ba m.xs.length bc, .slice oa m.over.length oc] Q (.slice oa m.over.length oc) (.slice ba m.xs.length bc) m.over m.xs w7) := ⟨(unhide HN).below hb7, (unhide HR8).below hb7, unhide HQ, unhide HQT, unhide HOV7, unhide HST7, hRA, below_then (unhide HBW) hb7⟩
        have HTR7 := hide ((unhide HTR).below hb7)
        have x1 := (unhide HTR7).box.2.1 1 _ rfl
        have xl := (unhide HTR7).box.1
        have p3 := (unhide HQ).2.1 3 _ rfl
        have p4 := (unhide HQ).2.1 4 _ rfl
        have p5 := (unhide HQ).2.1 5 _ rfl
        have p6 := (unhide HQ).2.1 6 _ rfl
        have p7 := (unhide HQ).2.1 7 _ rfl
        have pl := (unhide HQ).1
        have d0 := (hb7.cell (p := ⟨g, i * 5, none⟩) hgl2).trans c0
        have d1 := (hb7.cell (p := ⟨g, i * 5 + 1, none⟩) hgl2).trans c1
        have d2 := (hb7.cell (p := ⟨g, i * 5 + 2, none⟩) hgl2).trans c2
        have d3 := (hb7.cell (p := ⟨g, i * 5 + 3, none⟩) hgl2).trans c3
        have d4 := (hb7.cell (p := ⟨g, i * 5 + 4, none⟩) hgl2).trans c4
        have HGT7 := hide ((unhide HGT).below hb7)
        have gz := isTy_free (unhide HGT7)
        have gl7 : g < w7.heap.size := Nat.lt_of_lt_of_le hgl2 hb7.size
        clear c0 c1 c2 c3 c4 a1 al q0 q1 nl HS HST HGT HTR HN HR8 HBW HQ HQT HOV7 HB7 hb7 ht' cvs
        go_upto_region 22 with fail
        have hset := TkR.setT (t := ⟨m.s, t.long, m.xs⟩) (unhide HTR7) hib (a := ba) (sc := bc) (unhide HST7)
        dsimp only at hset
        rw [unhide HTE'] at hset
        obtain ⟨hTR8, hO8⟩ := hset
        have HY8 := hide ((unhide HY7).onlyT (unhide HGT7) hgl1 hO8)
        generalize ((((w7.setCell ⟨g, i * 5, none⟩ (.int .i64 m.s.piece)).setCell ⟨g, i * 5 + 1, none⟩ (.int .i64 m.s.at_)).setCell ⟨g, i * 5 + 2, none⟩ (.int .i64 m.s.way)).setCell ⟨g, i * 5 + 3, none⟩ (.int .i64 t.long)).setCell ⟨g, i * 5 + 4, none⟩ (.slice ba m.xs.length bc) = w8 at hTR8 hO8 HY8 ⊢
        have HTR8 := hide hTR8
        clear hTR8 hO8 x1 xl p3 p4 p5 p6 p7 pl d0 d1 d2 d3 d4 HGT7 gz gl7 HY7 HTR7 HST7
        have hcl : b.codes.length ≤ 20 := by rw [(unhide HOKB).codes]; have := unhide HVT; omega
        have hfl : b.fars.length ≤ 20 := by rw [(unhide HOKB).fars]; have := unhide HVT; omega
        obtain ⟨cs, hcs⟩ : ∃ cs, b.codes = cs := ⟨_, rfl⟩
        obtain ⟨fs, hfs⟩ : ∃ fs, b.fars = fs := ⟨_, rfl⟩
        rw [hcs] at HTR8 hcl
        rw [hfs] at HTR8 hfl
        have HCS := hide hcs
        have HFS := hide hfs
        clear hcs hfs
        obtain ⟨i2, hj2, hx0, hx1, hx2⟩ := info_parts info_Int
        obtain ⟨i3, hj3, hs0, hs1, hs2⟩ := info_parts info_Strike
        obtain ⟨rac0, rbc0, erc0, _, _⟩ := ntRow_at (unhide HTR8).rc
        subst erc0
        have HRC := hide (unhide HTR8).rc
        have b2 := (unhide HTR8).box.2.1 2 _ rfl
        have bz := (unhide HTR8).box.2.2
        have bl := (unhide HTR8).box.1
        have p0 := (unhide HY8).qb.2.1 0 _ rfl
        have pl := (unhide HY8).qb.1
        have hne9 : some A ≠ (Value.slice rac0 cs.length rbc0).ownBlock := fun hc => by have := ((unhide HRC).lt _ hc.symm).1; omega
        go_wp2_with (at_builtin; refine wpList_append_lies _ rfl (.tmp 91) (.tmp 94) 26 rfl (A + 1) 3 i2 (.int .i64 0) 1 8 Tryz.underlying26 hj2 hx0 hx1 hx2 rfl (by decide) _ cs.length (cs.flatMap ntF) rfl ((unhide HRC).below bw0) ⟨w8.heap.size, 0, none⟩ 1 1 (ntF code) rfl rfl (nt_news (boxed_alloc _ _ _)) (nt_one _) (by omega) (by unfold maxLen; omega) (by omega) (by first | omega | (simp; omega)) _ rfl ?_)
        intro gc0 capc0 w9 hown hgrow hat hlt9
        have hbX : Below w8.heap.size w8 (w8.alloc (.cells #[.int .i64 code] 3)) := bw0
        have hA9 := boxed_grown' hgrow ((unhide HTR8).box.below hbX) hne9
        have e2 := hA9.2.1 2 _ rfl
        have ez := hA9.2.2
        have el := hA9.1
        have HTR10 := hide (TkR.addC (g := gc0) ((unhide HTR8).below hbX) hgrow (Row.snoc hown) rfl (by rcases hat with h | h; exact Or.inl h; exact Or.inr (by simp; omega)))
        have HY10 := hide ((((unhide HY8).below (Nat.le_of_lt bl) hbX).grown (Nat.le_trans (Nat.le_of_lt bl) hbX.size) hgrow (fun k hk => ⟨Nat.le_trans (Nat.le_succ A) ((unhide HRC).lt k hk).1, 3, ((unhide HRC).below hbX).ty hk, Or.inr (Or.inl rfl)⟩)).set (((unhide HTR8).ty.below hbX).same (hgrow.block A (Nat.lt_of_lt_of_le bl hbX.size) hne9)) 2 (.slice (some ⟨gc0, 0, none⟩) (cs.length + 1) capc0))
        clear hown hgrow hat hlt9 hbX hA9 b2 bz bl p0 pl hne9 HRC HTR8 HY8
        go_upto_region 23 with fail
        clear e2 ez el
        generalize w9.setCell ⟨A, 2, none⟩ (.slice (some ⟨gc0, 0, none⟩) (cs.length + 1) capc0) = w10 at HTR10 HY10 ⊢
        obtain ⟨raf0, rbf0, erf0, _, _⟩ := ntRow_at (unhide HTR10).rf
        subst erf0
        have HRC := hide (unhide HTR10).rf
        have b2 := (unhide HTR10).box.2.1 3 _ rfl
        have bz := (unhide HTR10).box.2.2
        have bl := (unhide HTR10).box.1
        have p0 := (unhide HY10).qb.2.1 1 _ rfl
        have pl := (unhide HY10).qb.1
        have hne9 : some A ≠ (Value.slice raf0 fs.length rbf0).ownBlock := fun hc => by have := ((unhide HRC).lt _ hc.symm).1; omega
        go_wp2_with (at_builtin; refine wpList_append_lies _ rfl (.tmp 98) (.tmp 101) 26 rfl (A + 1) 3 i2 (.int .i64 0) 1 8 Tryz.underlying26 hj2 hx0 hx1 hx2 rfl (by decide) _ fs.length (fs.flatMap ntF) rfl ((unhide HRC).below bw0) ⟨w10.heap.size, 0, none⟩ 1 1 (ntF m.far) rfl rfl (nt_news (boxed_alloc _ _ _)) (nt_one _) (by omega) (by unfold maxLen; omega) (by omega) (by first | omega | (simp; omega)) _ rfl ?_)
        intro gf0 capf0 w11 hown hgrow hat hlt9
        have hbX : Below w10.heap.size w10 (w10.alloc (.cells #[.int .i64 m.far] 3)) := bw0
        have hA9 := boxed_grown' hgrow ((unhide HTR10).box.below hbX) hne9
        have e2 := hA9.2.1 3 _ rfl
        have ez := hA9.2.2
        have el := hA9.1
        have HTR12 := hide (TkR.addF (g := gf0) ((unhide HTR10).below hbX) hgrow (Row.snoc hown) rfl (by rcases hat with h | h; exact Or.inl h; exact Or.inr (by simp; omega)))
        have HY12 := hide ((((unhide HY10).below (Nat.le_of_lt bl) hbX).grown (Nat.le_trans (Nat.le_of_lt bl) hbX.size) hgrow (fun k hk => ⟨Nat.le_trans (Nat.le_succ A) ((unhide HRC).lt k hk).1, 3, ((unhide HRC).below hbX).ty hk, Or.inr (Or.inl rfl)⟩)).set (((unhide HTR10).ty.below hbX).same (hgrow.block A (Nat.lt_of_lt_of_le bl hbX.size) hne9)) 3 (.slice (some ⟨gf0, 0, none⟩) (fs.length + 1) capf0))
        clear hown hgrow hat hlt9 hbX hA9 b2 bz bl p0 pl hne9 HRC HTR10 HY10
        go_upto_region 24 with fail
        clear e2 ez el
        generalize w11.setCell ⟨A, 3, none⟩ (.slice (some ⟨gf0, 0, none⟩) (fs.length + 1) capf0) = w12 at HTR12 HY12 ⊢
        have x1 := (unhide HTR12).box.2.1 1 _ rfl
        have xl := (unhide HTR12).box.1
        go_wp2_with fail
        clear x1 xl
        go_loopw [107] (fun z wy => ∃ (k : Nat) (vk' : Value), k ≤ b.ts.length ∧ z = .int .i64 k ∧ Hid (TkR False wy A (b.ts.set i t') (cs ++ [code]) (fs ++ [m.far]) (b.strikes ++ strL i ((List.range k).filter fun j => hits (bodyParts n t' ++ m.over) (bodyParts n (trAt (b.ts.set i t') j)))) (.slice (some ⟨g, 0, none⟩) b.ts.length gc) (.slice (some ⟨gc0, 0, none⟩) (cs.length + 1) capc0) (.slice (some ⟨gf0, 0, none⟩) (fs.length + 1) capf0) vk') ∧ Hid (TkY w A [.slice x n.pieces.length ca, .slice c n.joints.length cc] [.bool false, .slice none 0 0, .slice none 0 0, .slice none 0 0, .slice none 0 0] [.int .i64 code, .int .i64 m.far, .int .i64 joint, .int .i64 m.s.piece, .int .i64 m.s.at_, .int .i64 m.s.way, .int .i64 t.long, .slice ba m.xs.length bc, .slice oa m.over.length oc] Q (.slice oa m.over.length oc) (.slice ba m.xs.length bc) m.over m.xs wy)) (fun z _ => b.ts.length - (intOf z).toNat)
        case atStart => exact ⟨0, vk, Nat.zero_le _, rfl, hide (by rw [show strL i ((List.range 0).filter fun j => hits (bodyParts n t' ++ m.over) (bodyParts n (trAt (b.ts.set i t') j))) = [] from rfl, List.append_nil]; exact unhide HTR12), HY12⟩
        case round =>
         obtain ⟨k, vk', hk4, rfl, HTR, HY⟩ := hrel
         by_cases hlt4 : k < b.ts.length
         ·obtain ⟨g3, gc3, sa3, sc3, hve3, hgl3, hgt3, c0, c1, c2, c3, c4, hst3⟩ := (unhide HTR).rt.get (i := k) (by rw [List.length_set]; exact hlt4)
          simp only [Value.slice.injEq, Option.some.injEq, Addr.mk.injEq, and_true, List.length_set, true_and] at hve3
          obtain ⟨rfl, rfl⟩ := hve3
          obtain ⟨y, hy⟩ : ∃ y, trAt (b.ts.set i t') k = y := ⟨_, rfl⟩
          rw [hy] at c0 c1 c2 c3 c4 hst3
          have hfity : TrainFits n y := by
           rw [← hy]
           rcases List.mem_or_eq_of_mem_set (trAt_mem (show k < (b.ts.set i t').length by rw [List.length_set]; exact hlt4)) with h | h
           ·exact (unhide HOKB).fits _ h
           ·rw [h]; exact unhide HFIT'
          have hyl := bodyParts_len hG hfity
          have htl' := bodyParts_len hG (unhide HFIT')
          obtain ⟨ks, hks⟩ : ∃ ks, b.strikes ++ strL i ((List.range k).filter fun j => hits (bodyParts n t' ++ m.over) (bodyParts n (trAt (b.ts.set i t') j))) = ks := ⟨_, rfl⟩
          have hksl : ks.length ≤ 1000 := by
           rw [← hks, List.length_append]
           have h1 := strL_len i ((List.range k).filter fun j => hits (bodyParts n t' ++ m.over) (bodyParts n (trAt (b.ts.set i t') j)))
           have h2 := List.length_filter_le (fun j => hits (bodyParts n t' ++ m.over) (bodyParts n (trAt (b.ts.set i t') j))) (List.range k)
           rw [List.length_range] at h2
           have := unhide HVT
           omega
          have HSUC : Hid (b.strikes ++ strL i ((List.range (k + 1)).filter fun j => hits (bodyParts n t' ++ m.over) (bodyParts n (trAt (b.ts.set i t') j))) = ks ++ (if k ≠ i ∧ hits (bodyParts n t' ++ m.over) (bodyParts n y) = true then [((i : Int), (k : Int))] else [])) := by
           unfold Hid
           have e := strL_succ i k (fun j => hits (bodyParts n t' ++ m.over) (bodyParts n (trAt (b.ts.set i t') j)))
           (try dsimp only at e)
           rw [hy] at e
           rw [e, ← List.append_assoc, hks]
          rw [hks] at HTR
          have HST3 := hide hst3
          have HFITY := hide hfity
          have HVY := hide ((unhide HV).below (unhide HY).bel)
          have x1 := (unhide HTR).box.2.1 1 _ rfl
          have xl := (unhide HTR).box.1
          have q0 := (unhide HY).n.2.1 0 _ rfl
          have q1 := (unhide HY).n.2.1 1 _ rfl
          have nl := (unhide HY).n.1
          have p3 := (unhide HY).qb.2.1 3 _ rfl
          have p4 := (unhide HY).qb.2.1 4 _ rfl
          have p5 := (unhide HY).qb.2.1 5 _ rfl
          have p6 := (unhide HY).qb.2.1 6 _ rfl
          have p7 := (unhide HY).qb.2.1 7 _ rfl
          have p8 := (unhide HY).qb.2.1 8 _ rfl
          have pl := (unhide HY).qb.1
          have gl3 := hgl3.2
          have hlt4' : (k : Int) < (b.ts.length : Int) := by omega
          have HS3 : Hid (∀ wx, Below wr.heap.size wr wx → (fun w' => w'.cell? ⟨w.heap.size, 0, none⟩ = some (.slice x n.pieces.length ca) ∧ w'.cell? ⟨w.heap.size, 1, none⟩ = some (.slice c n.joints.length cc) ∧ w'.cell? ⟨A, 1, none⟩ = some (.slice (some ⟨g, 0, none⟩) b.ts.length gc) ∧ w'.cell? ⟨Q, 3, none⟩ = some (.int .i64 m.s.piece) ∧ w'.cell? ⟨Q, 4, none⟩ = some (.int .i64 m.s.at_) ∧ w'.cell? ⟨Q, 5, none⟩ = some (.int .i64 m.s.way) ∧ w'.cell? ⟨Q, 6, none⟩ = some (.int .i64 t.long) ∧ w'.cell? ⟨Q, 7, none⟩ = some (.slice ba m.xs.length bc) ∧ w'.cell? ⟨Q, 8, none⟩ = some (.slice oa m.over.length oc) ∧ w'.cell? ⟨g, k * 5, none⟩ = some (.int .i64 y.front.piece) ∧ w'.cell? ⟨g, k * 5 + 1, none⟩ = some (.int .i64 y.front.at_) ∧ w'.cell? ⟨g, k * 5 + 2, none⟩ = some (.int .i64 y.front.way) ∧ w'.cell? ⟨g, k * 5 + 3, none⟩ = some (.int .i64 y.long) ∧ w'.cell? ⟨g, k * 5 + 4, none⟩ = some (.slice sa3 y.back.length sc3)) wx) := fun wx hb => ⟨(hb.cell (p := ⟨w.heap.size, 0, none⟩) nl).trans q0, (hb.cell (p := ⟨w.heap.size, 1, none⟩) nl).trans q1, (hb.cell (p := ⟨A, 1, none⟩) xl).trans x1, (hb.cell (p := ⟨Q, 3, none⟩) pl).trans p3, (hb.cell (p := ⟨Q, 4, none⟩) pl).trans p4, (hb.cell (p := ⟨Q, 5, none⟩) pl).trans p5, (hb.cell (p := ⟨Q, 6, none⟩) pl).trans p6, (hb.cell (p := ⟨Q, 7, none⟩) pl).trans p7, (hb.cell (p := ⟨Q, 8, none⟩) pl).trans p8, (hb.cell (p := ⟨g, k * 5, none⟩) gl3).trans c0, (hb.cell (p := ⟨g, k * 5 + 1, none⟩) gl3).trans c1, (hb.cell (p := ⟨g, k * 5 + 2, none⟩) gl3).trans c2, (hb.cell (p := ⟨g, k * 5 + 3, none⟩) gl3).trans c3, (hb.cell (p := ⟨g, k * 5 + 4, none⟩) gl3).trans c4⟩
          clear hks hy hst3 hfity hgt3 hgl3 x1 q0 q1 p3 p4 p5 p6 p7 p8 c0 c1 c2 c3 c4
          go_wp2_with fail
          go_cut [138] (fun r wx => ∃ bb : Bool, r = .bool bb ∧ Hid (bb = true ↔ (k ≠ i ∧ hits (bodyParts n t' ++ m.over) (bodyParts n y) = true)) ∧ Hid (Below wr.heap.size wr wx))
          case first =>
           by_cases hki : k = i
           ·have e1 : ((k : Int) != (i : Int)) = false := by simp [hki]
            have e2 : (k : Int) = (i : Int) := by omega
            have HKI := hide hki
            clear hki
            refine wp_region_held_drew (S := fun w' => w'.cell? ⟨w.heap.size, 0, none⟩ = some (.slice x n.pieces.length ca) ∧ w'.cell? ⟨w.heap.size, 1, none⟩ = some (.slice c n.joints.length cc) ∧ w'.cell? ⟨A, 1, none⟩ = some (.slice (some ⟨g, 0, none⟩) b.ts.length gc) ∧ w'.cell? ⟨Q, 3, none⟩ = some (.int .i64 m.s.piece) ∧ w'.cell? ⟨Q, 4, none⟩ = some (.int .i64 m.s.at_) ∧ w'.cell? ⟨Q, 5, none⟩ = some (.int .i64 m.s.way) ∧ w'.cell? ⟨Q, 6, none⟩ = some (.int .i64 t.long) ∧ w'.cell? ⟨Q, 7, none⟩ = some (.slice ba m.xs.length bc) ∧ w'.cell? ⟨Q, 8, none⟩ = some (.slice oa m.over.length oc) ∧ w'.cell? ⟨g, k * 5, none⟩ = some (.int .i64 y.front.piece) ∧ w'.cell? ⟨g, k * 5 + 1, none⟩ = some (.int .i64 y.front.at_) ∧ w'.cell? ⟨g, k * 5 + 2, none⟩ = some (.int .i64 y.front.way) ∧ w'.cell? ⟨g, k * 5 + 3, none⟩ = some (.int .i64 y.long) ∧ w'.cell? ⟨g, k * 5 + 4, none⟩ = some (.slice sa3 y.back.length sc3)) (by kernel_rfl) ?_ (fun hHeld => ?_)
            ·exact unhide HS3 _ (bw0 : Below wr.heap.size wr wr.drew)
            refine wpAnyH_take (i := 0) (v := ?vtS1) rfl (by kernel_rfl) (by kernel_rfl) (by kernel_rfl) (fun _ _ _ h => h) (Or.inl ⟨by rfl, ?ytS1⟩) (by assumption) ?rtS1
            case ytS1 => (intro w0 hSw; (try dsimp only at hSw); go_simp; (try with_reducible rfl))
            (try simp only [Act.put, List.getElem_toArray, List.getElem_cons_zero, List.getElem_cons_succ, List.setIfInBounds_toArray, List.set_cons_zero, List.set_cons_succ])
            refine wpAnyH_take (i := 1) (v := ?vtS2) rfl (by kernel_rfl) (by kernel_rfl) (by kernel_rfl) (fun _ _ _ h => h) (Or.inl ⟨by rfl, ?ytS2⟩) (by assumption) ?rtS2
            case ytS2 => (intro w0 hSw; (try dsimp only at hSw); go_simp; (try with_reducible rfl))
            (try simp only [Act.put, List.getElem_toArray, List.getElem_cons_zero, List.getElem_cons_succ, List.setIfInBounds_toArray, List.set_cons_zero, List.set_cons_succ])
            refine wpAnyH_take (i := 2) (v := ?vtS3) rfl (by kernel_rfl) (by kernel_rfl) (by kernel_rfl) (fun _ _ _ h => h) (Or.inl ⟨by rfl, ?ytS3⟩) (by assumption) ?rtS3
            case ytS3 => (intro w0 hSw; (try dsimp only at hSw); go_simp; (try with_reducible rfl))
            (try simp only [Act.put, List.getElem_toArray, List.getElem_cons_zero, List.getElem_cons_succ, List.setIfInBounds_toArray, List.set_cons_zero, List.set_cons_succ])
            refine wpAnyH_take (i := 3) (v := ?vtS4) rfl (by kernel_rfl) (by kernel_rfl) (by kernel_rfl) (fun _ _ _ h => h) (Or.inl ⟨by rfl, ?ytS4⟩) (by assumption) ?rtS4
            case ytS4 => (intro w0 hSw; (try dsimp only at hSw); go_simp; (try with_reducible rfl))
            (try simp only [Act.put, List.getElem_toArray, List.getElem_cons_zero, List.getElem_cons_succ, List.setIfInBounds_toArray, List.set_cons_zero, List.set_cons_succ])
            refine wpAnyH_take (i := 4) (v := undef) rfl (by kernel_rfl) (by kernel_rfl) (by kernel_rfl) (fun _ _ _ h => h) (Or.inr ⟨by rfl, rfl⟩) (by assumption) ?_
            (try simp only [Act.put, List.getElem_toArray, List.getElem_cons_zero, List.getElem_cons_succ, List.setIfInBounds_toArray, List.set_cons_zero, List.set_cons_succ])
            refine wpAnyH_take (i := 5) (v := undef) rfl (by kernel_rfl) (by kernel_rfl) (by kernel_rfl) (fun _ _ _ h => h) (Or.inr ⟨by rfl, rfl⟩) (by assumption) ?_
            (try simp only [Act.put, List.getElem_toArray, List.getElem_cons_zero, List.getElem_cons_succ, List.setIfInBounds_toArray, List.set_cons_zero, List.set_cons_succ])
            refine wpAnyH_take (i := 6) (v := undef) rfl (by kernel_rfl) (by kernel_rfl) (by kernel_rfl) (fun _ _ _ h => h) (Or.inr ⟨by rfl, rfl⟩) (by assumption) ?_
            (try simp only [Act.put, List.getElem_toArray, List.getElem_cons_zero, List.getElem_cons_succ, List.setIfInBounds_toArray, List.set_cons_zero, List.set_cons_succ])
            refine wpAnyH_take (i := 7) (v := undef) rfl (by kernel_rfl) (by kernel_rfl) (by kernel_rfl) (fun _ _ _ h => h) (Or.inr ⟨by rfl, rfl⟩) (by assumption) ?_
            (try simp only [Act.put, List.getElem_toArray, List.getElem_cons_zero, List.getElem_cons_succ, List.setIfInBounds_toArray, List.set_cons_zero, List.set_cons_succ])
            refine wpAnyH_take (i := 8) (v := undef) rfl (by kernel_rfl) (by kernel_rfl) (by kernel_rfl) (fun _ _ _ h => h) (Or.inr ⟨by rfl, rfl⟩) (by assumption) ?_
            (try simp only [Act.put, List.getElem_toArray, List.getElem_cons_zero, List.getElem_cons_succ, List.setIfInBounds_toArray, List.set_cons_zero, List.set_cons_succ])
            refine wpAnyH_take (i := 9) (v := undef) rfl (by kernel_rfl) (by kernel_rfl) (by kernel_rfl) (fun _ _ _ h => h) (Or.inr ⟨by rfl, rfl⟩) (by assumption) ?_
            (try simp only [Act.put, List.getElem_toArray, List.getElem_cons_zero, List.getElem_cons_succ, List.setIfInBounds_toArray, List.set_cons_zero, List.set_cons_succ])
            refine wpAnyH_take (i := 10) (v := undef) rfl (by kernel_rfl) (by kernel_rfl) (by kernel_rfl) (fun _ _ _ h => h) (Or.inr ⟨by rfl, rfl⟩) (by assumption) ?_
            (try simp only [Act.put, List.getElem_toArray, List.getElem_cons_zero, List.getElem_cons_succ, List.setIfInBounds_toArray, List.set_cons_zero, List.set_cons_succ])
            refine wpAnyH_take (i := 11) (v := undef) rfl (by kernel_rfl) (by kernel_rfl) (by kernel_rfl) (fun _ _ _ h => h) (Or.inr ⟨by rfl, rfl⟩) (by assumption) ?_
            (try simp only [Act.put, List.getElem_toArray, List.getElem_cons_zero, List.getElem_cons_succ, List.setIfInBounds_toArray, List.set_cons_zero, List.set_cons_succ])
            refine wpAnyH_take (i := 12) (v := undef) rfl (by kernel_rfl) (by kernel_rfl) (by kernel_rfl) (fun _ _ _ h => h) (Or.inr ⟨by rfl, rfl⟩) (by assumption) ?_
            (try simp only [Act.put, List.getElem_toArray, List.getElem_cons_zero, List.getElem_cons_succ, List.setIfInBounds_toArray, List.set_cons_zero, List.set_cons_succ])
            refine wpAnyH_take (i := 13) (v := undef) rfl (by kernel_rfl) (by kernel_rfl) (by kernel_rfl) (fun _ _ _ h => h) (Or.inr ⟨by rfl, rfl⟩) (by assumption) ?_
            (try simp only [Act.put, List.getElem_toArray, List.getElem_cons_zero, List.getElem_cons_succ, List.setIfInBounds_toArray, List.set_cons_zero, List.set_cons_succ])
            refine wpAnyH_take (i := 14) (v := undef) rfl (by kernel_rfl) (by kernel_rfl) (by kernel_rfl) (fun _ _ _ h => h) (Or.inr ⟨by rfl, rfl⟩) (by assumption) ?_
            (try simp only [Act.put, List.getElem_toArray, List.getElem_cons_zero, List.getElem_cons_succ, List.setIfInBounds_toArray, List.set_cons_zero, List.set_cons_succ])
            refine wpAnyH_take (i := 15) (v := undef) rfl (by kernel_rfl) (by kernel_rfl) (by kernel_rfl) (fun _ _ _ h => h) (Or.inr ⟨by rfl, rfl⟩) (by assumption) ?_
            (try simp only [Act.put, List.getElem_toArray, List.getElem_cons_zero, List.getElem_cons_succ, List.setIfInBounds_toArray, List.set_cons_zero, List.set_cons_succ])
            refine wpAnyH_take (i := 16) (v := undef) rfl (by kernel_rfl) (by kernel_rfl) (by kernel_rfl) (fun _ _ _ h => h) (Or.inr ⟨by rfl, rfl⟩) (by assumption) ?_
            (try simp only [Act.put, List.getElem_toArray, List.getElem_cons_zero, List.getElem_cons_succ, List.setIfInBounds_toArray, List.set_cons_zero, List.set_cons_succ])
            refine wpAnyH_take (i := 17) (v := undef) rfl (by kernel_rfl) (by kernel_rfl) (by kernel_rfl) (fun _ _ _ h => h) (Or.inr ⟨by rfl, rfl⟩) (by assumption) ?_
            (try simp only [Act.put, List.getElem_toArray, List.getElem_cons_zero, List.getElem_cons_succ, List.setIfInBounds_toArray, List.set_cons_zero, List.set_cons_succ])
            refine wpAnyH_take (i := 18) (v := undef) rfl (by kernel_rfl) (by kernel_rfl) (by kernel_rfl) (fun _ _ _ h => h) (Or.inr ⟨by rfl, rfl⟩) (by assumption) ?_
            (try simp only [Act.put, List.getElem_toArray, List.getElem_cons_zero, List.getElem_cons_succ, List.setIfInBounds_toArray, List.set_cons_zero, List.set_cons_succ])
            refine wpAnyH_take (i := 19) (v := undef) rfl (by kernel_rfl) (by kernel_rfl) (by kernel_rfl) (fun _ _ _ h => h) (Or.inr ⟨by rfl, rfl⟩) (by assumption) ?_
            (try simp only [Act.put, List.getElem_toArray, List.getElem_cons_zero, List.getElem_cons_succ, List.setIfInBounds_toArray, List.set_cons_zero, List.set_cons_succ])
            refine wpAnyH_take (i := 20) (v := undef) rfl (by kernel_rfl) (by kernel_rfl) (by kernel_rfl) (fun _ _ _ h => h) (Or.inr ⟨by rfl, rfl⟩) (by assumption) ?_
            (try simp only [Act.put, List.getElem_toArray, List.getElem_cons_zero, List.getElem_cons_succ, List.setIfInBounds_toArray, List.set_cons_zero, List.set_cons_succ])
            refine wpAnyH_take (i := 21) (v := undef) rfl (by kernel_rfl) (by kernel_rfl) (by kernel_rfl) (fun _ _ _ h => h) (Or.inr ⟨by rfl, rfl⟩) (by assumption) ?_
            (try simp only [Act.put, List.getElem_toArray, List.getElem_cons_zero, List.getElem_cons_succ, List.setIfInBounds_toArray, List.set_cons_zero, List.set_cons_succ])
            refine wpAnyH_take (i := 22) (v := undef) rfl (by kernel_rfl) (by kernel_rfl) (by kernel_rfl) (fun _ _ _ h => h) (Or.inr ⟨by rfl, rfl⟩) (by assumption) ?_
            (try simp only [Act.put, List.getElem_toArray, List.getElem_cons_zero, List.getElem_cons_succ, List.setIfInBounds_toArray, List.set_cons_zero, List.set_cons_succ])
            refine wpAnyH_take (i := 23) (v := undef) rfl (by kernel_rfl) (by kernel_rfl) (by kernel_rfl) (fun _ _ _ h => h) (Or.inr ⟨by rfl, rfl⟩) (by assumption) ?_
            (try simp only [Act.put, List.getElem_toArray, List.getElem_cons_zero, List.getElem_cons_succ, List.setIfInBounds_toArray, List.set_cons_zero, List.set_cons_succ])
            refine wpAnyH_take (i := 24) (v := undef) rfl (by kernel_rfl) (by kernel_rfl) (by kernel_rfl) (fun _ _ _ h => h) (Or.inr ⟨by rfl, rfl⟩) (by assumption) ?_
            (try simp only [Act.put, List.getElem_toArray, List.getElem_cons_zero, List.getElem_cons_succ, List.setIfInBounds_toArray, List.set_cons_zero, List.set_cons_succ])
            refine wpAnyH_take (i := 25) (v := undef) rfl (by kernel_rfl) (by kernel_rfl) (by kernel_rfl) (fun _ _ _ h => h) (Or.inr ⟨by rfl, rfl⟩) (by assumption) ?_
            (try simp only [Act.put, List.getElem_toArray, List.getElem_cons_zero, List.getElem_cons_succ, List.setIfInBounds_toArray, List.set_cons_zero, List.set_cons_succ])
            refine wpAnyH_take (i := 26) (v := undef) rfl (by kernel_rfl) (by kernel_rfl) (by kernel_rfl) (fun _ _ _ h => h) (Or.inr ⟨by rfl, rfl⟩) (by assumption) ?_
            (try simp only [Act.put, List.getElem_toArray, List.getElem_cons_zero, List.getElem_cons_succ, List.setIfInBounds_toArray, List.set_cons_zero, List.set_cons_succ])
            refine wpAnyH_take (i := 27) (v := undef) rfl (by kernel_rfl) (by kernel_rfl) (by kernel_rfl) (fun _ _ _ h => h) (Or.inr ⟨by rfl, rfl⟩) (by assumption) ?_
            (try simp only [Act.put, List.getElem_toArray, List.getElem_cons_zero, List.getElem_cons_succ, List.setIfInBounds_toArray, List.set_cons_zero, List.set_cons_succ])
            refine wpAnyH_take (i := 28) (v := ?vtS29) rfl (by kernel_rfl) (by kernel_rfl) (by kernel_rfl) (fun _ _ _ h => h) (Or.inl ⟨by rfl, ?ytS29⟩) (by assumption) ?rtS29
            case ytS29 => (intro w0 hSw; (try dsimp only at hSw); go_simp; (try with_reducible rfl))
            (try simp only [Act.put, List.getElem_toArray, List.getElem_cons_zero, List.getElem_cons_succ, List.setIfInBounds_toArray, List.set_cons_zero, List.set_cons_succ])
            refine wpAnyH_done (by kernel_rfl) ?_ _
            go_wp2_with fail
            go_meet
            exact ⟨false, rfl, hide ⟨fun h => by simp at h, fun h => absurd (unhide HKI) h.1⟩, hide bw0⟩
           ·have e1 : ((k : Int) != (i : Int)) = true := by simp; omega
            have e2 : ¬ (k : Int) = (i : Int) := by omega
            by_cases hT1 : TouchL m.over (bodyParts n y)
            ·have HT1 := hide hT1
             clear hT1
             refine wp_region_held_drew (S := fun w' => w'.cell? ⟨w.heap.size, 0, none⟩ = some (.slice x n.pieces.length ca) ∧ w'.cell? ⟨w.heap.size, 1, none⟩ = some (.slice c n.joints.length cc) ∧ w'.cell? ⟨A, 1, none⟩ = some (.slice (some ⟨g, 0, none⟩) b.ts.length gc) ∧ w'.cell? ⟨Q, 3, none⟩ = some (.int .i64 m.s.piece) ∧ w'.cell? ⟨Q, 4, none⟩ = some (.int .i64 m.s.at_) ∧ w'.cell? ⟨Q, 5, none⟩ = some (.int .i64 m.s.way) ∧ w'.cell? ⟨Q, 6, none⟩ = some (.int .i64 t.long) ∧ w'.cell? ⟨Q, 7, none⟩ = some (.slice ba m.xs.length bc) ∧ w'.cell? ⟨Q, 8, none⟩ = some (.slice oa m.over.length oc) ∧ w'.cell? ⟨g, k * 5, none⟩ = some (.int .i64 y.front.piece) ∧ w'.cell? ⟨g, k * 5 + 1, none⟩ = some (.int .i64 y.front.at_) ∧ w'.cell? ⟨g, k * 5 + 2, none⟩ = some (.int .i64 y.front.way) ∧ w'.cell? ⟨g, k * 5 + 3, none⟩ = some (.int .i64 y.long) ∧ w'.cell? ⟨g, k * 5 + 4, none⟩ = some (.slice sa3 y.back.length sc3)) (by kernel_rfl) ?_ (fun hHeld => ?_)
             ·exact unhide HS3 _ (bw0 : Below wr.heap.size wr wr.drew)
             refine wpAnyH_take (i := 0) (v := ?vtA1) rfl (by kernel_rfl) (by kernel_rfl) (by kernel_rfl) (fun _ _ _ h => h) (Or.inl ⟨by rfl, ?ytA1⟩) (by assumption) ?rtA1
             case ytA1 => (intro w0 hSw; (try dsimp only at hSw); go_simp; (try with_reducible rfl))
             (try simp only [Act.put, List.getElem_toArray, List.getElem_cons_zero, List.getElem_cons_succ, List.setIfInBounds_toArray, List.set_cons_zero, List.set_cons_succ])
             refine wpAnyH_take (i := 1) (v := ?vtA2) rfl (by kernel_rfl) (by kernel_rfl) (by kernel_rfl) (fun _ _ _ h => h) (Or.inl ⟨by rfl, ?ytA2⟩) (by assumption) ?rtA2
             case ytA2 => (intro w0 hSw; (try dsimp only at hSw); go_simp; (try with_reducible rfl))
             (try simp only [Act.put, List.getElem_toArray, List.getElem_cons_zero, List.getElem_cons_succ, List.setIfInBounds_toArray, List.set_cons_zero, List.set_cons_succ])
             refine wpAnyH_take (i := 2) (v := ?vtA3) rfl (by kernel_rfl) (by kernel_rfl) (by kernel_rfl) (fun _ _ _ h => h) (Or.inl ⟨by rfl, ?ytA3⟩) (by assumption) ?rtA3
             case ytA3 => (intro w0 hSw; (try dsimp only at hSw); go_simp; (try with_reducible rfl))
             (try simp only [Act.put, List.getElem_toArray, List.getElem_cons_zero, List.getElem_cons_succ, List.setIfInBounds_toArray, List.set_cons_zero, List.set_cons_succ])
             refine wpAnyH_take (i := 3) (v := ?vtA4) rfl (by kernel_rfl) (by kernel_rfl) (by kernel_rfl) (fun _ _ _ h => h) (Or.inl ⟨by rfl, ?ytA4⟩) (by assumption) ?rtA4
             case ytA4 => (intro w0 hSw; (try dsimp only at hSw); go_simp; (try with_reducible rfl))
             (try simp only [Act.put, List.getElem_toArray, List.getElem_cons_zero, List.getElem_cons_succ, List.setIfInBounds_toArray, List.set_cons_zero, List.set_cons_succ])
             refine wpAnyH_take (i := 4) (v := ?vtA5) rfl (by kernel_rfl) (by kernel_rfl) (by kernel_rfl) (fun _ _ _ h => h) (Or.inl ⟨by rfl, ?ytA5⟩) (by assumption) ?rtA5
             case ytA5 => (intro w0 hSw; (try dsimp only at hSw); go_simp; (try with_reducible rfl))
             (try simp only [Act.put, List.getElem_toArray, List.getElem_cons_zero, List.getElem_cons_succ, List.setIfInBounds_toArray, List.set_cons_zero, List.set_cons_succ])
             refine wpAnyH_take (i := 5) (v := ?vtA6) rfl (by kernel_rfl) (by kernel_rfl) (by kernel_rfl) (fun _ _ _ h => h) (Or.inl ⟨by rfl, ?ytA6⟩) (by assumption) ?rtA6
             case ytA6 => (intro w0 hSw; (try dsimp only at hSw); go_simp; (try with_reducible rfl))
             (try simp only [Act.put, List.getElem_toArray, List.getElem_cons_zero, List.getElem_cons_succ, List.setIfInBounds_toArray, List.set_cons_zero, List.set_cons_succ])
             refine wpAnyH_take (i := 6) (v := ?vtA7) rfl (by kernel_rfl) (by kernel_rfl) (by kernel_rfl) (fun _ _ _ h => h) (Or.inl ⟨by rfl, ?ytA7⟩) (by assumption) ?rtA7
             case ytA7 => (intro w0 hSw; (try dsimp only at hSw); go_simp; (try with_reducible rfl))
             (try simp only [Act.put, List.getElem_toArray, List.getElem_cons_zero, List.getElem_cons_succ, List.setIfInBounds_toArray, List.set_cons_zero, List.set_cons_succ])
             refine wpAnyH_take (i := 7) (v := ?vtA8) rfl (by kernel_rfl) (by kernel_rfl) (by kernel_rfl) (fun _ _ _ h => h) (Or.inl ⟨by rfl, ?ytA8⟩) (by assumption) ?rtA8
             case ytA8 => (intro w0 hSw; (try dsimp only at hSw); go_simp; (try with_reducible rfl))
             (try simp only [Act.put, List.getElem_toArray, List.getElem_cons_zero, List.getElem_cons_succ, List.setIfInBounds_toArray, List.set_cons_zero, List.set_cons_succ])
             refine wpAnyH_take (i := 8) (v := ?vtA9) rfl (by kernel_rfl) (by kernel_rfl) (by kernel_rfl) (fun _ _ _ h => h) (Or.inl ⟨by rfl, ?ytA9⟩) (by assumption) ?rtA9
             case ytA9 => (intro w0 hSw; (try dsimp only at hSw); go_simp; (try with_reducible rfl))
             (try simp only [Act.put, List.getElem_toArray, List.getElem_cons_zero, List.getElem_cons_succ, List.setIfInBounds_toArray, List.set_cons_zero, List.set_cons_succ])
             refine wpAnyH_take (i := 9) (v := ?vtA10) rfl (by kernel_rfl) (by kernel_rfl) (by kernel_rfl) (fun _ _ _ h => h) (Or.inl ⟨by rfl, ?ytA10⟩) (by assumption) ?rtA10
             case ytA10 => (intro w0 hSw; (try dsimp only at hSw); go_simp; (try with_reducible rfl))
             (try simp only [Act.put, List.getElem_toArray, List.getElem_cons_zero, List.getElem_cons_succ, List.setIfInBounds_toArray, List.set_cons_zero, List.set_cons_succ])
             refine wpAnyH_take (i := 10) (v := ?vtA11) rfl (by kernel_rfl) (by kernel_rfl) (by kernel_rfl) (fun _ _ _ h => h) (Or.inl ⟨by rfl, ?ytA11⟩) (by assumption) ?rtA11
             case ytA11 => (intro w0 hSw; (try dsimp only at hSw); go_simp; (try with_reducible rfl))
             (try simp only [Act.put, List.getElem_toArray, List.getElem_cons_zero, List.getElem_cons_succ, List.setIfInBounds_toArray, List.set_cons_zero, List.set_cons_succ])
             refine wpAnyH_take (i := 11) (v := ?vtA12) rfl (by kernel_rfl) (by kernel_rfl) (by kernel_rfl) (fun _ _ _ h => h) (Or.inl ⟨by rfl, ?ytA12⟩) (by assumption) ?rtA12
             case ytA12 => (intro w0 hSw; (try dsimp only at hSw); go_simp; (try with_reducible rfl))
             (try simp only [Act.put, List.getElem_toArray, List.getElem_cons_zero, List.getElem_cons_succ, List.setIfInBounds_toArray, List.set_cons_zero, List.set_cons_succ])
             refine wpAnyH_ready (rs := [12]) (by kernel_rfl) (by simp) ?_
             refine (AllReadyH.cons rfl (fun K hK => ?_) AllReadyH.nil)
             go_simp
             refine (l2body_any _ _ n y _ ((unhide HVY).below (bw0 : Below wr.heap.size wr wr.drew)) ⟨sa3, sc3, rfl, (stRow_at0 (unhide HST3)).below (bw0 : Below wr.heap.size wr wr.drew)⟩ hG (unhide HFITY)).mono ?_
             rintro e w20 ⟨u, rfl, hu, hb⟩
             obtain ⟨r1a, r1b, hue, _, _⟩ := ptRow_at hu
             subst hue
             have hbw20 : Below wr.heap.size wr w20 := below_then (bw0 : Below wr.heap.size wr wr.drew) hb
             have HU1 := hide hu
             clear hu hb
             dsimp only
             refine hK.out _ _ (unhide HS3 _ hbw20) (fun hHeld => ?_)
             clear hK K
             (try simp only [Act.put, List.getElem_toArray, List.getElem_cons_zero, List.getElem_cons_succ, List.setIfInBounds_toArray, List.set_cons_zero, List.set_cons_succ])
             refine wpAnyH_ready (rs := [13]) (by kernel_rfl) (by simp) ?_
             refine (AllReadyH.cons rfl (fun K hK => ?_) AllReadyH.nil)
             go_simp
             refine (l2touch_any oa r1a oc r1b m.over (bodyParts n y) _ (ptRow_at0 ((unhide HY).po.below hbw20)) (ptRow_at0 (unhide HU1)) hovl (by omega)).mono ?_
             rintro e w21 ⟨hr, hb⟩
             obtain rfl : e = .returned (.bool true) := by
              rcases hr with ⟨h, h2⟩ | ⟨h, h2⟩
              ·exact h
              ·exact absurd (unhide HT1) h2
             have hbw21 : Below wr.heap.size wr w21 := below_then hbw20 hb
             clear hr hb
             dsimp only
             refine hK.out _ _ (unhide HS3 _ hbw21) (fun hHeld => ?_)
             clear hK K
             (try simp only [Act.put, List.getElem_toArray, List.getElem_cons_zero, List.getElem_cons_succ, List.setIfInBounds_toArray, List.set_cons_zero, List.set_cons_succ])
             refine wpAnyH_take (i := 14) (v := ?vtA13) rfl (by kernel_rfl) (by kernel_rfl) (by kernel_rfl) (fun _ _ _ h => h) (Or.inl ⟨by rfl, ?ytA13⟩) (by assumption) ?rtA13
             case ytA13 => (intro w0 hSw; (try dsimp only at hSw); go_simp; (try with_reducible rfl))
             (try simp only [Act.put, List.getElem_toArray, List.getElem_cons_zero, List.getElem_cons_succ, List.setIfInBounds_toArray, List.set_cons_zero, List.set_cons_succ])
             refine wpAnyH_take (i := 15) (v := undef) rfl (by kernel_rfl) (by kernel_rfl) (by kernel_rfl) (fun _ _ _ h => h) (Or.inr ⟨by rfl, rfl⟩) (by assumption) ?_
             (try simp only [Act.put, List.getElem_toArray, List.getElem_cons_zero, List.getElem_cons_succ, List.setIfInBounds_toArray, List.set_cons_zero, List.set_cons_succ])
             refine wpAnyH_take (i := 16) (v := undef) rfl (by kernel_rfl) (by kernel_rfl) (by kernel_rfl) (fun _ _ _ h => h) (Or.inr ⟨by rfl, rfl⟩) (by assumption) ?_
             (try simp only [Act.put, List.getElem_toArray, List.getElem_cons_zero, List.getElem_cons_succ, List.setIfInBounds_toArray, List.set_cons_zero, List.set_cons_succ])
             refine wpAnyH_take (i := 17) (v := undef) rfl (by kernel_rfl) (by kernel_rfl) (by kernel_rfl) (fun _ _ _ h => h) (Or.inr ⟨by rfl, rfl⟩) (by assumption) ?_
             (try simp only [Act.put, List.getElem_toArray, List.getElem_cons_zero, List.getElem_cons_succ, List.setIfInBounds_toArray, List.set_cons_zero, List.set_cons_succ])
             refine wpAnyH_take (i := 18) (v := undef) rfl (by kernel_rfl) (by kernel_rfl) (by kernel_rfl) (fun _ _ _ h => h) (Or.inr ⟨by rfl, rfl⟩) (by assumption) ?_
             (try simp only [Act.put, List.getElem_toArray, List.getElem_cons_zero, List.getElem_cons_succ, List.setIfInBounds_toArray, List.set_cons_zero, List.set_cons_succ])
             refine wpAnyH_take (i := 19) (v := undef) rfl (by kernel_rfl) (by kernel_rfl) (by kernel_rfl) (fun _ _ _ h => h) (Or.inr ⟨by rfl, rfl⟩) (by assumption) ?_
             (try simp only [Act.put, List.getElem_toArray, List.getElem_cons_zero, List.getElem_cons_succ, List.setIfInBounds_toArray, List.set_cons_zero, List.set_cons_succ])
             refine wpAnyH_take (i := 20) (v := undef) rfl (by kernel_rfl) (by kernel_rfl) (by kernel_rfl) (fun _ _ _ h => h) (Or.inr ⟨by rfl, rfl⟩) (by assumption) ?_
             (try simp only [Act.put, List.getElem_toArray, List.getElem_cons_zero, List.getElem_cons_succ, List.setIfInBounds_toArray, List.set_cons_zero, List.set_cons_succ])
             refine wpAnyH_take (i := 21) (v := undef) rfl (by kernel_rfl) (by kernel_rfl) (by kernel_rfl) (fun _ _ _ h => h) (Or.inr ⟨by rfl, rfl⟩) (by assumption) ?_
             (try simp only [Act.put, List.getElem_toArray, List.getElem_cons_zero, List.getElem_cons_succ, List.setIfInBounds_toArray, List.set_cons_zero, List.set_cons_succ])
             refine wpAnyH_take (i := 22) (v := undef) rfl (by kernel_rfl) (by kernel_rfl) (by kernel_rfl) (fun _ _ _ h => h) (Or.inr ⟨by rfl, rfl⟩) (by assumption) ?_
             (try simp only [Act.put, List.getElem_toArray, List.getElem_cons_zero, List.getElem_cons_succ, List.setIfInBounds_toArray, List.set_cons_zero, List.set_cons_succ])
             refine wpAnyH_take (i := 23) (v := undef) rfl (by kernel_rfl) (by kernel_rfl) (by kernel_rfl) (fun _ _ _ h => h) (Or.inr ⟨by rfl, rfl⟩) (by assumption) ?_
             (try simp only [Act.put, List.getElem_toArray, List.getElem_cons_zero, List.getElem_cons_succ, List.setIfInBounds_toArray, List.set_cons_zero, List.set_cons_succ])
             refine wpAnyH_take (i := 24) (v := undef) rfl (by kernel_rfl) (by kernel_rfl) (by kernel_rfl) (fun _ _ _ h => h) (Or.inr ⟨by rfl, rfl⟩) (by assumption) ?_
             (try simp only [Act.put, List.getElem_toArray, List.getElem_cons_zero, List.getElem_cons_succ, List.setIfInBounds_toArray, List.set_cons_zero, List.set_cons_succ])
             refine wpAnyH_take (i := 25) (v := undef) rfl (by kernel_rfl) (by kernel_rfl) (by kernel_rfl) (fun _ _ _ h => h) (Or.inr ⟨by rfl, rfl⟩) (by assumption) ?_
             (try simp only [Act.put, List.getElem_toArray, List.getElem_cons_zero, List.getElem_cons_succ, List.setIfInBounds_toArray, List.set_cons_zero, List.set_cons_succ])
             refine wpAnyH_take (i := 26) (v := undef) rfl (by kernel_rfl) (by kernel_rfl) (by kernel_rfl) (fun _ _ _ h => h) (Or.inr ⟨by rfl, rfl⟩) (by assumption) ?_
             (try simp only [Act.put, List.getElem_toArray, List.getElem_cons_zero, List.getElem_cons_succ, List.setIfInBounds_toArray, List.set_cons_zero, List.set_cons_succ])
             refine wpAnyH_take (i := 27) (v := ?vtA26) rfl (by kernel_rfl) (by kernel_rfl) (by kernel_rfl) (fun _ _ _ h => h) (Or.inl ⟨by rfl, ?ytA26⟩) (by assumption) ?rtA26
             case ytA26 => (intro w0 hSw; (try dsimp only at hSw); go_simp; (try with_reducible rfl))
             (try simp only [Act.put, List.getElem_toArray, List.getElem_cons_zero, List.getElem_cons_succ, List.setIfInBounds_toArray, List.set_cons_zero, List.set_cons_succ])
             refine wpAnyH_take (i := 28) (v := ?vtA27) rfl (by kernel_rfl) (by kernel_rfl) (by kernel_rfl) (fun _ _ _ h => h) (Or.inl ⟨by rfl, ?ytA27⟩) (by assumption) ?rtA27
             case ytA27 => (intro w0 hSw; (try dsimp only at hSw); go_simp; (try with_reducible rfl))
             (try simp only [Act.put, List.getElem_toArray, List.getElem_cons_zero, List.getElem_cons_succ, List.setIfInBounds_toArray, List.set_cons_zero, List.set_cons_succ])
             refine wpAnyH_done (by kernel_rfl) ?_ _
             go_wp2_with fail
             go_meet
             exact ⟨true, rfl, hide ⟨fun _ => ⟨fun h => e2 (by rw [h]), (hits_or _ _ _).2 (Or.inl (unhide HT1))⟩, fun _ => rfl⟩, hide hbw21⟩
            ·have HT1 := hide hT1
             clear hT1
             by_cases hT2 : TouchL (bodyParts n t') (bodyParts n y)
             ·have HT2 := hide hT2
              clear hT2
              refine wp_region_held_drew (S := fun w' => w'.cell? ⟨w.heap.size, 0, none⟩ = some (.slice x n.pieces.length ca) ∧ w'.cell? ⟨w.heap.size, 1, none⟩ = some (.slice c n.joints.length cc) ∧ w'.cell? ⟨A, 1, none⟩ = some (.slice (some ⟨g, 0, none⟩) b.ts.length gc) ∧ w'.cell? ⟨Q, 3, none⟩ = some (.int .i64 m.s.piece) ∧ w'.cell? ⟨Q, 4, none⟩ = some (.int .i64 m.s.at_) ∧ w'.cell? ⟨Q, 5, none⟩ = some (.int .i64 m.s.way) ∧ w'.cell? ⟨Q, 6, none⟩ = some (.int .i64 t.long) ∧ w'.cell? ⟨Q, 7, none⟩ = some (.slice ba m.xs.length bc) ∧ w'.cell? ⟨Q, 8, none⟩ = some (.slice oa m.over.length oc) ∧ w'.cell? ⟨g, k * 5, none⟩ = some (.int .i64 y.front.piece) ∧ w'.cell? ⟨g, k * 5 + 1, none⟩ = some (.int .i64 y.front.at_) ∧ w'.cell? ⟨g, k * 5 + 2, none⟩ = some (.int .i64 y.front.way) ∧ w'.cell? ⟨g, k * 5 + 3, none⟩ = some (.int .i64 y.long) ∧ w'.cell? ⟨g, k * 5 + 4, none⟩ = some (.slice sa3 y.back.length sc3)) (by kernel_rfl) ?_ (fun hHeld => ?_)
              ·exact unhide HS3 _ (bw0 : Below wr.heap.size wr wr.drew)
              refine wpAnyH_take (i := 0) (v := ?vtB1) rfl (by kernel_rfl) (by kernel_rfl) (by kernel_rfl) (fun _ _ _ h => h) (Or.inl ⟨by rfl, ?ytB1⟩) (by assumption) ?rtB1
              case ytB1 => (intro w0 hSw; (try dsimp only at hSw); go_simp; (try with_reducible rfl))
              (try simp only [Act.put, List.getElem_toArray, List.getElem_cons_zero, List.getElem_cons_succ, List.setIfInBounds_toArray, List.set_cons_zero, List.set_cons_succ])
              refine wpAnyH_take (i := 1) (v := ?vtB2) rfl (by kernel_rfl) (by kernel_rfl) (by kernel_rfl) (fun _ _ _ h => h) (Or.inl ⟨by rfl, ?ytB2⟩) (by assumption) ?rtB2
              case ytB2 => (intro w0 hSw; (try dsimp only at hSw); go_simp; (try with_reducible rfl))
              (try simp only [Act.put, List.getElem_toArray, List.getElem_cons_zero, List.getElem_cons_succ, List.setIfInBounds_toArray, List.set_cons_zero, List.set_cons_succ])
              refine wpAnyH_take (i := 2) (v := ?vtB3) rfl (by kernel_rfl) (by kernel_rfl) (by kernel_rfl) (fun _ _ _ h => h) (Or.inl ⟨by rfl, ?ytB3⟩) (by assumption) ?rtB3
              case ytB3 => (intro w0 hSw; (try dsimp only at hSw); go_simp; (try with_reducible rfl))
              (try simp only [Act.put, List.getElem_toArray, List.getElem_cons_zero, List.getElem_cons_succ, List.setIfInBounds_toArray, List.set_cons_zero, List.set_cons_succ])
              refine wpAnyH_take (i := 3) (v := ?vtB4) rfl (by kernel_rfl) (by kernel_rfl) (by kernel_rfl) (fun _ _ _ h => h) (Or.inl ⟨by rfl, ?ytB4⟩) (by assumption) ?rtB4
              case ytB4 => (intro w0 hSw; (try dsimp only at hSw); go_simp; (try with_reducible rfl))
              (try simp only [Act.put, List.getElem_toArray, List.getElem_cons_zero, List.getElem_cons_succ, List.setIfInBounds_toArray, List.set_cons_zero, List.set_cons_succ])
              refine wpAnyH_take (i := 4) (v := ?vtB5) rfl (by kernel_rfl) (by kernel_rfl) (by kernel_rfl) (fun _ _ _ h => h) (Or.inl ⟨by rfl, ?ytB5⟩) (by assumption) ?rtB5
              case ytB5 => (intro w0 hSw; (try dsimp only at hSw); go_simp; (try with_reducible rfl))
              (try simp only [Act.put, List.getElem_toArray, List.getElem_cons_zero, List.getElem_cons_succ, List.setIfInBounds_toArray, List.set_cons_zero, List.set_cons_succ])
              refine wpAnyH_take (i := 5) (v := ?vtB6) rfl (by kernel_rfl) (by kernel_rfl) (by kernel_rfl) (fun _ _ _ h => h) (Or.inl ⟨by rfl, ?ytB6⟩) (by assumption) ?rtB6
              case ytB6 => (intro w0 hSw; (try dsimp only at hSw); go_simp; (try with_reducible rfl))
              (try simp only [Act.put, List.getElem_toArray, List.getElem_cons_zero, List.getElem_cons_succ, List.setIfInBounds_toArray, List.set_cons_zero, List.set_cons_succ])
              refine wpAnyH_take (i := 6) (v := ?vtB7) rfl (by kernel_rfl) (by kernel_rfl) (by kernel_rfl) (fun _ _ _ h => h) (Or.inl ⟨by rfl, ?ytB7⟩) (by assumption) ?rtB7
              case ytB7 => (intro w0 hSw; (try dsimp only at hSw); go_simp; (try with_reducible rfl))
              (try simp only [Act.put, List.getElem_toArray, List.getElem_cons_zero, List.getElem_cons_succ, List.setIfInBounds_toArray, List.set_cons_zero, List.set_cons_succ])
              refine wpAnyH_take (i := 7) (v := ?vtB8) rfl (by kernel_rfl) (by kernel_rfl) (by kernel_rfl) (fun _ _ _ h => h) (Or.inl ⟨by rfl, ?ytB8⟩) (by assumption) ?rtB8
              case ytB8 => (intro w0 hSw; (try dsimp only at hSw); go_simp; (try with_reducible rfl))
              (try simp only [Act.put, List.getElem_toArray, List.getElem_cons_zero, List.getElem_cons_succ, List.setIfInBounds_toArray, List.set_cons_zero, List.set_cons_succ])
              refine wpAnyH_take (i := 8) (v := ?vtB9) rfl (by kernel_rfl) (by kernel_rfl) (by kernel_rfl) (fun _ _ _ h => h) (Or.inl ⟨by rfl, ?ytB9⟩) (by assumption) ?rtB9
              case ytB9 => (intro w0 hSw; (try dsimp only at hSw); go_simp; (try with_reducible rfl))
              (try simp only [Act.put, List.getElem_toArray, List.getElem_cons_zero, List.getElem_cons_succ, List.setIfInBounds_toArray, List.set_cons_zero, List.set_cons_succ])
              refine wpAnyH_take (i := 9) (v := ?vtB10) rfl (by kernel_rfl) (by kernel_rfl) (by kernel_rfl) (fun _ _ _ h => h) (Or.inl ⟨by rfl, ?ytB10⟩) (by assumption) ?rtB10
              case ytB10 => (intro w0 hSw; (try dsimp only at hSw); go_simp; (try with_reducible rfl))
              (try simp only [Act.put, List.getElem_toArray, List.getElem_cons_zero, List.getElem_cons_succ, List.setIfInBounds_toArray, List.set_cons_zero, List.set_cons_succ])
              refine wpAnyH_take (i := 10) (v := ?vtB11) rfl (by kernel_rfl) (by kernel_rfl) (by kernel_rfl) (fun _ _ _ h => h) (Or.inl ⟨by rfl, ?ytB11⟩) (by assumption) ?rtB11
              case ytB11 => (intro w0 hSw; (try dsimp only at hSw); go_simp; (try with_reducible rfl))
              (try simp only [Act.put, List.getElem_toArray, List.getElem_cons_zero, List.getElem_cons_succ, List.setIfInBounds_toArray, List.set_cons_zero, List.set_cons_succ])
              refine wpAnyH_take (i := 11) (v := ?vtB12) rfl (by kernel_rfl) (by kernel_rfl) (by kernel_rfl) (fun _ _ _ h => h) (Or.inl ⟨by rfl, ?ytB12⟩) (by assumption) ?rtB12
              case ytB12 => (intro w0 hSw; (try dsimp only at hSw); go_simp; (try with_reducible rfl))
              (try simp only [Act.put, List.getElem_toArray, List.getElem_cons_zero, List.getElem_cons_succ, List.setIfInBounds_toArray, List.set_cons_zero, List.set_cons_succ])
              refine wpAnyH_ready (rs := [12]) (by kernel_rfl) (by simp) ?_
              refine (AllReadyH.cons rfl (fun K hK => ?_) AllReadyH.nil)
              go_simp
              refine (l2body_any _ _ n y _ ((unhide HVY).below (bw0 : Below wr.heap.size wr wr.drew)) ⟨sa3, sc3, rfl, (stRow_at0 (unhide HST3)).below (bw0 : Below wr.heap.size wr wr.drew)⟩ hG (unhide HFITY)).mono ?_
              rintro e w20 ⟨u, rfl, hu, hb⟩
              obtain ⟨r1a, r1b, hue, _, _⟩ := ptRow_at hu
              subst hue
              have hbw20 : Below wr.heap.size wr w20 := below_then (bw0 : Below wr.heap.size wr wr.drew) hb
              have HU1 := hide hu
              clear hu hb
              dsimp only
              refine hK.out _ _ (unhide HS3 _ hbw20) (fun hHeld => ?_)
              clear hK K
              (try simp only [Act.put, List.getElem_toArray, List.getElem_cons_zero, List.getElem_cons_succ, List.setIfInBounds_toArray, List.set_cons_zero, List.set_cons_succ])
              refine wpAnyH_ready (rs := [13]) (by kernel_rfl) (by simp) ?_
              refine (AllReadyH.cons rfl (fun K hK => ?_) AllReadyH.nil)
              go_simp
              refine (l2touch_any oa r1a oc r1b m.over (bodyParts n y) _ (ptRow_at0 ((unhide HY).po.below hbw20)) (ptRow_at0 (unhide HU1)) hovl (by omega)).mono ?_
              rintro e w21 ⟨hr, hb⟩
              obtain rfl : e = .returned (.bool false) := by
               rcases hr with ⟨h, h2⟩ | ⟨h, h2⟩
               ·exact absurd h2 (unhide HT1)
               ·exact h
              have hbw21 : Below wr.heap.size wr w21 := below_then hbw20 hb
              clear hr hb
              dsimp only
              refine hK.out _ _ (unhide HS3 _ hbw21) (fun hHeld => ?_)
              clear hK K
              (try simp only [Act.put, List.getElem_toArray, List.getElem_cons_zero, List.getElem_cons_succ, List.setIfInBounds_toArray, List.set_cons_zero, List.set_cons_succ])
              refine wpAnyH_take (i := 14) (v := ?vtB13) rfl (by kernel_rfl) (by kernel_rfl) (by kernel_rfl) (fun _ _ _ h => h) (Or.inl ⟨by rfl, ?ytB13⟩) (by assumption) ?rtB13
              case ytB13 => (intro w0 hSw; (try dsimp only at hSw); go_simp; (try with_reducible rfl))
              (try simp only [Act.put, List.getElem_toArray, List.getElem_cons_zero, List.getElem_cons_succ, List.setIfInBounds_toArray, List.set_cons_zero, List.set_cons_succ])
              refine wpAnyH_take (i := 15) (v := ?vtB14) rfl (by kernel_rfl) (by kernel_rfl) (by kernel_rfl) (fun _ _ _ h => h) (Or.inl ⟨by rfl, ?ytB14⟩) (by assumption) ?rtB14
              case ytB14 => (intro w0 hSw; (try dsimp only at hSw); go_simp; (try with_reducible rfl))
              (try simp only [Act.put, List.getElem_toArray, List.getElem_cons_zero, List.getElem_cons_succ, List.setIfInBounds_toArray, List.set_cons_zero, List.set_cons_succ])
              refine wpAnyH_take (i := 16) (v := ?vtB15) rfl (by kernel_rfl) (by kernel_rfl) (by kernel_rfl) (fun _ _ _ h => h) (Or.inl ⟨by rfl, ?ytB15⟩) (by assumption) ?rtB15
              case ytB15 => (intro w0 hSw; (try dsimp only at hSw); go_simp; (try with_reducible rfl))
              (try simp only [Act.put, List.getElem_toArray, List.getElem_cons_zero, List.getElem_cons_succ, List.setIfInBounds_toArray, List.set_cons_zero, List.set_cons_succ])
              refine wpAnyH_take (i := 17) (v := ?vtB16) rfl (by kernel_rfl) (by kernel_rfl) (by kernel_rfl) (fun _ _ _ h => h) (Or.inl ⟨by rfl, ?ytB16⟩) (by assumption) ?rtB16
              case ytB16 => (intro w0 hSw; (try dsimp only at hSw); go_simp; (try with_reducible rfl))
              (try simp only [Act.put, List.getElem_toArray, List.getElem_cons_zero, List.getElem_cons_succ, List.setIfInBounds_toArray, List.set_cons_zero, List.set_cons_succ])
              refine wpAnyH_take (i := 19) (v := ?vtB17) rfl (by kernel_rfl) (by kernel_rfl) (by kernel_rfl) (fun _ _ _ h => h) (Or.inl ⟨by rfl, ?ytB17⟩) (by assumption) ?rtB17
              case ytB17 => (intro w0 hSw; (try dsimp only at hSw); go_simp; (try with_reducible rfl))
              (try simp only [Act.put, List.getElem_toArray, List.getElem_cons_zero, List.getElem_cons_succ, List.setIfInBounds_toArray, List.set_cons_zero, List.set_cons_succ])
              refine wpAnyH_take (i := 20) (v := ?vtB18) rfl (by kernel_rfl) (by kernel_rfl) (by kernel_rfl) (fun _ _ _ h => h) (Or.inl ⟨by rfl, ?ytB18⟩) (by assumption) ?rtB18
              case ytB18 => (intro w0 hSw; (try dsimp only at hSw); go_simp; (try with_reducible rfl))
              (try simp only [Act.put, List.getElem_toArray, List.getElem_cons_zero, List.getElem_cons_succ, List.setIfInBounds_toArray, List.set_cons_zero, List.set_cons_succ])
              refine wpAnyH_take (i := 21) (v := ?vtB19) rfl (by kernel_rfl) (by kernel_rfl) (by kernel_rfl) (fun _ _ _ h => h) (Or.inl ⟨by rfl, ?ytB19⟩) (by assumption) ?rtB19
              case ytB19 => (intro w0 hSw; (try dsimp only at hSw); go_simp; (try with_reducible rfl))
              (try simp only [Act.put, List.getElem_toArray, List.getElem_cons_zero, List.getElem_cons_succ, List.setIfInBounds_toArray, List.set_cons_zero, List.set_cons_succ])
              refine wpAnyH_take (i := 22) (v := ?vtB20) rfl (by kernel_rfl) (by kernel_rfl) (by kernel_rfl) (fun _ _ _ h => h) (Or.inl ⟨by rfl, ?ytB20⟩) (by assumption) ?rtB20
              case ytB20 => (intro w0 hSw; (try dsimp only at hSw); go_simp; (try with_reducible rfl))
              (try simp only [Act.put, List.getElem_toArray, List.getElem_cons_zero, List.getElem_cons_succ, List.setIfInBounds_toArray, List.set_cons_zero, List.set_cons_succ])
              refine wpAnyH_take (i := 23) (v := ?vtB21) rfl (by kernel_rfl) (by kernel_rfl) (by kernel_rfl) (fun _ _ _ h => h) (Or.inl ⟨by rfl, ?ytB21⟩) (by assumption) ?rtB21
              case ytB21 => (intro w0 hSw; (try dsimp only at hSw); go_simp; (try with_reducible rfl))
              (try simp only [Act.put, List.getElem_toArray, List.getElem_cons_zero, List.getElem_cons_succ, List.setIfInBounds_toArray, List.set_cons_zero, List.set_cons_succ])
              refine wpAnyH_take (i := 24) (v := ?vtB22) rfl (by kernel_rfl) (by kernel_rfl) (by kernel_rfl) (fun _ _ _ h => h) (Or.inl ⟨by rfl, ?ytB22⟩) (by assumption) ?rtB22
              case ytB22 => (intro w0 hSw; (try dsimp only at hSw); go_simp; (try with_reducible rfl))
              (try simp only [Act.put, List.getElem_toArray, List.getElem_cons_zero, List.getElem_cons_succ, List.setIfInBounds_toArray, List.set_cons_zero, List.set_cons_succ])
              refine wpAnyH_ready (rs := [18]) (by kernel_rfl) (by simp) ?_
              refine (AllReadyH.cons rfl (fun K hK => ?_) AllReadyH.nil)
              go_simp
              refine (l2body_any _ _ n ⟨m.s, t.long, m.xs⟩ _ ((unhide HVY).below hbw21) ⟨ba, bc, rfl, (stRow_at0 (unhide HY).pb).below hbw21⟩ hG (by rw [unhide HTE']; exact unhide HFIT')).mono ?_
              rintro e w22 ⟨u, rfl, hu, hb⟩
              rw [unhide HTE'] at hu
              obtain ⟨r2a, r2b, hue, _, _⟩ := ptRow_at hu
              subst hue
              have hbw22 : Below wr.heap.size wr w22 := below_then hbw21 hb
              have HU2 := hide hu
              clear hu hb
              dsimp only
              refine hK.out _ _ (unhide HS3 _ hbw22) (fun hHeld => ?_)
              clear hK K
              (try simp only [Act.put, List.getElem_toArray, List.getElem_cons_zero, List.getElem_cons_succ, List.setIfInBounds_toArray, List.set_cons_zero, List.set_cons_succ])
              refine wpAnyH_ready (rs := [25]) (by kernel_rfl) (by simp) ?_
              refine (AllReadyH.cons rfl (fun K hK => ?_) AllReadyH.nil)
              go_simp
              refine (l2body_any _ _ n y _ ((unhide HVY).below hbw22) ⟨sa3, sc3, rfl, (stRow_at0 (unhide HST3)).below hbw22⟩ hG (unhide HFITY)).mono ?_
              rintro e w23 ⟨u, rfl, hu, hb⟩
              obtain ⟨r3a, r3b, hue, _, _⟩ := ptRow_at hu
              subst hue
              have hbw23 : Below wr.heap.size wr w23 := below_then hbw22 hb
              have HU3 := hide hu
              have hbd23 := hb
              clear hu hb
              dsimp only
              refine hK.out _ _ (unhide HS3 _ hbw23) (fun hHeld => ?_)
              clear hK K
              (try simp only [Act.put, List.getElem_toArray, List.getElem_cons_zero, List.getElem_cons_succ, List.setIfInBounds_toArray, List.set_cons_zero, List.set_cons_succ])
              refine wpAnyH_ready (rs := [26]) (by kernel_rfl) (by simp) ?_
              refine (AllReadyH.cons rfl (fun K hK => ?_) AllReadyH.nil)
              go_simp
              refine (l2touch_any r2a r3a r2b r3b (bodyParts n t') (bodyParts n y) _ (ptRow_at0 (((unhide HU2)).below hbd23)) (ptRow_at0 (unhide HU3)) (by omega) (by omega)).mono ?_
              rintro e w24 ⟨hr, hb⟩
              obtain rfl : e = .returned (.bool true) := by
               rcases hr with ⟨h, h2⟩ | ⟨h, h2⟩
               ·exact h
               ·exact absurd (unhide HT2) h2
              have hbw24 : Below wr.heap.size wr w24 := below_then hbw23 hb
              clear hr hb
              dsimp only
              refine hK.out _ _ (unhide HS3 _ hbw24) (fun hHeld => ?_)
              clear hK K
              (try simp only [Act.put, List.getElem_toArray, List.getElem_cons_zero, List.getElem_cons_succ, List.setIfInBounds_toArray, List.set_cons_zero, List.set_cons_succ])
              refine wpAnyH_take (i := 27) (v := ?vtB23) rfl (by kernel_rfl) (by kernel_rfl) (by kernel_rfl) (fun _ _ _ h => h) (Or.inl ⟨by rfl, ?ytB23⟩) (by assumption) ?rtB23
              case ytB23 => (intro w0 hSw; (try dsimp only at hSw); go_simp; (try with_reducible rfl))
              (try simp only [Act.put, List.getElem_toArray, List.getElem_cons_zero, List.getElem_cons_succ, List.setIfInBounds_toArray, List.set_cons_zero, List.set_cons_succ])
              refine wpAnyH_take (i := 28) (v := ?vtB24) rfl (by kernel_rfl) (by kernel_rfl) (by kernel_rfl) (fun _ _ _ h => h) (Or.inl ⟨by rfl, ?ytB24⟩) (by assumption) ?rtB24
              case ytB24 => (intro w0 hSw; (try dsimp only at hSw); go_simp; (try with_reducible rfl))
              (try simp only [Act.put, List.getElem_toArray, List.getElem_cons_zero, List.getElem_cons_succ, List.setIfInBounds_toArray, List.set_cons_zero, List.set_cons_succ])
              refine wpAnyH_done (by kernel_rfl) ?_ _
              go_wp2_with fail
              go_meet
              exact ⟨true, rfl, hide ⟨fun _ => ⟨fun h => e2 (by rw [h]), (hits_or _ _ _).2 (Or.inr (unhide HT2))⟩, fun _ => rfl⟩, hide hbw24⟩
             ·have HT2 := hide hT2
              clear hT2
              refine wp_region_held_drew (S := fun w' => w'.cell? ⟨w.heap.size, 0, none⟩ = some (.slice x n.pieces.length ca) ∧ w'.cell? ⟨w.heap.size, 1, none⟩ = some (.slice c n.joints.length cc) ∧ w'.cell? ⟨A, 1, none⟩ = some (.slice (some ⟨g, 0, none⟩) b.ts.length gc) ∧ w'.cell? ⟨Q, 3, none⟩ = some (.int .i64 m.s.piece) ∧ w'.cell? ⟨Q, 4, none⟩ = some (.int .i64 m.s.at_) ∧ w'.cell? ⟨Q, 5, none⟩ = some (.int .i64 m.s.way) ∧ w'.cell? ⟨Q, 6, none⟩ = some (.int .i64 t.long) ∧ w'.cell? ⟨Q, 7, none⟩ = some (.slice ba m.xs.length bc) ∧ w'.cell? ⟨Q, 8, none⟩ = some (.slice oa m.over.length oc) ∧ w'.cell? ⟨g, k * 5, none⟩ = some (.int .i64 y.front.piece) ∧ w'.cell? ⟨g, k * 5 + 1, none⟩ = some (.int .i64 y.front.at_) ∧ w'.cell? ⟨g, k * 5 + 2, none⟩ = some (.int .i64 y.front.way) ∧ w'.cell? ⟨g, k * 5 + 3, none⟩ = some (.int .i64 y.long) ∧ w'.cell? ⟨g, k * 5 + 4, none⟩ = some (.slice sa3 y.back.length sc3)) (by kernel_rfl) ?_ (fun hHeld => ?_)
              ·exact unhide HS3 _ (bw0 : Below wr.heap.size wr wr.drew)
              refine wpAnyH_take (i := 0) (v := ?vtC1) rfl (by kernel_rfl) (by kernel_rfl) (by kernel_rfl) (fun _ _ _ h => h) (Or.inl ⟨by rfl, ?ytC1⟩) (by assumption) ?rtC1
              case ytC1 => (intro w0 hSw; (try dsimp only at hSw); go_simp; (try with_reducible rfl))
              (try simp only [Act.put, List.getElem_toArray, List.getElem_cons_zero, List.getElem_cons_succ, List.setIfInBounds_toArray, List.set_cons_zero, List.set_cons_succ])
              refine wpAnyH_take (i := 1) (v := ?vtC2) rfl (by kernel_rfl) (by kernel_rfl) (by kernel_rfl) (fun _ _ _ h => h) (Or.inl ⟨by rfl, ?ytC2⟩) (by assumption) ?rtC2
              case ytC2 => (intro w0 hSw; (try dsimp only at hSw); go_simp; (try with_reducible rfl))
              (try simp only [Act.put, List.getElem_toArray, List.getElem_cons_zero, List.getElem_cons_succ, List.setIfInBounds_toArray, List.set_cons_zero, List.set_cons_succ])
              refine wpAnyH_take (i := 2) (v := ?vtC3) rfl (by kernel_rfl) (by kernel_rfl) (by kernel_rfl) (fun _ _ _ h => h) (Or.inl ⟨by rfl, ?ytC3⟩) (by assumption) ?rtC3
              case ytC3 => (intro w0 hSw; (try dsimp only at hSw); go_simp; (try with_reducible rfl))
              (try simp only [Act.put, List.getElem_toArray, List.getElem_cons_zero, List.getElem_cons_succ, List.setIfInBounds_toArray, List.set_cons_zero, List.set_cons_succ])
              refine wpAnyH_take (i := 3) (v := ?vtC4) rfl (by kernel_rfl) (by kernel_rfl) (by kernel_rfl) (fun _ _ _ h => h) (Or.inl ⟨by rfl, ?ytC4⟩) (by assumption) ?rtC4
              case ytC4 => (intro w0 hSw; (try dsimp only at hSw); go_simp; (try with_reducible rfl))
              (try simp only [Act.put, List.getElem_toArray, List.getElem_cons_zero, List.getElem_cons_succ, List.setIfInBounds_toArray, List.set_cons_zero, List.set_cons_succ])
              refine wpAnyH_take (i := 4) (v := ?vtC5) rfl (by kernel_rfl) (by kernel_rfl) (by kernel_rfl) (fun _ _ _ h => h) (Or.inl ⟨by rfl, ?ytC5⟩) (by assumption) ?rtC5
              case ytC5 => (intro w0 hSw; (try dsimp only at hSw); go_simp; (try with_reducible rfl))
              (try simp only [Act.put, List.getElem_toArray, List.getElem_cons_zero, List.getElem_cons_succ, List.setIfInBounds_toArray, List.set_cons_zero, List.set_cons_succ])
              refine wpAnyH_take (i := 5) (v := ?vtC6) rfl (by kernel_rfl) (by kernel_rfl) (by kernel_rfl) (fun _ _ _ h => h) (Or.inl ⟨by rfl, ?ytC6⟩) (by assumption) ?rtC6
              case ytC6 => (intro w0 hSw; (try dsimp only at hSw); go_simp; (try with_reducible rfl))
              (try simp only [Act.put, List.getElem_toArray, List.getElem_cons_zero, List.getElem_cons_succ, List.setIfInBounds_toArray, List.set_cons_zero, List.set_cons_succ])
              refine wpAnyH_take (i := 6) (v := ?vtC7) rfl (by kernel_rfl) (by kernel_rfl) (by kernel_rfl) (fun _ _ _ h => h) (Or.inl ⟨by rfl, ?ytC7⟩) (by assumption) ?rtC7
              case ytC7 => (intro w0 hSw; (try dsimp only at hSw); go_simp; (try with_reducible rfl))
              (try simp only [Act.put, List.getElem_toArray, List.getElem_cons_zero, List.getElem_cons_succ, List.setIfInBounds_toArray, List.set_cons_zero, List.set_cons_succ])
              refine wpAnyH_take (i := 7) (v := ?vtC8) rfl (by kernel_rfl) (by kernel_rfl) (by kernel_rfl) (fun _ _ _ h => h) (Or.inl ⟨by rfl, ?ytC8⟩) (by assumption) ?rtC8
              case ytC8 => (intro w0 hSw; (try dsimp only at hSw); go_simp; (try with_reducible rfl))
              (try simp only [Act.put, List.getElem_toArray, List.getElem_cons_zero, List.getElem_cons_succ, List.setIfInBounds_toArray, List.set_cons_zero, List.set_cons_succ])
              refine wpAnyH_take (i := 8) (v := ?vtC9) rfl (by kernel_rfl) (by kernel_rfl) (by kernel_rfl) (fun _ _ _ h => h) (Or.inl ⟨by rfl, ?ytC9⟩) (by assumption) ?rtC9
              case ytC9 => (intro w0 hSw; (try dsimp only at hSw); go_simp; (try with_reducible rfl))
              (try simp only [Act.put, List.getElem_toArray, List.getElem_cons_zero, List.getElem_cons_succ, List.setIfInBounds_toArray, List.set_cons_zero, List.set_cons_succ])
              refine wpAnyH_take (i := 9) (v := ?vtC10) rfl (by kernel_rfl) (by kernel_rfl) (by kernel_rfl) (fun _ _ _ h => h) (Or.inl ⟨by rfl, ?ytC10⟩) (by assumption) ?rtC10
              case ytC10 => (intro w0 hSw; (try dsimp only at hSw); go_simp; (try with_reducible rfl))
              (try simp only [Act.put, List.getElem_toArray, List.getElem_cons_zero, List.getElem_cons_succ, List.setIfInBounds_toArray, List.set_cons_zero, List.set_cons_succ])
              refine wpAnyH_take (i := 10) (v := ?vtC11) rfl (by kernel_rfl) (by kernel_rfl) (by kernel_rfl) (fun _ _ _ h => h) (Or.inl ⟨by rfl, ?ytC11⟩) (by assumption) ?rtC11
              case ytC11 => (intro w0 hSw; (try dsimp only at hSw); go_simp; (try with_reducible rfl))
              (try simp only [Act.put, List.getElem_toArray, List.getElem_cons_zero, List.getElem_cons_succ, List.setIfInBounds_toArray, List.set_cons_zero, List.set_cons_succ])
              refine wpAnyH_take (i := 11) (v := ?vtC12) rfl (by kernel_rfl) (by kernel_rfl) (by kernel_rfl) (fun _ _ _ h => h) (Or.inl ⟨by rfl, ?ytC12⟩) (by assumption) ?rtC12
              case ytC12 => (intro w0 hSw; (try dsimp only at hSw); go_simp; (try with_reducible rfl))
              (try simp only [Act.put, List.getElem_toArray, List.getElem_cons_zero, List.getElem_cons_succ, List.setIfInBounds_toArray, List.set_cons_zero, List.set_cons_succ])
              refine wpAnyH_ready (rs := [12]) (by kernel_rfl) (by simp) ?_
              refine (AllReadyH.cons rfl (fun K hK => ?_) AllReadyH.nil)
              go_simp
              refine (l2body_any _ _ n y _ ((unhide HVY).below (bw0 : Below wr.heap.size wr wr.drew)) ⟨sa3, sc3, rfl, (stRow_at0 (unhide HST3)).below (bw0 : Below wr.heap.size wr wr.drew)⟩ hG (unhide HFITY)).mono ?_
              rintro e w20 ⟨u, rfl, hu, hb⟩
              obtain ⟨r1a, r1b, hue, _, _⟩ := ptRow_at hu
              subst hue
              have hbw20 : Below wr.heap.size wr w20 := below_then (bw0 : Below wr.heap.size wr wr.drew) hb
              have HU1 := hide hu
              clear hu hb
              dsimp only
              refine hK.out _ _ (unhide HS3 _ hbw20) (fun hHeld => ?_)
              clear hK K
              (try simp only [Act.put, List.getElem_toArray, List.getElem_cons_zero, List.getElem_cons_succ, List.setIfInBounds_toArray, List.set_cons_zero, List.set_cons_succ])
              refine wpAnyH_ready (rs := [13]) (by kernel_rfl) (by simp) ?_
              refine (AllReadyH.cons rfl (fun K hK => ?_) AllReadyH.nil)
              go_simp
              refine (l2touch_any oa r1a oc r1b m.over (bodyParts n y) _ (ptRow_at0 ((unhide HY).po.below hbw20)) (ptRow_at0 (unhide HU1)) hovl (by omega)).mono ?_
              rintro e w21 ⟨hr, hb⟩
              obtain rfl : e = .returned (.bool false) := by
               rcases hr with ⟨h, h2⟩ | ⟨h, h2⟩
               ·exact absurd h2 (unhide HT1)
               ·exact h
              have hbw21 : Below wr.heap.size wr w21 := below_then hbw20 hb
              clear hr hb
              dsimp only
              refine hK.out _ _ (unhide HS3 _ hbw21) (fun hHeld => ?_)
              clear hK K
              (try simp only [Act.put, List.getElem_toArray, List.getElem_cons_zero, List.getElem_cons_succ, List.setIfInBounds_toArray, List.set_cons_zero, List.set_cons_succ])
              refine wpAnyH_take (i := 14) (v := ?vtC13) rfl (by kernel_rfl) (by kernel_rfl) (by kernel_rfl) (fun _ _ _ h => h) (Or.inl ⟨by rfl, ?ytC13⟩) (by assumption) ?rtC13
              case ytC13 => (intro w0 hSw; (try dsimp only at hSw); go_simp; (try with_reducible rfl))
              (try simp only [Act.put, List.getElem_toArray, List.getElem_cons_zero, List.getElem_cons_succ, List.setIfInBounds_toArray, List.set_cons_zero, List.set_cons_succ])
              refine wpAnyH_take (i := 15) (v := ?vtC14) rfl (by kernel_rfl) (by kernel_rfl) (by kernel_rfl) (fun _ _ _ h => h) (Or.inl ⟨by rfl, ?ytC14⟩) (by assumption) ?rtC14
              case ytC14 => (intro w0 hSw; (try dsimp only at hSw); go_simp; (try with_reducible rfl))
              (try simp only [Act.put, List.getElem_toArray, List.getElem_cons_zero, List.getElem_cons_succ, List.setIfInBounds_toArray, List.set_cons_zero, List.set_cons_succ])
              refine wpAnyH_take (i := 16) (v := ?vtC15) rfl (by kernel_rfl) (by kernel_rfl) (by kernel_rfl) (fun _ _ _ h => h) (Or.inl ⟨by rfl, ?ytC15⟩) (by assumption) ?rtC15
              case ytC15 => (intro w0 hSw; (try dsimp only at hSw); go_simp; (try with_reducible rfl))
              (try simp only [Act.put, List.getElem_toArray, List.getElem_cons_zero, List.getElem_cons_succ, List.setIfInBounds_toArray, List.set_cons_zero, List.set_cons_succ])
              refine wpAnyH_take (i := 17) (v := ?vtC16) rfl (by kernel_rfl) (by kernel_rfl) (by kernel_rfl) (fun _ _ _ h => h) (Or.inl ⟨by rfl, ?ytC16⟩) (by assumption) ?rtC16
              case ytC16 => (intro w0 hSw; (try dsimp only at hSw); go_simp; (try with_reducible rfl))
              (try simp only [Act.put, List.getElem_toArray, List.getElem_cons_zero, List.getElem_cons_succ, List.setIfInBounds_toArray, List.set_cons_zero, List.set_cons_succ])
              refine wpAnyH_take (i := 19) (v := ?vtC17) rfl (by kernel_rfl) (by kernel_rfl) (by kernel_rfl) (fun _ _ _ h => h) (Or.inl ⟨by rfl, ?ytC17⟩) (by assumption) ?rtC17
              case ytC17 => (intro w0 hSw; (try dsimp only at hSw); go_simp; (try with_reducible rfl))
              (try simp only [Act.put, List.getElem_toArray, List.getElem_cons_zero, List.getElem_cons_succ, List.setIfInBounds_toArray, List.set_cons_zero, List.set_cons_succ])
              refine wpAnyH_take (i := 20) (v := ?vtC18) rfl (by kernel_rfl) (by kernel_rfl) (by kernel_rfl) (fun _ _ _ h => h) (Or.inl ⟨by rfl, ?ytC18⟩) (by assumption) ?rtC18
              case ytC18 => (intro w0 hSw; (try dsimp only at hSw); go_simp; (try with_reducible rfl))
              (try simp only [Act.put, List.getElem_toArray, List.getElem_cons_zero, List.getElem_cons_succ, List.setIfInBounds_toArray, List.set_cons_zero, List.set_cons_succ])
              refine wpAnyH_take (i := 21) (v := ?vtC19) rfl (by kernel_rfl) (by kernel_rfl) (by kernel_rfl) (fun _ _ _ h => h) (Or.inl ⟨by rfl, ?ytC19⟩) (by assumption) ?rtC19
              case ytC19 => (intro w0 hSw; (try dsimp only at hSw); go_simp; (try with_reducible rfl))
              (try simp only [Act.put, List.getElem_toArray, List.getElem_cons_zero, List.getElem_cons_succ, List.setIfInBounds_toArray, List.set_cons_zero, List.set_cons_succ])
              refine wpAnyH_take (i := 22) (v := ?vtC20) rfl (by kernel_rfl) (by kernel_rfl) (by kernel_rfl) (fun _ _ _ h => h) (Or.inl ⟨by rfl, ?ytC20⟩) (by assumption) ?rtC20
              case ytC20 => (intro w0 hSw; (try dsimp only at hSw); go_simp; (try with_reducible rfl))
              (try simp only [Act.put, List.getElem_toArray, List.getElem_cons_zero, List.getElem_cons_succ, List.setIfInBounds_toArray, List.set_cons_zero, List.set_cons_succ])
              refine wpAnyH_take (i := 23) (v := ?vtC21) rfl (by kernel_rfl) (by kernel_rfl) (by kernel_rfl) (fun _ _ _ h => h) (Or.inl ⟨by rfl, ?ytC21⟩) (by assumption) ?rtC21
              case ytC21 => (intro w0 hSw; (try dsimp only at hSw); go_simp; (try with_reducible rfl))
              (try simp only [Act.put, List.getElem_toArray, List.getElem_cons_zero, List.getElem_cons_succ, List.setIfInBounds_toArray, List.set_cons_zero, List.set_cons_succ])
              refine wpAnyH_take (i := 24) (v := ?vtC22) rfl (by kernel_rfl) (by kernel_rfl) (by kernel_rfl) (fun _ _ _ h => h) (Or.inl ⟨by rfl, ?ytC22⟩) (by assumption) ?rtC22
              case ytC22 => (intro w0 hSw; (try dsimp only at hSw); go_simp; (try with_reducible rfl))
              (try simp only [Act.put, List.getElem_toArray, List.getElem_cons_zero, List.getElem_cons_succ, List.setIfInBounds_toArray, List.set_cons_zero, List.set_cons_succ])
              refine wpAnyH_ready (rs := [18]) (by kernel_rfl) (by simp) ?_
              refine (AllReadyH.cons rfl (fun K hK => ?_) AllReadyH.nil)
              go_simp
              refine (l2body_any _ _ n ⟨m.s, t.long, m.xs⟩ _ ((unhide HVY).below hbw21) ⟨ba, bc, rfl, (stRow_at0 (unhide HY).pb).below hbw21⟩ hG (by rw [unhide HTE']; exact unhide HFIT')).mono ?_
              rintro e w22 ⟨u, rfl, hu, hb⟩
              rw [unhide HTE'] at hu
              obtain ⟨r2a, r2b, hue, _, _⟩ := ptRow_at hu
              subst hue
              have hbw22 : Below wr.heap.size wr w22 := below_then hbw21 hb
              have HU2 := hide hu
              clear hu hb
              dsimp only
              refine hK.out _ _ (unhide HS3 _ hbw22) (fun hHeld => ?_)
              clear hK K
              (try simp only [Act.put, List.getElem_toArray, List.getElem_cons_zero, List.getElem_cons_succ, List.setIfInBounds_toArray, List.set_cons_zero, List.set_cons_succ])
              refine wpAnyH_ready (rs := [25]) (by kernel_rfl) (by simp) ?_
              refine (AllReadyH.cons rfl (fun K hK => ?_) AllReadyH.nil)
              go_simp
              refine (l2body_any _ _ n y _ ((unhide HVY).below hbw22) ⟨sa3, sc3, rfl, (stRow_at0 (unhide HST3)).below hbw22⟩ hG (unhide HFITY)).mono ?_
              rintro e w23 ⟨u, rfl, hu, hb⟩
              obtain ⟨r3a, r3b, hue, _, _⟩ := ptRow_at hu
              subst hue
              have hbw23 : Below wr.heap.size wr w23 := below_then hbw22 hb
              have HU3 := hide hu
              have hbd23 := hb
              clear hu hb
              dsimp only
              refine hK.out _ _ (unhide HS3 _ hbw23) (fun hHeld => ?_)
              clear hK K
              (try simp only [Act.put, List.getElem_toArray, List.getElem_cons_zero, List.getElem_cons_succ, List.setIfInBounds_toArray, List.set_cons_zero, List.set_cons_succ])
              refine wpAnyH_ready (rs := [26]) (by kernel_rfl) (by simp) ?_
              refine (AllReadyH.cons rfl (fun K hK => ?_) AllReadyH.nil)
              go_simp
              refine (l2touch_any r2a r3a r2b r3b (bodyParts n t') (bodyParts n y) _ (ptRow_at0 (((unhide HU2)).below hbd23)) (ptRow_at0 (unhide HU3)) (by omega) (by omega)).mono ?_
              rintro e w24 ⟨hr, hb⟩
              obtain rfl : e = .returned (.bool false) := by
               rcases hr with ⟨h, h2⟩ | ⟨h, h2⟩
               ·exact absurd h2 (unhide HT2)
               ·exact h
              have hbw24 : Below wr.heap.size wr w24 := below_then hbw23 hb
              clear hr hb
              dsimp only
              refine hK.out _ _ (unhide HS3 _ hbw24) (fun hHeld => ?_)
              clear hK K
              (try simp only [Act.put, List.getElem_toArray, List.getElem_cons_zero, List.getElem_cons_succ, List.setIfInBounds_toArray, List.set_cons_zero, List.set_cons_succ])
              refine wpAnyH_take (i := 27) (v := ?vtC23) rfl (by kernel_rfl) (by kernel_rfl) (by kernel_rfl) (fun _ _ _ h => h) (Or.inl ⟨by rfl, ?ytC23⟩) (by assumption) ?rtC23
              case ytC23 => (intro w0 hSw; (try dsimp only at hSw); go_simp; (try with_reducible rfl))
              (try simp only [Act.put, List.getElem_toArray, List.getElem_cons_zero, List.getElem_cons_succ, List.setIfInBounds_toArray, List.set_cons_zero, List.set_cons_succ])
              refine wpAnyH_take (i := 28) (v := ?vtC24) rfl (by kernel_rfl) (by kernel_rfl) (by kernel_rfl) (fun _ _ _ h => h) (Or.inl ⟨by rfl, ?ytC24⟩) (by assumption) ?rtC24
              case ytC24 => (intro w0 hSw; (try dsimp only at hSw); go_simp; (try with_reducible rfl))
              (try simp only [Act.put, List.getElem_toArray, List.getElem_cons_zero, List.getElem_cons_succ, List.setIfInBounds_toArray, List.set_cons_zero, List.set_cons_succ])
              refine wpAnyH_done (by kernel_rfl) ?_ _
              go_wp2_with fail
              go_meet
              exact ⟨false, rfl, hide ⟨fun h => by simp at h, fun h => ((hits_or _ _ _).1 h.2).elim (fun h => absurd h (unhide HT1)) (fun h => absurd h (unhide HT2))⟩, hide hbw24⟩
          case rest =>
           obtain ⟨bb, rfl, HBB, HB9⟩ := hcut
           obtain ⟨wz, rfl⟩ : ∃ wz, wz = wc := ⟨_, rfl⟩
           have HTRz := hide ((unhide HTR).below (unhide HB9))
           have HYz := hide ((unhide HY).below (Nat.le_of_lt xl) (unhide HB9))
           cases bb
           ·have HNO : Hid (¬ (k ≠ i ∧ hits (bodyParts n t' ++ m.over) (bodyParts n y) = true)) := fun h => absurd ((unhide HBB).2 h) (by simp)
            go_wp2_with fail
            refine ⟨⟨k + 1, vk', by omega, by go_num, ?_, HYz⟩, by simp [intOf]; omega⟩
            rw [unhide HSUC, if_neg (unhide HNO), List.append_nil]
            exact HTRz
           ·have HYES : Hid (k ≠ i ∧ hits (bodyParts n t' ++ m.over) (bodyParts n y) = true) := (unhide HBB).1 rfl
            obtain ⟨ka3, kb3, ek, hkc, _⟩ := (unhide HTRz).rk.shape skF_len
            subst ek
            have HRK := hide (unhide HTRz).rk
            have b4 := (unhide HTRz).box.2.1 4 _ rfl
            have bz := (unhide HTRz).box.2.2
            have bl := (unhide HTRz).box.1
            have hne9 : some A ≠ (Value.slice ka3 ks.length kb3).ownBlock := fun hc => by have := ((unhide HRK).lt _ hc.symm).1; omega
            go_wp2_with (at_builtin; refine wpList_append_lies _ rfl (.tmp 140) (.tmp 144) 61 rfl (A + 1) 120 i3 (.agg #[.int .i64 0, .int .i64 0]) 2 16 Tryz.underlying61 hj3 hs0 hs1 hs2 rfl (by decide) _ ks.length (ks.flatMap skF) rfl ((unhide HRK).below bw0) ⟨wz.heap.size, 0, none⟩ 1 1 (skF ((i : Int), (k : Int))) rfl rfl (sk_news (x := ((i : Int), (k : Int))) (boxed_alloc _ _ _)) (sk_one _) (by omega) (by unfold maxLen; omega) (by omega) (by first | omega | (simp; omega)) _ rfl ?_)
            intro gk capk wk hown hgrow hat hlt9
            have hbX : Below wz.heap.size wz (wz.alloc (.cells #[.int .i64 (i : Int), .int .i64 (k : Int)] 120)) := bw0
            have hA9 := boxed_grown' hgrow ((unhide HTRz).box.below hbX) hne9
            have e2 := hA9.2.1 4 _ rfl
            have ez := hA9.2.2
            have el := hA9.1
            have HTRk := hide (TkR.addS (x := ((i : Int), (k : Int))) ((unhide HTRz).below hbX) hgrow (Row.snoc hown))
            have HYk := hide ((((unhide HYz).below (Nat.le_of_lt bl) hbX).grown (Nat.le_trans (Nat.le_of_lt bl) hbX.size) hgrow (fun j hj => ⟨Nat.le_trans (Nat.le_succ A) ((unhide HRK).lt j hj).1, 120, ((unhide HRK).below hbX).ty hj, Or.inr (Or.inr rfl)⟩)).set (((unhide HTRz).ty.below hbX).same (hgrow.block A (Nat.lt_of_lt_of_le bl hbX.size) hne9)) 4 (.slice (some ⟨gk, 0, none⟩) (ks.length + 1) capk))
            clear hown hgrow hat hlt9 hbX hA9 b4 bz bl hne9 HRK
            go_wp2_with fail
            refine ⟨⟨k + 1, .slice (some ⟨gk, 0, none⟩) (ks.length + 1) capk, by omega, by go_num, ?_, HYk⟩, by simp [intOf]; omega⟩
            rw [unhide HSUC, if_pos (unhide HYES)]
            exact HTRk
         ·have hlt4' : ¬ (k : Int) < (b.ts.length : Int) := by omega
          have hkl : k = b.ts.length := by omega
          have hTO2 : TickTo n zs ts vs (i + 1) ⟨b.ts.set i t', cs ++ [code], fs ++ [m.far], b.strikes ++ strikesOf n i m.over (b.ts.set i t')⟩ := by
           refine TickTo.succ (unhide HTO) (by have := unhide HVT; omega) ⟨m, code, joint, ?_, ?_⟩
           ·rw [unhide HTE, unhide HFD]
            exact unhide HRUN
           ·rw [unhide HTE, unhide HTE', unhide HCS, unhide HFS]
          have hstr := strikesOf_eq (n := n) (over := m.over) (t := t') (m := k) hib rfl hkl
          have hTR := unhide HTR
          rw [← hstr] at hTR
          have HTO2 := hide hTO2
          have HTR2 := hide hTR
          have hsl : (strikesOf n i m.over (b.ts.set i t')).length ≤ 20 := by
           rw [hstr]
           exact Nat.le_trans (strL_len _ _) (Nat.le_trans (List.length_filter_le _ _) (by rw [List.length_range]; omega))
          clear hTO2 hTR hstr hkl
          go_wp2_with fail
          refine ⟨⟨i + 1, ⟨b.ts.set i t', cs ++ [code], fs ++ [m.far], b.strikes ++ strikesOf n i m.over (b.ts.set i t')⟩, .slice (some ⟨g, 0, none⟩) b.ts.length gc, .slice (some ⟨gc0, 0, none⟩) (cs.length + 1) capc0, .slice (some ⟨gf0, 0, none⟩) (fs.length + 1) capf0, vk', by omega, by go_num, HTO2, by simp only [List.length_append]; omega, HTR2, hide (unhide HY).n, hide (unhide HY).r, hide (unhide HY).bel⟩, by simp [intOf]; omega⟩
      ·have hlt3' : ¬ (i : Int) < (vs.length : Int) := by omega
       obtain rfl : i = vs.length := by omega
       have hTR := unhide HTR
       have a0 := hTR.box.2.1 0 _ rfl
       have a1 := hTR.box.2.1 1 _ rfl
       have a2 := hTR.box.2.1 2 _ rfl
       have a3 := hTR.box.2.1 3 _ rfl
       have a4 := hTR.box.2.1 4 _ rfl
       have al := hTR.box.1
       obtain ⟨ta', tc', e1, _⟩ := tnRow_at hTR.rt.row
       obtain ⟨ca', cc', e2, _⟩ := ntRow_at hTR.rc
       obtain ⟨fa', fc', e3, _⟩ := ntRow_at hTR.rf
       obtain ⟨ka', kc', e4, _⟩ := hTR.rk.shape skF_len
       subst e1 e2 e3 e4
       have hR8 := unhide HR8
       have r0 := hR8.2.1 0 _ rfl
       have r1 := hR8.2.1 1 _ rfl
       have r2 := hR8.2.1 2 _ rfl
       have r3 := hR8.2.1 3 _ rfl
       have r4 := hR8.2.1 4 _ rfl
       have rz := hR8.2.2
       have rl := hR8.1
       clear hTR hR8
       go_wp2_with fail
       have hFin := ((((((unhide HR8).setAt (i := 0) (by simp) (.bool true)).setAt (i := 1) (by simp) (.slice ta' b.ts.length tc')).setAt (i := 2) (by simp) (.slice ca' b.codes.length cc')).setAt (i := 3) (by simp) (.slice fa' b.fars.length fc')).setAt (i := 4) (by simp) (.slice ka' b.strikes.length kc'))
       have hOF := (((((only_setCell (S := fun k => k = w.heap.size + 1) wr (p := ⟨w.heap.size + 1, 0, none⟩) rfl (.bool true)).trans (only_setCell (S := fun k => k = w.heap.size + 1) _ (p := ⟨w.heap.size + 1, 1, none⟩) rfl (.slice ta' b.ts.length tc'))).trans (only_setCell (S := fun k => k = w.heap.size + 1) _ (p := ⟨w.heap.size + 1, 2, none⟩) rfl (.slice ca' b.codes.length cc'))).trans (only_setCell (S := fun k => k = w.heap.size + 1) _ (p := ⟨w.heap.size + 1, 3, none⟩) rfl (.slice fa' b.fars.length fc'))).trans (only_setCell (S := fun k => k = w.heap.size + 1) _ (p := ⟨w.heap.size + 1, 4, none⟩) rfl (.slice ka' b.strikes.length kc')))
       have f0 := hFin.2.1 0 _ rfl
       have f1 := hFin.2.1 1 _ rfl
       have f2 := hFin.2.1 2 _ rfl
       have f3 := hFin.2.1 3 _ rfl
       have f4 := hFin.2.1 4 _ rfl
       have hTR := unhide HTR
       have hsame : ∀ k, A + 1 ≤ k → k < wr.heap.size → _ := fun k hk hkl => hOF.block k hkl (by omega)
       have hTO := unhide HTO
       rw [unhide HVT] at hTO
       have hbF := below_then (unhide HBW) (show Below wr.heap.size wr wr from Below.refl _ _)
       refine bodyPost_ret (v := .agg #[.bool true, .slice ta' b.ts.length tc', .slice ca' b.codes.length cc', .slice fa' b.fars.length fc', .slice ka' b.strikes.length kc']) (by simp [results, Tryz.results23, go_sem, f0, f1, f2, f3, f4]) rfl ⟨⟨true, b, _, _, _, _, Or.inl ⟨unhide HGOOD, rfl, hTO⟩, rfl, (hTR.rt.row.blocks hsame).mono (by omega), ?_, ?_, ?_⟩, hbF.trans (hOF.below (by have := hbF.size; omega) (fun k hk e => by omega))⟩
       ·exact (hTR.rc.block fun k hk => hsame k (hTR.rc.lt k hk).1 (hTR.rc.lt k hk).2).mono (by omega)
       ·exact (hTR.rf.block fun k hk => hsame k (hTR.rf.lt k hk).1 (hTR.rf.lt k hk).2).mono (by omega)
       ·exact (hTR.rk.block fun k hk => hsame k (hTR.rk.lt k hk).1 (hTR.rk.lt k hk).2).mono (by omega)

end Go.Proofs.YtbdggfpfpjijoabGreatDoor

