import Derived.Test.YtbdggfpfpjijoaaGreatDoorMSp1
import Derived.Deep.CutBlock
set_option linter.unusedSimpArgs false
namespace Go.Proofs.YtbdggfpfpjijoaaGreatDoor
open Go.RowKit

set_option maxRecDepth 100000 in
set_option maxHeartbeats 8000000 in
theorem spoil_d (C : Nat) (bs : List Int) (c : Cu) (v : Value) (n : Nt) (K : Nat) (w : World) {L : Nat} (hcu : CurAt w C bs c) (hbs : BytesIn bs) (ha : c.at_ ≤ 1000000) (hv : NetAt L w v n) (hB : NtB n K) (hK : K ≤ 100000) (h2 : 2 ≤ (pickC bs c 10).1 ∧ (pickC bs c 10).1 ≤ 5) (hX : (pickC bs (pickC bs (pickC bs c 10).2 n.joints.length).2 5).1 ≠ 2) :
  Calls Tryz.prog 69 #[.pointer (some ⟨C, 0, none⟩), v] w fun e w' => SpRet w C bs c K e w' := by
 have hvv := hv
 obtain ⟨x, z, ca, cc, rfl, hp, hj⟩ := hv
 have hCl := hcu.lt
 obtain ⟨i1, hi1, hy0, hy1, hy2⟩ := info_parts info_Piece
 obtain ⟨i2, hi2, hx0, hx1, hx2⟩ := info_parts info_End
 obtain ⟨i3, hi3, hs0, hs1, hs2⟩ := info_parts info_Joint
 have HCU := hide hcu
 have HV := hide hvv
 have HBN := hide hB
 clear hp hj hcu hvv
 go_enter Tryz.func69, Tryz.ntmps69
 go_wp2_with fail
 have hbA : Below w.heap.size w ((w.alloc (.cells #[.slice x n.pieces.length ca, .slice z n.joints.length cc] 26)).alloc (.cells #[.slice none 0 0, .slice none 0 0] 26)) := bw0
 have hN0 : Boxed ((w.alloc (.cells #[.slice x n.pieces.length ca, .slice z n.joints.length cc] 26)).alloc (.cells #[.slice none 0 0, .slice none 0 0] 26)) w.heap.size [.slice x n.pieces.length ca, .slice z n.joints.length cc] := (boxed_alloc _ _ _).alloc _
 have hR0 : Boxed ((w.alloc (.cells #[.slice x n.pieces.length ca, .slice z n.joints.length cc] 26)).alloc (.cells #[.slice none 0 0, .slice none 0 0] 26)) (w.heap.size + 1) [.slice none 0 0, .slice none 0 0] := boxedN _ _ _ (by simp)
 have hszA : ((w.alloc (.cells #[.slice x n.pieces.length ca, .slice z n.joints.length cc] 26)).alloc (.cells #[.slice none 0 0, .slice none 0 0] 26)).heap.size = w.heap.size + 1 + 1 := by simp
 refine (copy_any _ n _ ((unhide HV).below hbA) (by have := hB.np; omega) (by have := hB.nj; omega) (fun i hi => by have := (hB.je _ (List.getElem_mem hi)).1; omega)).mono ?_
 rintro e w1 ⟨u, v', rfl, hpc, hjt, hb1⟩
 have hN1 := hN0.below hb1
 have hR1 := hR0.below hb1
 have hbw1 := below_then hbA hb1
 rw [hszA] at hpc hjt
 obtain ⟨pa, pcap, hpe, _⟩ := pcRow_at hpc
 obtain ⟨ja, jcap, hje, _⟩ := jtRow_at hjt.row
 subst hpe
 subst hje
 have n0 := hN1.2.1 0 _ rfl
 have n1 := hN1.2.1 1 _ rfl
 have nz := hN1.2.2
 have nl := hN1.1
 have hO : Only (fun k => k = w.heap.size) w1 ((w1.setCell ⟨w.heap.size, 0, none⟩ (.slice pa n.pieces.length pcap)).setCell ⟨w.heap.size, 1, none⟩ (.slice ja n.joints.length jcap)) := (only_setCell (S := fun k => k = w.heap.size) w1 (p := ⟨w.heap.size, 0, none⟩) rfl _).trans (only_setCell (S := fun k => k = w.heap.size) _ (p := ⟨w.heap.size, 1, none⟩) rfl _)
 have hN2 : Boxed ((w1.setCell ⟨w.heap.size, 0, none⟩ (.slice pa n.pieces.length pcap)).setCell ⟨w.heap.size, 1, none⟩ (.slice ja n.joints.length jcap)) w.heap.size [.slice pa n.pieces.length pcap, .slice ja n.joints.length jcap] := (hN1.setI (i := 0) (by simp) (.slice pa n.pieces.length pcap)).setI (i := 1) (by simp) (.slice ja n.joints.length jcap)
 have HS2 : Hid (SpS w C bs c (.slice pa n.pieces.length pcap) (.slice ja n.joints.length jcap) n ((w1.setCell ⟨w.heap.size, 0, none⟩ (.slice pa n.pieces.length pcap)).setCell ⟨w.heap.size, 1, none⟩ (.slice ja n.joints.length jcap))) :=
  ⟨⟨hN2, hpc.block fun k hk => hO.block k (hpc.lt k hk).2 (by have := (hpc.lt k hk).1; omega), hjt.blocks fun k hk hk' => hO.block k hk' (by omega)⟩, hR1.blk hO.size (hO.block _ hR1.1 (by omega)), ((unhide HCU).of_below hbw1 hCl).of_below (hO.below (B := w.heap.size) (by omega) (fun k hk e => by omega)) hCl, (but_below hbw1 (Nat.le_refl _)).trans (but_only hO (fun k hk e => by omega) (by omega)), hCl⟩
 dsimp only
 clear hpc hjt hO hN2 hN0 hR0 hbA hszA
 go_upto_region 2 with fail
 generalize (w1.setCell ⟨w.heap.size, 0, none⟩ (.slice pa n.pieces.length pcap)).setCell ⟨w.heap.size, 1, none⟩ (.slice ja n.joints.length jcap) = w2 at HS2 ⊢
 clear hN1 hR1 hb1 hbw1 n0 n1 nz nl
 have hpi := pickC_in bs c 10
 have hpa := pickC_at bs c 10
 go_wp2_with fail
 refine (pick_any C bs c 10 w2 (unhide HS2).cur hbs (by omega) (by omega)).mono ?_
 rintro e w3 ⟨rfl, hc3, ho3⟩
 have HS3 := hide ((unhide HS2).pick hc3 ho3)
 obtain ⟨⟨P, c1⟩, hpc⟩ : ∃ y, pickC bs c 10 = y := ⟨_, rfl⟩
 rw [hpc] at hpi hpa HS3 h2 hX ⊢
 dsimp only at hpi hpa HS3 h2 hX ⊢
 clear hc3 ho3 HS2 hpc
 go_upto_block 0 with fail
 go_cut [] (fun wx => ∃ u v n' c', Hid (SpS w C bs c' u v n' wx) ∧ Hid (NtB n' (K + 300)) ∧ c'.at_ ≤ c.at_ + 1000)
 case first =>
  by_cases hj0 : 0 < n.joints.length
  ·have hj0' : (0 : Int) < (n.joints.length : Int) := by omega
   obtain ⟨_, _, hjr, _⟩ := (unhide HS3).net.2.2
   have hjs : ∃ g, ja = some ⟨g, 0, none⟩ := by
    obtain ⟨_, ⟨h1, h2⟩ | ⟨g, cap, cur, h1, _⟩⟩ := hjr
    ·simp only [Value.slice.injEq] at h1
     omega
    ·simp only [Value.slice.injEq] at h1
     exact ⟨g, h1.1⟩
   obtain ⟨g, rfl⟩ := hjs
   clear hjr
   have n1 := (unhide HS3).net.1.2.1 1 _ rfl
   have nl := (unhide HS3).net.1.1
   have hpi3 := pickC_in bs c1 n.joints.length
   have hpa3 := pickC_at bs c1 n.joints.length
   have hbj := (unhide HBN).nj
   go_upto_region 20 with fail
   go_upto_if 99 with fail
   go_cut [99] (fun z wx => z = .bool true ∧ w3 = wx)
   case first =>
    rcases (by omega : P = 2 ∨ P = 3 ∨ P = 4 ∨ P = 5) with rfl | rfl | rfl | rfl <;> (go_wp2_with fail; go_meet; exact ⟨rfl, rfl⟩)
   case rest =>
    obtain ⟨rfl, rfl⟩ := hcut
    go_upto_region 25 with fail
    refine wp_region_held_drew (S := fun w' => w'.cell? ⟨w.heap.size, 1, none⟩ = some (.slice (some ⟨g, 0, none⟩) n.joints.length jcap)) (by kernel_rfl) ?_ (fun hHeld => ?_)
    ·exact ((unhide HS3).below (bw0 : Below w3.heap.size w3 w3.drew)).net.1.2.1 1 _ rfl
    refine wpAnyH_take (i := 0) (v := ?vr1) rfl (by kernel_rfl) (by kernel_rfl) (by kernel_rfl) (fun _ _ _ h => h) (Or.inl ⟨by rfl, ?yr1⟩) (by assumption) ?rr1
    case yr1 => (intro w0 hSw; (try dsimp only at hSw); go_simp; (try with_reducible rfl))
    (try simp only [Act.put, List.getElem_toArray, List.getElem_cons_zero, List.getElem_cons_succ, List.setIfInBounds_toArray, List.set_cons_zero, List.set_cons_succ])
    refine wpAnyH_take (i := 1) (v := ?vr2) rfl (by kernel_rfl) (by kernel_rfl) (by kernel_rfl) (fun _ _ _ h => h) (Or.inl ⟨by rfl, ?yr2⟩) (by assumption) ?rr2
    case yr2 => (intro w0 hSw; (try dsimp only at hSw); go_simp; (try with_reducible rfl))
    (try simp only [Act.put, List.getElem_toArray, List.getElem_cons_zero, List.getElem_cons_succ, List.setIfInBounds_toArray, List.set_cons_zero, List.set_cons_succ])
    refine wpAnyH_take (i := 2) (v := ?vr3) rfl (by kernel_rfl) (by kernel_rfl) (by kernel_rfl) (fun _ _ _ h => h) (Or.inl ⟨by rfl, ?yr3⟩) (by assumption) ?rr3
    case yr3 => (intro w0 hSw; (try dsimp only at hSw); go_simp; (try with_reducible rfl))
    (try simp only [Act.put, List.getElem_toArray, List.getElem_cons_zero, List.getElem_cons_succ, List.setIfInBounds_toArray, List.set_cons_zero, List.set_cons_succ])
    refine wpAnyH_take (i := 3) (v := ?vr4) rfl (by kernel_rfl) (by kernel_rfl) (by kernel_rfl) (fun _ _ _ h => h) (Or.inl ⟨by rfl, ?yr4⟩) (by assumption) ?rr4
    case yr4 => (intro w0 hSw; (try dsimp only at hSw); go_simp; (try with_reducible rfl))
    (try simp only [Act.put, List.getElem_toArray, List.getElem_cons_zero, List.getElem_cons_succ, List.setIfInBounds_toArray, List.set_cons_zero, List.set_cons_succ])
    refine wpAnyH_take (i := 4) (v := ?vr5) rfl (by kernel_rfl) (by kernel_rfl) (by kernel_rfl) (fun _ _ _ h => h) (Or.inl ⟨by rfl, ?yr5⟩) (by assumption) ?rr5
    case yr5 => (intro w0 hSw; (try dsimp only at hSw); go_simp; (try with_reducible rfl))
    (try simp only [Act.put, List.getElem_toArray, List.getElem_cons_zero, List.getElem_cons_succ, List.setIfInBounds_toArray, List.set_cons_zero, List.set_cons_succ])
    refine wpAnyH_take (i := 5) (v := ?vr6) rfl (by kernel_rfl) (by kernel_rfl) (by kernel_rfl) (fun _ _ _ h => h) (Or.inl ⟨by rfl, ?yr6⟩) (by assumption) ?rr6
    case yr6 => (intro w0 hSw; (try dsimp only at hSw); go_simp; (try with_reducible rfl))
    (try simp only [Act.put, List.getElem_toArray, List.getElem_cons_zero, List.getElem_cons_succ, List.setIfInBounds_toArray, List.set_cons_zero, List.set_cons_succ])
    refine wpAnyH_ready (rs := [6]) (by kernel_rfl) (by simp) ?_
    refine (AllReadyH.cons rfl (fun K hK => ?_) AllReadyH.nil)
    go_simp
    have hSd := (unhide HS3).below (bw0 : Below w3.heap.size w3 w3.drew)
    refine (pick_any C bs c1 n.joints.length _ hSd.cur hbs (by omega) (by omega)).mono ?_
    rintro e w4 ⟨rfl, hc4, ho4⟩
    have HS4 := hide (hSd.pick hc4 ho4)
    obtain ⟨⟨P3, c3⟩, hpc3⟩ : ∃ y, pickC bs c1 n.joints.length = y := ⟨_, rfl⟩
    rw [hpc3] at hpi3 hpa3 HS4 hX ⊢
    dsimp only at hpi3 hpa3 HS4 hX ⊢
    obtain ⟨k, rfl⟩ := Int.eq_ofNat_of_zero_le hpi3.1
    have hk : k < n.joints.length := by omega
    have hk' : (k : Int) < (n.joints.length : Int) := by omega
    clear hc4 ho4 hpc3 hSd
    refine hK.out _ _ ((unhide HS4).net.1.2.1 1 _ rfl) (fun hHeld => ?_)
    clear hK K
    (try simp only [Act.put, List.getElem_toArray, List.getElem_cons_zero, List.getElem_cons_succ, List.setIfInBounds_toArray, List.set_cons_zero, List.set_cons_succ])
    refine wpAnyH_take (i := 7) (v := ?vr7) rfl (by kernel_rfl) (by kernel_rfl) (by kernel_rfl) (fun _ _ _ h => h) (Or.inl ⟨by rfl, ?yr7⟩) (by assumption) ?rr7
    case yr7 => (intro w0 hSw; (try dsimp only at hSw); go_simp; (try with_reducible rfl))
    (try simp only [Act.put, List.getElem_toArray, List.getElem_cons_zero, List.getElem_cons_succ, List.setIfInBounds_toArray, List.set_cons_zero, List.set_cons_succ])
    refine wpAnyH_take (i := 8) (v := ?vr8) rfl (by kernel_rfl) (by kernel_rfl) (by kernel_rfl) (fun _ _ _ h => h) (Or.inl ⟨by rfl, ?yr8⟩) (by assumption) ?rr8
    case yr8 => (intro w0 hSw; (try dsimp only at hSw); go_simp; (try with_reducible rfl))
    (try simp only [Act.put, List.getElem_toArray, List.getElem_cons_zero, List.getElem_cons_succ, List.setIfInBounds_toArray, List.set_cons_zero, List.set_cons_succ])
    refine wpAnyH_done (by kernel_rfl) ?_ _
    have hpi4 := pickC_in bs c3 5
    have hpa4 := pickC_at bs c3 5
    go_wp2_with fail
    refine (pick_any C bs c3 5 w4 (unhide HS4).cur hbs (by omega) (by omega)).mono ?_
    rintro e w5 ⟨rfl, hc5, ho5⟩
    have HS5 := hide ((unhide HS4).pick hc5 ho5)
    obtain ⟨⟨P4, c4⟩, hpc4⟩ : ∃ y, pickC bs c3 5 = y := ⟨_, rfl⟩
    rw [hpc4] at hpi4 hpa4 HS5 hX ⊢
    dsimp only at hpi4 hpa4 HS5 hX ⊢
    clear hc5 ho5 hpc4
    have hje := (unhide HBN).je n.joints[k] (List.getElem_mem hk)
    obtain h4 | h4 | h4 | h4 : P4 = 0 ∨ P4 = 1 ∨ P4 = 3 ∨ P4 = 4 := by omega
    ·subst h4
     have hpi5 := pickC_in bs c4 6
     have hpa5 := pickC_at bs c4 6
     go_wp2_with fail
     refine (pick_any C bs c4 6 w5 (unhide HS5).cur hbs (by omega) (by omega)).mono ?_
     rintro e w6 ⟨rfl, hc6, ho6⟩
     have HS6 := hide ((unhide HS5).pick hc6 ho6)
     obtain ⟨⟨P5, c5⟩, hpc5⟩ : ∃ y, pickC bs c4 6 = y := ⟨_, rfl⟩
     rw [hpc5] at hpi5 hpa5 HS6 ⊢
     dsimp only at hpi5 hpa5 HS6 ⊢
     obtain ⟨ea, ecap, q0, _, _, _, hgl, gz⟩ := (unhide HS6).jt hk
     have HF := hide ((unhide HS6).putKind hk P5)
     clear hc6 ho6 hpc5
     go_wp2_with fail
     go_meet
     exact ⟨_, _, _, c5, HF, hide ((unhide HBN).putJ _ (show n.joints[k].ends.length ≤ _ by omega) (show n.joints[k].name.size ≤ _ by omega)), by omega⟩
    ·subst h4
     have hpi5 := pickC_in bs c4 4
     have hpa5 := pickC_at bs c4 4
     go_wp2_with fail
     have hbL : Below w5.heap.size w5 (w5.alloc (.cells #[.string ⟨#[]⟩, .string ⟨#[119]⟩, .string ⟨#[87]⟩, .string ⟨#[120, 49, 48, 48]⟩] 9)) := bw0
     refine (pick_any C bs c4 4 _ ((unhide HS5).below hbL).cur hbs (by omega) (by omega)).mono ?_
     rintro e w6 ⟨rfl, hc6, ho6⟩
     have HS6 := hide (((unhide HS5).below hbL).pick hc6 ho6)
     have hL6 : Boxed w6 w5.heap.size [.string ⟨#[]⟩, .string ⟨#[119]⟩, .string ⟨#[87]⟩, .string ⟨#[120, 49, 48, 48]⟩] := (boxed_alloc w5 #[.string ⟨#[]⟩, .string ⟨#[119]⟩, .string ⟨#[87]⟩, .string ⟨#[120, 49, 48, 48]⟩] 9).onlyS ho6 (fun e => by have := (unhide HS5).but.size; have := (unhide HS5).lt; omega)
     obtain ⟨⟨P5, c5⟩, hpc5⟩ : ∃ y, pickC bs c4 4 = y := ⟨_, rfl⟩
     rw [hpc5] at hpi5 hpa5 HS6 ⊢
     dsimp only at hpi5 hpa5 HS6 ⊢
     obtain ⟨i, rfl⟩ := Int.eq_ofNat_of_zero_le hpi5.1
     have hi : i < 4 := by omega
     have hi' : (i : Int) < 4 := by omega
     obtain ⟨x, hx, hxs⟩ : ∃ x : ByteArray, w6.cell? ⟨w5.heap.size, i, none⟩ = some (.string x) ∧ x.size ≤ 30 := by
      match i, hi with
      | 0, _ => exact ⟨_, hL6.2.1 0 _ rfl, by decide⟩
      | 1, _ => exact ⟨_, hL6.2.1 1 _ rfl, by decide⟩
      | 2, _ => exact ⟨_, hL6.2.1 2 _ rfl, by decide⟩
      | 3, _ => exact ⟨_, hL6.2.1 3 _ rfl, by decide⟩
     obtain ⟨ea, ecap, _, q1, _, _, hgl, gz⟩ := (unhide HS6).jt hk
     have HF := hide ((unhide HS6).putName hk x)
     have ll := hL6.1
     clear hc6 ho6 hpc5 hL6 hbL
     go_wp2_with fail
     go_meet
     exact ⟨_, _, _, c5, HF, hide ((unhide HBN).putJ _ (show n.joints[k].ends.length ≤ _ by omega) (show x.size ≤ K + 300 by omega)), by omega⟩
    ·subst h4
     obtain ⟨ea, ecap, _, _, q2, hE, hgl, gz⟩ := (unhide HS5).jt hk
     have HE := hide hE
     have HQ := hide q2
     have hsz5 := (unhide HS5).res.1
     clear hE
     go_wp2_with (at_builtin; refine wpList_append_lies _ rfl (.tmp 175) (.tmp 177) 74 rfl (w.heap.size + 1 + 1) 151 i2 (.agg #[.int .i64 0, .int .i64 0]) 2 16 Tryz.underlying74 hi2 hx0 hx1 hx2 rfl (by decide) _ n.joints[k].ends.length (n.joints[k].ends.flatMap edF) rfl (owns_below (unhide HE) bw0) ⟨w5.heap.size, 0, none⟩ 1 1 (edF ⟨0, 0⟩) rfl rfl (box_news (vs := edF ⟨0, 0⟩) (boxed_alloc _ _ _)) (fun u hu => by simp [edF] at hu; rcases hu with rfl | rfl <;> rfl) (by omega) (by unfold maxLen; omega) (by omega) (by first | omega | (simp; omega)) _ rfl ?_)
     intro gE cap w6 hown hgrow hat hlt6
     have hbX : Below w5.heap.size w5 (w5.alloc (.cells #[.int .i64 0, .int .i64 0] 151)) := bw0
     have q2' : (w5.alloc (.cells #[.int .i64 0, .int .i64 0] 151)).cell? ⟨g, k * 3 + 2, none⟩ = some (.slice ea n.joints[k].ends.length ecap) := (hbX.cell (p := ⟨g, k * 3 + 2, none⟩) hgl).trans (unhide HQ)
     have HF := hide (((unhide HS5).below hbX).addEnd hk q2' hgrow (es := n.joints[k].ends ++ [⟨0, 0⟩]) (Row.snoc hown) (by simpa using hat))
     obtain ⟨z2, zl, zz⟩ := ((unhide HS5).below hbX).jtGrown hk q2' hgrow
     clear hown hgrow hat hlt6 hbX q2' q2 hgl gz HQ HE
     go_wp2_with fail
     go_meet
     exact ⟨_, _, _, c4, HF, hide ((unhide HBN).putJ _ (by simp only [List.length_append, List.length_singleton]; omega) (show n.joints[k].name.size ≤ _ by omega)), by omega⟩
    ·subst h4
     obtain ⟨ea, ecap, _, _, q2, _, hgl, gz⟩ := (unhide HS5).jt hk
     have HF := hide ((unhide HS5).putNil hk)
     go_wp2_with fail
     go_meet
     exact ⟨_, _, _, c4, HF, hide ((unhide HBN).putJ _ (Nat.zero_le _) (show n.joints[k].name.size ≤ _ by omega)), by omega⟩
  ·have hj0' : ¬ (0 : Int) < (n.joints.length : Int) := by omega
   have n1 := (unhide HS3).net.1.2.1 1 _ rfl
   have nl := (unhide HS3).net.1.1
   have hP : P = 2 ∨ P = 3 ∨ P = 4 ∨ P = 5 := by omega
   rcases hP with rfl | rfl | rfl | rfl <;> (go_wp2_with fail; go_meet; exact ⟨_, _, _, _, HS3, hide ((unhide HBN).more (by omega)), by omega⟩)
 case rest =>
  obtain ⟨u, v2, n', c', HS, HB', hat⟩ := hcut
  obtain ⟨ua, ucap, e1, _⟩ := pcRow_at (unhide HS).net.2.1
  obtain ⟨va, vcap, e2, _⟩ := jtRow_at (unhide HS).net.2.2.row
  subst e1
  subst e2
  have n0 := (unhide HS).net.1.2.1 0 _ rfl
  have n1 := (unhide HS).net.1.2.1 1 _ rfl
  have nl := (unhide HS).net.1.1
  have r0 := (unhide HS).res.2.1 0 _ rfl
  have r1 := (unhide HS).res.2.1 1 _ rfl
  have rz := (unhide HS).res.2.2
  have rl := (unhide HS).res.1
  go_wp2_with fail
  have hS := unhide HS
  have hFin := (hS.res.setI (i := 0) (by simp) (.slice ua n'.pieces.length ucap)).setI (i := 1) (by simp) (.slice va n'.joints.length vcap)
  have hOF := (only_setCell (S := fun k => k = w.heap.size + 1) wc (p := ⟨w.heap.size + 1, 0, none⟩) rfl (.slice ua n'.pieces.length ucap)).trans (only_setCell (S := fun k => k = w.heap.size + 1) _ (p := ⟨w.heap.size + 1, 1, none⟩) rfl (.slice va n'.joints.length vcap))
  have f0 := hFin.2.1 0 _ rfl
  have f1 := hFin.2.1 1 _ rfl
  have hsame : ∀ k, w.heap.size + 1 + 1 ≤ k → k < wc.heap.size → _ := fun k hk hkl => hOF.block k hkl (by omega)
  refine bodyPost_ret (v := .agg #[.slice ua n'.pieces.length ucap, .slice va n'.joints.length vcap]) (by simp [results, Tryz.results69, go_sem, f0, f1]) rfl ⟨_, _, n', c', rfl, ?_, ?_, ?_, ?_, unhide HB', hat⟩
  ·exact (hS.net.2.1.block fun k hk => hsame k (hS.net.2.1.lt k hk).1 (hS.net.2.1.lt k hk).2).mono (by omega)
  ·exact (hS.net.2.2.blocks hsame).mono (by omega)
  ·exact hS.cur.of_below (hOF.below (B := w.heap.size) hS.but.size (fun k hk e => by omega)) hS.lt
  ·exact hS.but.trans (but_only hOF (fun k hk e => by omega) hS.but.size)

end Go.Proofs.YtbdggfpfpjijoaaGreatDoor

