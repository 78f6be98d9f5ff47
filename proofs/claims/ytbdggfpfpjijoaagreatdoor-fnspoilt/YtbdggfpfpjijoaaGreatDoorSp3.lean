import Derived.Test.YtbdggfpfpjijoaaGreatDoorMSp1
import Derived.Deep.CutBlock
set_option linter.unusedSimpArgs false
namespace Go.Proofs.YtbdggfpfpjijoaaGreatDoor
open Go.RowKit

set_option maxRecDepth 100000 in
set_option maxHeartbeats 8000000 in
theorem spoil_a (C : Nat) (bs : List Int) (c : Cu) (v : Value) (n : Nt) (K : Nat) (w : World) {L : Nat} (hcu : CurAt w C bs c) (hbs : BytesIn bs) (ha : c.at_ ≤ 1000000) (hv : NetAt L w v n) (hB : NtB n K) (hK : K ≤ 100000) (hX : (pickC bs c 10).1 = 0 ∨ (pickC bs c 10).1 = 1 ∨ (pickC bs c 10).1 = 6 ∨ (pickC bs c 10).1 = 7 ∨ (pickC bs c 10).1 = 8 ∨ (pickC bs c 10).1 = 9) :
  Calls Tryz.prog 69 #[.pointer (some ⟨C, 0, none⟩), v] w fun e w' => SpRet w C bs c K e w' := by
 have hvv := hv
 obtain ⟨x, z, ca, cc, rfl, hp, hj⟩ := hv
 have hCl := hcu.lt
 obtain ⟨i1, hi1, hy0, hy1, hy2⟩ := info_parts info_Piece
 obtain ⟨i2, hi2, hx0, hx1, hx2⟩ := info_parts info_End
 obtain ⟨i3, hi3, hs0, hs1, hs2⟩ := info_parts info_Joint
 have HCU := hide hcu
 have HV := hide hvv
 have HBN := hide hB
 clear hp hj hcu hvv
 go_enter Tryz.func69, Tryz.ntmps69
 go_wp2_with fail
 have hbA : Below w.heap.size w ((w.alloc (.cells #[.slice x n.pieces.length ca, .slice z n.joints.length cc] 26)).alloc (.cells #[.slice none 0 0, .slice none 0 0] 26)) := bw0
 have hN0 : Boxed ((w.alloc (.cells #[.slice x n.pieces.length ca, .slice z n.joints.length cc] 26)).alloc (.cells #[.slice none 0 0, .slice none 0 0] 26)) w.heap.size [.slice x n.pieces.length ca, .slice z n.joints.length cc] := (boxed_alloc _ _ _).alloc _
 have hR0 : Boxed ((w.alloc (.cells #[.slice x n.pieces.length ca, .slice z n.joints.length cc] 26)).alloc (.cells #[.slice none 0 0, .slice none 0 0] 26)) (w.heap.size + 1) [.slice none 0 0, .slice none 0 0] := boxedN _ _ _ (by simp)
 have hszA : ((w.alloc (.cells #[.slice x n.pieces.length ca, .slice z n.joints.length cc] 26)).alloc (.cells #[.slice none 0 0, .slice none 0 0] 26)).heap.size = w.heap.size + 1 + 1 := by simp
 refine (copy_any _ n _ ((unhide HV).below hbA) (by have := hB.np; omega) (by have := hB.nj; omega) (fun i hi => by have := (hB.je _ (List.getElem_mem hi)).1; omega)).mono ?_
 rintro e w1 ⟨u, v', rfl, hpc, hjt, hb1⟩
 have hN1 := hN0.below hb1
 have hR1 := hR0.below hb1
 have hbw1 := below_then hbA hb1
 rw [hszA] at hpc hjt
 obtain ⟨pa, pcap, hpe, _⟩ := pcRow_at hpc
 obtain ⟨ja, jcap, hje, _⟩ := jtRow_at hjt.row
 subst hpe
 subst hje
 have n0 := hN1.2.1 0 _ rfl
 have n1 := hN1.2.1 1 _ rfl
 have nz := hN1.2.2
 have nl := hN1.1
 have hO : Only (fun k => k = w.heap.size) w1 ((w1.setCell ⟨w.heap.size, 0, none⟩ (.slice pa n.pieces.length pcap)).setCell ⟨w.heap.size, 1, none⟩ (.slice ja n.joints.length jcap)) := (only_setCell (S := fun k => k = w.heap.size) w1 (p := ⟨w.heap.size, 0, none⟩) rfl _).trans (only_setCell (S := fun k => k = w.heap.size) _ (p := ⟨w.heap.size, 1, none⟩) rfl _)
 have hN2 : Boxed ((w1.setCell ⟨w.heap.size, 0, none⟩ (.slice pa n.pieces.length pcap)).setCell ⟨w.heap.size, 1, none⟩ (.slice ja n.joints.length jcap)) w.heap.size [.slice pa n.pieces.length pcap, .slice ja n.joints.length jcap] := (hN1.setI (i := 0) (by simp) (.slice pa n.pieces.length pcap)).setI (i := 1) (by simp) (.slice ja n.joints.length jcap)
 have HS2 : Hid (SpS w C bs c (.slice pa n.pieces.length pcap) (.slice ja n.joints.length jcap) n ((w1.setCell ⟨w.heap.size, 0, none⟩ (.slice pa n.pieces.length pcap)).setCell ⟨w.heap.size, 1, none⟩ (.slice ja n.joints.length jcap))) :=
  ⟨⟨hN2, hpc.block fun k hk => hO.block k (hpc.lt k hk).2 (by have := (hpc.lt k hk).1; omega), hjt.blocks fun k hk hk' => hO.block k hk' (by omega)⟩, hR1.blk hO.size (hO.block _ hR1.1 (by omega)), ((unhide HCU).of_below hbw1 hCl).of_below (hO.below (B := w.heap.size) (by omega) (fun k hk e => by omega)) hCl, (but_below hbw1 (Nat.le_refl _)).trans (but_only hO (fun k hk e => by omega) (by omega)), hCl⟩
 dsimp only
 clear hpc hjt hO hN2 hN0 hR0 hbA hszA
 go_upto_region 2 with fail
 generalize (w1.setCell ⟨w.heap.size, 0, none⟩ (.slice pa n.pieces.length pcap)).setCell ⟨w.heap.size, 1, none⟩ (.slice ja n.joints.length jcap) = w2 at HS2 ⊢
 clear hN1 hR1 hb1 hbw1 n0 n1 nz nl
 have hpi := pickC_in bs c 10
 have hpa := pickC_at bs c 10
 go_wp2_with fail
 refine (pick_any C bs c 10 w2 (unhide HS2).cur hbs (by omega) (by omega)).mono ?_
 rintro e w3 ⟨rfl, hc3, ho3⟩
 have HS3 := hide ((unhide HS2).pick hc3 ho3)
 obtain ⟨⟨P, c1⟩, hpc⟩ : ∃ y, pickC bs c 10 = y := ⟨_, rfl⟩
 rw [hpc] at hpi hpa HS3 hX ⊢
 dsimp only at hpi hpa HS3 hX ⊢
 clear hc3 ho3 HS2 hpc
 go_upto_block 0 with fail
 go_cut [] (fun wx => ∃ u v n' c', Hid (SpS w C bs c' u v n' wx) ∧ Hid (NtB n' (K + 300)) ∧ c'.at_ ≤ c.at_ + 1000)
 case first =>
  obtain h0 | h1 | h6 | h7 | h8 | h9 := hX
  ·subst h0
   by_cases hp0 : 0 < n.pieces.length
   ·have hp0' : (0 : Int) < (n.pieces.length : Int) := by omega
    have hps : ∃ g, pa = some ⟨g, 0, none⟩ := by
     obtain ⟨_, ⟨h1, h2⟩ | ⟨g, cap, cur, h1, _⟩⟩ := (unhide HS3).net.2.1
     ·simp only [Value.slice.injEq] at h1
      omega
     ·simp only [Value.slice.injEq] at h1
      exact ⟨g, h1.1⟩
    obtain ⟨g, rfl⟩ := hps
    have n0 := (unhide HS3).net.1.2.1 0 _ rfl
    have nl := (unhide HS3).net.1.1
    have hpi3 := pickC_in bs c1 n.pieces.length
    have hpa3 := pickC_at bs c1 n.pieces.length
    have hbp := (unhide HBN).np
    go_upto_region 9 with fail
    refine wp_region_held_drew (S := fun w' => w'.cell? ⟨w.heap.size, 0, none⟩ = some (.slice (some ⟨g, 0, none⟩) n.pieces.length pcap)) (by kernel_rfl) ?_ (fun hHeld => ?_)
    ·exact ((unhide HS3).below (bw0 : Below w3.heap.size w3 w3.drew)).net.1.2.1 0 _ rfl
    refine wpAnyH_take (i := 0) (v := ?vp1) rfl (by kernel_rfl) (by kernel_rfl) (by kernel_rfl) (fun _ _ _ h => h) (Or.inl ⟨by rfl, ?yp1⟩) (by assumption) ?rp1
    case yp1 => (intro w0 hSw; (try dsimp only at hSw); go_simp; (try with_reducible rfl))
    (try simp only [Act.put, List.getElem_toArray, List.getElem_cons_zero, List.getElem_cons_succ, List.setIfInBounds_toArray, List.set_cons_zero, List.set_cons_succ])
    refine wpAnyH_take (i := 1) (v := ?vp2) rfl (by kernel_rfl) (by kernel_rfl) (by kernel_rfl) (fun _ _ _ h => h) (Or.inl ⟨by rfl, ?yp2⟩) (by assumption) ?rp2
    case yp2 => (intro w0 hSw; (try dsimp only at hSw); go_simp; (try with_reducible rfl))
    (try simp only [Act.put, List.getElem_toArray, List.getElem_cons_zero, List.getElem_cons_succ, List.setIfInBounds_toArray, List.set_cons_zero, List.set_cons_succ])
    refine wpAnyH_take (i := 2) (v := ?vp3) rfl (by kernel_rfl) (by kernel_rfl) (by kernel_rfl) (fun _ _ _ h => h) (Or.inl ⟨by rfl, ?yp3⟩) (by assumption) ?rp3
    case yp3 => (intro w0 hSw; (try dsimp only at hSw); go_simp; (try with_reducible rfl))
    (try simp only [Act.put, List.getElem_toArray, List.getElem_cons_zero, List.getElem_cons_succ, List.setIfInBounds_toArray, List.set_cons_zero, List.set_cons_succ])
    refine wpAnyH_take (i := 3) (v := ?vp4) rfl (by kernel_rfl) (by kernel_rfl) (by kernel_rfl) (fun _ _ _ h => h) (Or.inl ⟨by rfl, ?yp4⟩) (by assumption) ?rp4
    case yp4 => (intro w0 hSw; (try dsimp only at hSw); go_simp; (try with_reducible rfl))
    (try simp only [Act.put, List.getElem_toArray, List.getElem_cons_zero, List.getElem_cons_succ, List.setIfInBounds_toArray, List.set_cons_zero, List.set_cons_succ])
    refine wpAnyH_take (i := 4) (v := ?vp5) rfl (by kernel_rfl) (by kernel_rfl) (by kernel_rfl) (fun _ _ _ h => h) (Or.inl ⟨by rfl, ?yp5⟩) (by assumption) ?rp5
    case yp5 => (intro w0 hSw; (try dsimp only at hSw); go_simp; (try with_reducible rfl))
    (try simp only [Act.put, List.getElem_toArray, List.getElem_cons_zero, List.getElem_cons_succ, List.setIfInBounds_toArray, List.set_cons_zero, List.set_cons_succ])
    refine wpAnyH_take (i := 5) (v := ?vp6) rfl (by kernel_rfl) (by kernel_rfl) (by kernel_rfl) (fun _ _ _ h => h) (Or.inl ⟨by rfl, ?yp6⟩) (by assumption) ?rp6
    case yp6 => (intro w0 hSw; (try dsimp only at hSw); go_simp; (try with_reducible rfl))
    (try simp only [Act.put, List.getElem_toArray, List.getElem_cons_zero, List.getElem_cons_succ, List.setIfInBounds_toArray, List.set_cons_zero, List.set_cons_succ])
    refine wpAnyH_ready (rs := [6]) (by kernel_rfl) (by simp) ?_
    refine (AllReadyH.cons rfl (fun K hK => ?_) AllReadyH.nil)
    go_simp
    have hSd := (unhide HS3).below (bw0 : Below w3.heap.size w3 w3.drew)
    refine (pick_any C bs c1 n.pieces.length _ hSd.cur hbs (by omega) (by omega)).mono ?_
    rintro e w4 ⟨rfl, hc4, ho4⟩
    have HS4 := hide (hSd.pick hc4 ho4)
    obtain ⟨⟨P3, c3⟩, hpc3⟩ : ∃ y, pickC bs c1 n.pieces.length = y := ⟨_, rfl⟩
    rw [hpc3] at hpi3 hpa3 HS4 ⊢
    dsimp only at hpi3 hpa3 HS4 ⊢
    obtain ⟨k, rfl⟩ := Int.eq_ofNat_of_zero_le hpi3.1
    have hk : k < n.pieces.length := by omega
    have hk' : (k : Int) < (n.pieces.length : Int) := by omega
    clear hc4 ho4 hpc3 hSd
    refine hK.out _ _ ((unhide HS4).net.1.2.1 0 _ rfl) (fun hHeld => ?_)
    clear hK K
    (try simp only [Act.put, List.getElem_toArray, List.getElem_cons_zero, List.getElem_cons_succ, List.setIfInBounds_toArray, List.set_cons_zero, List.set_cons_succ])
    refine wpAnyH_take (i := 7) (v := ?vp7) rfl (by kernel_rfl) (by kernel_rfl) (by kernel_rfl) (fun _ _ _ h => h) (Or.inl ⟨by rfl, ?yp7⟩) (by assumption) ?rp7
    case yp7 => (intro w0 hSw; (try dsimp only at hSw); go_simp; (try with_reducible rfl))
    (try simp only [Act.put, List.getElem_toArray, List.getElem_cons_zero, List.getElem_cons_succ, List.setIfInBounds_toArray, List.set_cons_zero, List.set_cons_succ])
    refine wpAnyH_take (i := 8) (v := ?vp8) rfl (by kernel_rfl) (by kernel_rfl) (by kernel_rfl) (fun _ _ _ h => h) (Or.inl ⟨by rfl, ?yp8⟩) (by assumption) ?rp8
    case yp8 => (intro w0 hSw; (try dsimp only at hSw); go_simp; (try with_reducible rfl))
    (try simp only [Act.put, List.getElem_toArray, List.getElem_cons_zero, List.getElem_cons_succ, List.setIfInBounds_toArray, List.set_cons_zero, List.set_cons_succ])
    refine wpAnyH_done (by kernel_rfl) ?_ _
    have hpi4 := pickC_in bs c3 4
    have hpa4 := pickC_at bs c3 4
    go_wp2_with fail
    refine (pick_any C bs c3 4 w4 (unhide HS4).cur hbs (by omega) (by omega)).mono ?_
    rintro e w5 ⟨rfl, hc5, ho5⟩
    have HS5 := hide ((unhide HS4).pick hc5 ho5)
    obtain ⟨⟨P4, c4⟩, hpc4⟩ : ∃ y, pickC bs c3 4 = y := ⟨_, rfl⟩
    rw [hpc4] at hpi4 hpa4 HS5 ⊢
    dsimp only at hpi4 hpa4 HS5 ⊢
    clear hc5 ho5 hpc4
    obtain h4 | h4 | h4 | h4 : P4 = 0 ∨ P4 = 1 ∨ P4 = 2 ∨ P4 = 3 := by omega
    ·subst h4
     have hpi5 := pickC_in bs c4 4
     have hpa5 := pickC_at bs c4 4
     go_wp2_with fail
     have hbL : Below w5.heap.size w5 (w5.alloc (.cells #[.int .i64 0, .int .i64 (-1), .int .i64 10000000, .int .i64 10000001] 3)) := bw0
     refine (pick_any C bs c4 4 _ ((unhide HS5).below hbL).cur hbs (by omega) (by omega)).mono ?_
     rintro e w6 ⟨rfl, hc6, ho6⟩
     have HS6 := hide (((unhide HS5).below hbL).pick hc6 ho6)
     have hL6 : Boxed w6 w5.heap.size [.int .i64 0, .int .i64 (-1), .int .i64 10000000, .int .i64 10000001] := (boxed_alloc w5 #[.int .i64 0, .int .i64 (-1), .int .i64 10000000, .int .i64 10000001] 3).onlyS ho6 (fun e => by have := (unhide HS5).but.size; have := (unhide HS5).lt; omega)
     obtain ⟨⟨P5, c5⟩, hpc5⟩ : ∃ y, pickC bs c4 4 = y := ⟨_, rfl⟩
     rw [hpc5] at hpi5 hpa5 HS6 ⊢
     dsimp only at hpi5 hpa5 HS6 ⊢
     obtain ⟨i, rfl⟩ := Int.eq_ofNat_of_zero_le hpi5.1
     have hi : i < 4 := by omega
     have hi' : (i : Int) < 4 := by omega
     obtain ⟨x, hx, hxs⟩ : ∃ x : Int, w6.cell? ⟨w5.heap.size, i, none⟩ = some (.int .i64 x) ∧ (-100000000 ≤ x ∧ x ≤ 100000000) := by
      match i, hi with
      | 0, _ => exact ⟨_, hL6.2.1 0 _ rfl, by decide⟩
      | 1, _ => exact ⟨_, hL6.2.1 1 _ rfl, by decide⟩
      | 2, _ => exact ⟨_, hL6.2.1 2 _ rfl, by decide⟩
      | 3, _ => exact ⟨_, hL6.2.1 3 _ rfl, by decide⟩
     have hg6 := (unhide HS6).net.2.1.lt g rfl
     have hgl := hg6.2
     have gz := (unhide HS6).net.2.1.free
     obtain ⟨pb, poff, hpe, _, q0, q1, q2, q3⟩ := (by obtain ⟨a', cap', e', hx'⟩ := pcRow_at (unhide HS6).net.2.1; simp only [Value.slice.injEq, true_and] at e'; rw [← e'.1] at hx'; exact hx' k hk : ∃ b off, (some ⟨g, 0, none⟩ : Option Addr) = some ⟨b, off, none⟩ ∧ _)
     simp only [Option.some.injEq, Addr.mk.injEq, and_true] at hpe
     obtain ⟨rfl, rfl⟩ := hpe
     simp only [Nat.zero_add] at q0 q1 q2 q3
     have HF := hide ((unhide HS6).putP hk (j := 1) (by omega) ⟨n.pieces[k].name, x, n.pieces[k].speed, n.pieces[k].brake⟩ (.int .i64 x) rfl)
     have ll := hL6.1
     clear hc6 ho6 hpc5 hL6 hbL
     go_wp2_with fail
     go_meet
     exact ⟨_, _, _, c5, HF, hide ((unhide HBN).putP hk ⟨n.pieces[k].name, x, n.pieces[k].speed, n.pieces[k].brake⟩ (by have h := (unhide HBN).pn n.pieces[k] (List.getElem_mem hk); show n.pieces[k].name.size ≤ K + 300 ∧ -100000000 ≤ x ∧ x ≤ 100000000; omega)), by omega⟩
    ·subst h4
     have hpi5 := pickC_in bs c4 3
     have hpa5 := pickC_at bs c4 3
     go_wp2_with fail
     have hbL : Below w5.heap.size w5 (w5.alloc (.cells #[.int .i64 0, .int .i64 10000, .int .i64 10001] 3)) := bw0
     refine (pick_any C bs c4 3 _ ((unhide HS5).below hbL).cur hbs (by omega) (by omega)).mono ?_
     rintro e w6 ⟨rfl, hc6, ho6⟩
     have HS6 := hide (((unhide HS5).below hbL).pick hc6 ho6)
     have hL6 : Boxed w6 w5.heap.size [.int .i64 0, .int .i64 10000, .int .i64 10001] := (boxed_alloc w5 #[.int .i64 0, .int .i64 10000, .int .i64 10001] 3).onlyS ho6 (fun e => by have := (unhide HS5).but.size; have := (unhide HS5).lt; omega)
     obtain ⟨⟨P5, c5⟩, hpc5⟩ : ∃ y, pickC bs c4 3 = y := ⟨_, rfl⟩
     rw [hpc5] at hpi5 hpa5 HS6 ⊢
     dsimp only at hpi5 hpa5 HS6 ⊢
     obtain ⟨i, rfl⟩ := Int.eq_ofNat_of_zero_le hpi5.1
     have hi : i < 3 := by omega
     have hi' : (i : Int) < 3 := by omega
     obtain ⟨x, hx, hxs⟩ : ∃ x : Int, w6.cell? ⟨w5.heap.size, i, none⟩ = some (.int .i64 x) ∧ (-100000000 ≤ x ∧ x ≤ 100000000) := by
      match i, hi with
      | 0, _ => exact ⟨_, hL6.2.1 0 _ rfl, by decide⟩
      | 1, _ => exact ⟨_, hL6.2.1 1 _ rfl, by decide⟩
      | 2, _ => exact ⟨_, hL6.2.1 2 _ rfl, by decide⟩
     have hg6 := (unhide HS6).net.2.1.lt g rfl
     have hgl := hg6.2
     have gz := (unhide HS6).net.2.1.free
     obtain ⟨pb, poff, hpe, _, q0, q1, q2, q3⟩ := (by obtain ⟨a', cap', e', hx'⟩ := pcRow_at (unhide HS6).net.2.1; simp only [Value.slice.injEq, true_and] at e'; rw [← e'.1] at hx'; exact hx' k hk : ∃ b off, (some ⟨g, 0, none⟩ : Option Addr) = some ⟨b, off, none⟩ ∧ _)
     simp only [Option.some.injEq, Addr.mk.injEq, and_true] at hpe
     obtain ⟨rfl, rfl⟩ := hpe
     simp only [Nat.zero_add] at q0 q1 q2 q3
     have HF := hide ((unhide HS6).putP hk (j := 2) (by omega) ⟨n.pieces[k].name, n.pieces[k].len, x, n.pieces[k].brake⟩ (.int .i64 x) rfl)
     have ll := hL6.1
     clear hc6 ho6 hpc5 hL6 hbL
     go_wp2_with fail
     go_meet
     exact ⟨_, _, _, c5, HF, hide ((unhide HBN).putP hk ⟨n.pieces[k].name, n.pieces[k].len, x, n.pieces[k].brake⟩ (by have h := (unhide HBN).pn n.pieces[k] (List.getElem_mem hk); show n.pieces[k].name.size ≤ K + 300 ∧ -100000000 ≤ n.pieces[k].len ∧ n.pieces[k].len ≤ 100000000; omega)), by omega⟩
    ·subst h4
     have hpi5 := pickC_in bs c4 3
     have hpa5 := pickC_at bs c4 3
     go_wp2_with fail
     have hbL : Below w5.heap.size w5 (w5.alloc (.cells #[.int .i64 0, .int .i64 1000, .int .i64 1001] 3)) := bw0
     refine (pick_any C bs c4 3 _ ((unhide HS5).below hbL).cur hbs (by omega) (by omega)).mono ?_
     rintro e w6 ⟨rfl, hc6, ho6⟩
     have HS6 := hide (((unhide HS5).below hbL).pick hc6 ho6)
     have hL6 : Boxed w6 w5.heap.size [.int .i64 0, .int .i64 1000, .int .i64 1001] := (boxed_alloc w5 #[.int .i64 0, .int .i64 1000, .int .i64 1001] 3).onlyS ho6 (fun e => by have := (unhide HS5).but.size; have := (unhide HS5).lt; omega)
     obtain ⟨⟨P5, c5⟩, hpc5⟩ : ∃ y, pickC bs c4 3 = y := ⟨_, rfl⟩
     rw [hpc5] at hpi5 hpa5 HS6 ⊢
     dsimp only at hpi5 hpa5 HS6 ⊢
     obtain ⟨i, rfl⟩ := Int.eq_ofNat_of_zero_le hpi5.1
     have hi : i < 3 := by omega
     have hi' : (i : Int) < 3 := by omega
     obtain ⟨x, hx, hxs⟩ : ∃ x : Int, w6.cell? ⟨w5.heap.size, i, none⟩ = some (.int .i64 x) ∧ (-100000000 ≤ x ∧ x ≤ 100000000) := by
      match i, hi with
      | 0, _ => exact ⟨_, hL6.2.1 0 _ rfl, by decide⟩
      | 1, _ => exact ⟨_, hL6.2.1 1 _ rfl, by decide⟩
      | 2, _ => exact ⟨_, hL6.2.1 2 _ rfl, by decide⟩
     have hg6 := (unhide HS6).net.2.1.lt g rfl
     have hgl := hg6.2
     have gz := (unhide HS6).net.2.1.free
     obtain ⟨pb, poff, hpe, _, q0, q1, q2, q3⟩ := (by obtain ⟨a', cap', e', hx'⟩ := pcRow_at (unhide HS6).net.2.1; simp only [Value.slice.injEq, true_and] at e'; rw [← e'.1] at hx'; exact hx' k hk : ∃ b off, (some ⟨g, 0, none⟩ : Option Addr) = some ⟨b, off, none⟩ ∧ _)
     simp only [Option.some.injEq, Addr.mk.injEq, and_true] at hpe
     obtain ⟨rfl, rfl⟩ := hpe
     simp only [Nat.zero_add] at q0 q1 q2 q3
     have HF := hide ((unhide HS6).putP hk (j := 3) (by omega) ⟨n.pieces[k].name, n.pieces[k].len, n.pieces[k].speed, x⟩ (.int .i64 x) rfl)
     have ll := hL6.1
     clear hc6 ho6 hpc5 hL6 hbL
     go_wp2_with fail
     go_meet
     exact ⟨_, _, _, c5, HF, hide ((unhide HBN).putP hk ⟨n.pieces[k].name, n.pieces[k].len, n.pieces[k].speed, x⟩ (by have h := (unhide HBN).pn n.pieces[k] (List.getElem_mem hk); show n.pieces[k].name.size ≤ K + 300 ∧ -100000000 ≤ n.pieces[k].len ∧ n.pieces[k].len ≤ 100000000; omega)), by omega⟩
    ·subst h4
     have hpi5 := pickC_in bs c4 6
     have hpa5 := pickC_at bs c4 6
     go_wp2_with fail
     have hbL : Below w5.heap.size w5 (w5.alloc (.cells #[.string ⟨#[]⟩, .string ⟨#[65]⟩, .string ⟨#[97, 48]⟩, .string ⟨#[97, 32, 98]⟩, .string ⟨#[97, 98, 99, 100, 101, 102, 103, 104, 105, 106, 107, 108, 109, 110, 111, 112, 113, 114, 115, 116]⟩, .string ⟨#[97, 98, 99, 100, 101, 102, 103, 104, 105, 106, 107, 108, 109, 110, 111, 112, 113, 114, 115, 116, 117]⟩] 9)) := bw0
     refine (pick_any C bs c4 6 _ ((unhide HS5).below hbL).cur hbs (by omega) (by omega)).mono ?_
     rintro e w6 ⟨rfl, hc6, ho6⟩
     have HS6 := hide (((unhide HS5).below hbL).pick hc6 ho6)
     have hL6 : Boxed w6 w5.heap.size [.string ⟨#[]⟩, .string ⟨#[65]⟩, .string ⟨#[97, 48]⟩, .string ⟨#[97, 32, 98]⟩, .string ⟨#[97, 98, 99, 100, 101, 102, 103, 104, 105, 106, 107, 108, 109, 110, 111, 112, 113, 114, 115, 116]⟩, .string ⟨#[97, 98, 99, 100, 101, 102, 103, 104, 105, 106, 107, 108, 109, 110, 111, 112, 113, 114, 115, 116, 117]⟩] := (boxed_alloc w5 #[.string ⟨#[]⟩, .string ⟨#[65]⟩, .string ⟨#[97, 48]⟩, .string ⟨#[97, 32, 98]⟩, .string ⟨#[97, 98, 99, 100, 101, 102, 103, 104, 105, 106, 107, 108, 109, 110, 111, 112, 113, 114, 115, 116]⟩, .string ⟨#[97, 98, 99, 100, 101, 102, 103, 104, 105, 106, 107, 108, 109, 110, 111, 112, 113, 114, 115, 116, 117]⟩] 9).onlyS ho6 (fun e => by have := (unhide HS5).but.size; have := (unhide HS5).lt; omega)
     obtain ⟨⟨P5, c5⟩, hpc5⟩ : ∃ y, pickC bs c4 6 = y := ⟨_, rfl⟩
     rw [hpc5] at hpi5 hpa5 HS6 ⊢
     dsimp only at hpi5 hpa5 HS6 ⊢
     obtain ⟨i, rfl⟩ := Int.eq_ofNat_of_zero_le hpi5.1
     have hi : i < 6 := by omega
     have hi' : (i : Int) < 6 := by omega
     obtain ⟨x, hx, hxs⟩ : ∃ x : ByteArray, w6.cell? ⟨w5.heap.size, i, none⟩ = some (.string x) ∧ x.size ≤ 30 := by
      match i, hi with
      | 0, _ => exact ⟨_, hL6.2.1 0 _ rfl, by decide⟩
      | 1, _ => exact ⟨_, hL6.2.1 1 _ rfl, by decide⟩
      | 2, _ => exact ⟨_, hL6.2.1 2 _ rfl, by decide⟩
      | 3, _ => exact ⟨_, hL6.2.1 3 _ rfl, by decide⟩
      | 4, _ => exact ⟨_, hL6.2.1 4 _ rfl, by decide⟩
      | 5, _ => exact ⟨_, hL6.2.1 5 _ rfl, by decide⟩
     have hg6 := (unhide HS6).net.2.1.lt g rfl
     have hgl := hg6.2
     have gz := (unhide HS6).net.2.1.free
     obtain ⟨pb, poff, hpe, _, q0, q1, q2, q3⟩ := (by obtain ⟨a', cap', e', hx'⟩ := pcRow_at (unhide HS6).net.2.1; simp only [Value.slice.injEq, true_and] at e'; rw [← e'.1] at hx'; exact hx' k hk : ∃ b off, (some ⟨g, 0, none⟩ : Option Addr) = some ⟨b, off, none⟩ ∧ _)
     simp only [Option.some.injEq, Addr.mk.injEq, and_true] at hpe
     obtain ⟨rfl, rfl⟩ := hpe
     simp only [Nat.zero_add] at q0 q1 q2 q3
     have HF := hide ((unhide HS6).putP hk (j := 0) (by omega) ⟨x, n.pieces[k].len, n.pieces[k].speed, n.pieces[k].brake⟩ (.string x) rfl)
     have ll := hL6.1
     clear hc6 ho6 hpc5 hL6 hbL
     go_wp2_with fail
     go_meet
     exact ⟨_, _, _, c5, HF, hide ((unhide HBN).putP hk ⟨x, n.pieces[k].len, n.pieces[k].speed, n.pieces[k].brake⟩ (by have h := (unhide HBN).pn n.pieces[k] (List.getElem_mem hk); show x.size ≤ K + 300 ∧ -100000000 ≤ n.pieces[k].len ∧ n.pieces[k].len ≤ 100000000; omega)), by omega⟩
   ·have hp0' : ¬ (0 : Int) < (n.pieces.length : Int) := by omega
    have n0 := (unhide HS3).net.1.2.1 0 _ rfl
    have nl := (unhide HS3).net.1.1
    go_wp2_with fail
    go_meet
    exact ⟨_, _, _, _, HS3, hide ((unhide HBN).more (by omega)), by omega⟩
  ·subst h1
   have HF := hide ((unhide HS3).setP (u' := .slice none 0 0) (ps := []) (Row.nil _ _ _ _ _))
   have n0 := (unhide HS3).net.1.2.1 0 _ rfl
   have nz := (unhide HS3).net.1.2.2
   have nl := (unhide HS3).net.1.1
   go_wp2_with fail
   go_meet
   exact ⟨_, _, _, _, HF, hide ⟨Nat.zero_le _, by have := (unhide HBN).nj; dsimp only; omega, (fun p hp => by cases hp), fun j hj => by have := (unhide HBN).je j hj; omega⟩, by omega⟩
  ·subst h6
   by_cases hj0 : 0 < n.joints.length
   ·have hj0' : (0 : Int) < (n.joints.length : Int) := by omega
    obtain ⟨_, _, hjr, _⟩ := (unhide HS3).net.2.2
    have hjs : ∃ g, ja = some ⟨g, 0, none⟩ := by
     obtain ⟨_, ⟨h1, h2⟩ | ⟨g, cap, cur, h1, _⟩⟩ := hjr
     ·simp only [Value.slice.injEq] at h1
      omega
     ·simp only [Value.slice.injEq] at h1
      exact ⟨g, h1.1⟩
    obtain ⟨g, rfl⟩ := hjs
    have HF := hide ((unhide HS3).setJ ((unhide HS3).net.2.2.cut (n.joints.length - 1) (by omega)))
    have n1 := (unhide HS3).net.1.2.1 1 _ rfl
    have nz := (unhide HS3).net.1.2.2
    have nl := (unhide HS3).net.1.1
    have hcp : n.joints.length ≤ jcap := by
     obtain ⟨_, _, e, hc, _⟩ := hjr.shape jvF_len
     simp only [Value.slice.injEq] at e
     omega
    have hsub : IntKind.i64.wrap ((n.joints.length : Int) - 1) = ((n.joints.length - 1 : Nat) : Int) := (wrap_small (by omega) (by have := (unhide HBN).nj; omega)).trans (by omega)
    have hbj := (unhide HBN).nj
    clear hjr
    go_wp2_with fail
    go_meet
    exact ⟨_, _, _, _, HF, hide ⟨by have := (unhide HBN).np; dsimp only; omega, by dsimp only; rw [List.length_take]; omega, fun p hp => by have := (unhide HBN).pn p hp; omega, fun j hj => by have := (unhide HBN).je j (List.mem_of_mem_take hj); omega⟩, by omega⟩
   ·have hj0' : ¬ (0 : Int) < (n.joints.length : Int) := by omega
    have n1 := (unhide HS3).net.1.2.1 1 _ rfl
    have nl := (unhide HS3).net.1.1
    go_wp2_with fail
    go_meet
    exact ⟨_, _, _, _, HS3, hide ((unhide HBN).more (by omega)), by omega⟩
  ·subst h7
   obtain ⟨qs, hqs, hv, hqe, htw⟩ := (unhide HS3).net.2.2
   have hlen : n.joints.length = qs.length := by rw [← hqs, List.length_map]
   have hv' : w3.ownsRow (w.heap.size + 1 + 1) 76 3 (.slice ja n.joints.length jcap) n.joints.length (qs.flatMap jvF) := by
    have h := hv
    unfold JvRow Row at h
    rw [← hlen] at h
    exact h
   have HV := hide hv
   have HV' := hide hv'
   have HQE := hide hqe
   have HQS := hide hqs
   have HTW := hide htw
   have HLEN := hide hlen
   have hbj := (unhide HBN).nj
   have n1 := (unhide HS3).net.1.2.1 1 _ rfl
   have nz := (unhide HS3).net.1.2.2
   have nl := (unhide HS3).net.1.1
   have hsz3 := (unhide HS3).res.1
   clear hqs hv hv' hqe htw hlen
   go_wp2_with (at_builtin; refine wpList_append_lies _ rfl (.tmp 198) (.tmp 202) 24 rfl (w.heap.size + 1 + 1) 76 i3 (.agg #[.int .i64 0, .string ⟨#[]⟩, .slice none 0 0]) 3 48 Tryz.underlying24 hi3 hs0 hs1 hs2 rfl (by decide) _ n.joints.length (qs.flatMap jvF) rfl (owns_below (unhide HV') bw0) ⟨w3.heap.size + 1, 0, none⟩ 1 1 (jvF (⟨1, ⟨#[]⟩, [⟨0, 0⟩]⟩, .slice (some ⟨w3.heap.size, 0, none⟩) 1 1)) rfl rfl (box_news (vs := jvF (⟨1, ⟨#[]⟩, [⟨0, 0⟩]⟩, .slice (some ⟨w3.heap.size, 0, none⟩) 1 1)) (boxedN _ _ _ (by simp))) (jv_one _ _ _ _) (by omega) (by unfold maxLen; omega) (by omega) (by first | omega | (simp; omega)) _ rfl ?_)
   intro g cap w5 hown hgrow hat hlt5
   have hbE : Below w3.heap.size w3 (w3.alloc (.cells #[.int .i64 0, .int .i64 0] 151)) := bw0
   have hbX : Below w3.heap.size w3 ((w3.alloc (.cells #[.int .i64 0, .int .i64 0] 151)).alloc (.cells #[.int .i64 1, .string ⟨#[]⟩, .slice (some ⟨w3.heap.size, 0, none⟩) 1 1] 76)) := bw0
   have hbEX : Below (w3.alloc (.cells #[.int .i64 0, .int .i64 0] 151)).heap.size (w3.alloc (.cells #[.int .i64 0, .int .i64 0] 151)) ((w3.alloc (.cells #[.int .i64 0, .int .i64 0] 151)).alloc (.cells #[.int .i64 1, .string ⟨#[]⟩, .slice (some ⟨w3.heap.size, 0, none⟩) 1 1] 76)) := bw0
   have hev : EdRow ((w3.alloc (.cells #[.int .i64 0, .int .i64 0] 151)).alloc (.cells #[.int .i64 1, .string ⟨#[]⟩, .slice (some ⟨w3.heap.size, 0, none⟩) 1 1] 76)) (w.heap.size + 1 + 1) (.slice (some ⟨w3.heap.size, 0, none⟩) 1 1) [⟨0, 0⟩] := (ed_lit w3 (w.heap.size + 1 + 1) (by omega) [⟨0, 0⟩] (by simp)).below hbEX
   have hX5 := ((unhide HS3).net.1.below hbX).grownE hgrow (fun hc => by have := ((unhide HV).lt _ hc).1; omega)
   have d1 := hX5.2.1 1 _ rfl
   have dz := hX5.2.2
   have dl := hX5.1
   have hrow : JvRow w5 (w.heap.size + 1 + 1) (.slice (some ⟨g, 0, none⟩) (n.joints.length + 1) cap) (qs ++ [((⟨1, ⟨#[]⟩, [⟨0, 0⟩]⟩ : Jt), .slice (some ⟨w3.heap.size, 0, none⟩) 1 1)]) := Row.snoc (by rw [← unhide HLEN]; exact hown)
   have HF := hide (((unhide HS3).below hbX).addJoint (j := ⟨1, ⟨#[]⟩, [⟨0, 0⟩]⟩) hgrow (unhide HQS) ((unhide HV).below hbX) (fun q hq => (unhide HQE q hq).below hbX) (unhide HTW) (fun q hq k h1 h2 => by
    have g1 := ((unhide HQE q hq).lt k h1).2
    simp [Value.ownBlock] at h2
    omega) hev hrow)
   clear hown hrow hgrow hat hlt5 hbX hbE hbEX hev hX5 n1 nz nl
   go_wp2_with fail
   go_meet
   exact ⟨_, _, _, c1, HF, hide (((unhide HBN).addJ (j := ⟨1, ⟨#[]⟩, [⟨0, 0⟩]⟩) (show (1 : Nat) ≤ K + 1 by omega) (show (0 : Nat) ≤ K + 1 by omega)).more (K' := K + 300) (by omega)), by omega⟩
  ·subst h8
   have HPR := hide (unhide HS3).net.2.1
   have n0 := (unhide HS3).net.1.2.1 0 _ rfl
   have nz := (unhide HS3).net.1.2.2
   have nl := (unhide HS3).net.1.1
   have hbp := (unhide HBN).np
   go_wp2_with (at_builtin; refine wpList_append_lies _ rfl (.tmp 208) (.tmp 210) 23 rfl (w.heap.size + 1 + 1) 134 i1 (.agg #[.string ⟨#[]⟩, .int .i64 0, .int .i64 0, .int .i64 0]) 4 40 Tryz.underlying23 hi1 hy0 hy1 hy2 rfl (by decide) _ n.pieces.length (n.pieces.flatMap pcF) rfl ((unhide HPR).below bw0) ⟨w3.heap.size, 0, none⟩ 1 1 (pcF ⟨⟨#[122]⟩, 1, 1, 1⟩) rfl rfl (pc_news (boxed_alloc _ _ _)) (pc_one _) (by omega) (by unfold maxLen; omega) (by omega) (by first | omega | (simp; omega)) _ rfl ?_)
   intro g cap w5 hown hgrow hat hlt5
   have hbX : Below w3.heap.size w3 (w3.alloc (.cells #[.string ⟨#[122]⟩, .int .i64 1, .int .i64 1, .int .i64 1] 134)) := bw0
   have hX5 := ((unhide HS3).net.1.below hbX).grownE hgrow (fun hc => by have := ((unhide HPR).lt _ hc).1; omega)
   have d0 := hX5.2.1 0 _ rfl
   have dz := hX5.2.2
   have dl := hX5.1
   have HF := hide (((unhide HS3).below hbX).addPiece (p := ⟨⟨#[122]⟩, 1, 1, 1⟩) hgrow (Row.snoc hown))
   clear hown hgrow hat hlt5 hbX hX5 n0 nz nl
   go_wp2_with fail
   go_meet
   exact ⟨_, _, _, _, HF, hide ⟨by simp only [List.length_append, List.length_singleton]; omega, by have := (unhide HBN).nj; dsimp only; omega, (fun p hp => by
    rcases List.mem_append.1 hp with h | h
    ·have := (unhide HBN).pn p h; omega
    ·simp at h; subst h; exact ⟨show (1 : Nat) ≤ K + 300 by omega, by decide, by decide⟩), fun j hj => by have := (unhide HBN).je j hj; omega⟩, by omega⟩
  ·subst h9
   go_wp2_with fail
   go_loopw [] (fun wx => ∃ (ua : Option Addr) (ucap : Nat) (va : Option Addr) (vcap : Nat) (n1 : Nt) (c' : Cu) (m : Nat), Hid (SpS w C bs c' (.slice ua n1.pieces.length ucap) (.slice va n1.joints.length vcap) n1 wx) ∧ Hid (NtB n1 (K + 110 + m)) ∧ m ≤ 101 ∧ (m = 0 ∨ n1.pieces.length ≤ 101) ∧ n1.pieces.length = n.pieces.length + m ∧ c'.at_ ≤ c.at_ + 2 + 2 * m) (fun wx => 102 - lenAt wx w.heap.size 0)
   case atStart => exact ⟨_, _, _, _, n, c1, 0, HS3, hide ((unhide HBN).more (by omega)), by omega, Or.inl rfl, by omega, by omega⟩
   case round =>
    obtain ⟨ua, ucap, va, vcap, n1, c', m, HS, HB1, hm, hm1, hml, hca⟩ := hrel
    have n0 := (unhide HS).net.1.2.1 0 _ rfl
    have nl := (unhide HS).net.1.1
    have hln := lenAt_of n0
    have hpi2 := pickC_in bs c' 2
    have hpa2 := pickC_at bs c' 2
    have HLN := hide hln
    have HML := hide hml
    have hpl : n1.pieces.length ≤ K + 101 := by have := (unhide HBN).np; omega
    clear hln hml
    go_upto_region 3 with fail
    refine wp_region_held_drew (S := fun w' => w'.cell? ⟨w.heap.size, 0, none⟩ = some (.slice ua n1.pieces.length ucap)) (by kernel_rfl) ?_ (fun hHeld => ?_)
    ·exact ((unhide HS).below (bw0 : Below wr.heap.size wr wr.drew)).net.1.2.1 0 _ rfl
    refine wpAnyH_take (i := 0) (v := ?vk1) rfl (by kernel_rfl) (by kernel_rfl) (by kernel_rfl) (fun _ _ _ h => h) (Or.inl ⟨by rfl, ?yk1⟩) (by assumption) ?rk1
    case yk1 => (intro w0 hSw; (try dsimp only at hSw); go_simp; (try with_reducible rfl))
    (try simp only [Act.put, List.getElem_toArray, List.getElem_cons_zero, List.getElem_cons_succ, List.setIfInBounds_toArray, List.set_cons_zero, List.set_cons_succ])
    refine wpAnyH_take (i := 1) (v := ?vk2) rfl (by kernel_rfl) (by kernel_rfl) (by kernel_rfl) (fun _ _ _ h => h) (Or.inl ⟨by rfl, ?yk2⟩) (by assumption) ?rk2
    case yk2 => (intro w0 hSw; (try dsimp only at hSw); go_simp; (try with_reducible rfl))
    (try simp only [Act.put, List.getElem_toArray, List.getElem_cons_zero, List.getElem_cons_succ, List.setIfInBounds_toArray, List.set_cons_zero, List.set_cons_succ])
    refine wpAnyH_take (i := 2) (v := ?vk3) rfl (by kernel_rfl) (by kernel_rfl) (by kernel_rfl) (fun _ _ _ h => h) (Or.inl ⟨by rfl, ?yk3⟩) (by assumption) ?rk3
    case yk3 => (intro w0 hSw; (try dsimp only at hSw); go_simp; (try with_reducible rfl))
    (try simp only [Act.put, List.getElem_toArray, List.getElem_cons_zero, List.getElem_cons_succ, List.setIfInBounds_toArray, List.set_cons_zero, List.set_cons_succ])
    refine wpAnyH_take (i := 3) (v := ?vk4) rfl (by kernel_rfl) (by kernel_rfl) (by kernel_rfl) (fun _ _ _ h => h) (Or.inl ⟨by rfl, ?yk4⟩) (by assumption) ?rk4
    case yk4 => (intro w0 hSw; (try dsimp only at hSw); go_simp; (try with_reducible rfl))
    (try simp only [Act.put, List.getElem_toArray, List.getElem_cons_zero, List.getElem_cons_succ, List.setIfInBounds_toArray, List.set_cons_zero, List.set_cons_succ])
    refine wpAnyH_ready (rs := [4]) (by kernel_rfl) (by simp) ?_
    refine (AllReadyH.cons rfl (fun K hK => ?_) AllReadyH.nil)
    go_simp
    have hSd := (unhide HS).below (bw0 : Below wr.heap.size wr wr.drew)
    refine (pick_any C bs c' 2 _ hSd.cur hbs (by omega) (by omega)).mono ?_
    rintro e w4 ⟨rfl, hc4, ho4⟩
    have HS4 := hide (hSd.pick hc4 ho4)
    obtain ⟨⟨P2, c2⟩, hpc2⟩ : ∃ y, pickC bs c' 2 = y := ⟨_, rfl⟩
    rw [hpc2] at hpi2 hpa2 HS4 ⊢
    dsimp only at hpi2 hpa2 HS4 ⊢
    clear hc4 ho4 hpc2 hSd
    refine hK.out _ _ ((unhide HS4).net.1.2.1 0 _ rfl) (fun hHeld => ?_)
    clear hK K
    (try simp only [Act.put, List.getElem_toArray, List.getElem_cons_zero, List.getElem_cons_succ, List.setIfInBounds_toArray, List.set_cons_zero, List.set_cons_succ])
    refine wpAnyH_take (i := 5) (v := ?vk5) rfl (by kernel_rfl) (by kernel_rfl) (by kernel_rfl) (fun _ _ _ h => h) (Or.inl ⟨by rfl, ?yk5⟩) (by assumption) ?rk5
    case yk5 => (intro w0 hSw; (try dsimp only at hSw); go_simp; (try with_reducible rfl))
    (try simp only [Act.put, List.getElem_toArray, List.getElem_cons_zero, List.getElem_cons_succ, List.setIfInBounds_toArray, List.set_cons_zero, List.set_cons_succ])
    refine wpAnyH_take (i := 6) (v := ?vk6) rfl (by kernel_rfl) (by kernel_rfl) (by kernel_rfl) (fun _ _ _ h => h) (Or.inl ⟨by rfl, ?yk6⟩) (by assumption) ?rk6
    case yk6 => (intro w0 hSw; (try dsimp only at hSw); go_simp; (try with_reducible rfl))
    (try simp only [Act.put, List.getElem_toArray, List.getElem_cons_zero, List.getElem_cons_succ, List.setIfInBounds_toArray, List.set_cons_zero, List.set_cons_succ])
    refine wpAnyH_done (by kernel_rfl) ?_ _

    have hp2 : 0 ≤ P2 ∧ P2 ≤ 1 := by omega
    have hw2 : IntKind.i64.wrap (100 + P2) = 100 + P2 := wrap_small (by omega) (by omega)
    by_cases hlt : (n1.pieces.length : Int) < 100 + P2
    ·have hdt : decide ((n1.pieces.length : Int) < 100 + P2) = true := by simpa using hlt
     have m0 := (unhide HS4).net.1.2.1 0 _ rfl
     have ml := (unhide HS4).net.1.1
     go_upto_region 5 with fail
     refine wp_region_last (S := fun w' => w'.cell? ⟨w.heap.size, 0, none⟩ = some (.slice ua n1.pieces.length ucap)) 9 (by kernel_rfl) ?_ (fun hHeld => ?_)
     ·exact ((unhide HS4).below (bw0 : Below w4.heap.size w4 w4.drew)).net.1.2.1 0 _ rfl
     refine wpAnyL_take (i := 0) [1, 7, 8, 9] (v := ?vl1) rfl (by kernel_rfl) rfl (by simp) (fun _ _ _ h => h) (Or.inl ⟨by rfl, ?yl1⟩) (by assumption) ?rl1
     case yl1 => (intro w0 hSw; (try dsimp only at hSw); go_simp; (try with_reducible rfl))
     (try simp only [Act.put, List.getElem_toArray, List.getElem_cons_zero, List.getElem_cons_succ, List.setIfInBounds_toArray, List.set_cons_zero, List.set_cons_succ])
     refine wpAnyL_take (i := 1) [7, 8, 9] (v := ?vl2) rfl (by kernel_rfl) rfl (by simp) (fun _ _ _ h => h) (Or.inl ⟨by rfl, ?yl2⟩) (by assumption) ?rl2
     case yl2 => (intro w0 hSw; (try dsimp only at hSw); go_simp; (try with_reducible rfl))
     (try simp only [Act.put, List.getElem_toArray, List.getElem_cons_zero, List.getElem_cons_succ, List.setIfInBounds_toArray, List.set_cons_zero, List.set_cons_succ])
     refine wpAnyL_take (i := 2) [4, 5, 6, 7, 8, 9] (v := ?vl3) rfl (by kernel_rfl) rfl (by simp) (fun _ _ _ h => h) (Or.inl ⟨by rfl, ?yl3⟩) (by assumption) ?rl3
     case yl3 => (intro w0 hSw; (try dsimp only at hSw); go_simp; (try with_reducible rfl))
     (try simp only [Act.put, List.getElem_toArray, List.getElem_cons_zero, List.getElem_cons_succ, List.setIfInBounds_toArray, List.set_cons_zero, List.set_cons_succ])
     refine wpAnyL_take (i := 3) [4, 5, 6, 7, 8, 9] (v := ?vl4) rfl (by kernel_rfl) rfl (by simp) (fun _ _ _ h => h) (Or.inl ⟨by rfl, ?yl4⟩) (by assumption) ?rl4
     case yl4 => (intro w0 hSw; (try dsimp only at hSw); go_simp; (try with_reducible rfl))
     (try simp only [Act.put, List.getElem_toArray, List.getElem_cons_zero, List.getElem_cons_succ, List.setIfInBounds_toArray, List.set_cons_zero, List.set_cons_succ])
     refine wpAnyL_ready (rs := [4]) (by kernel_rfl) (by simp) ?_
     refine (AllReadyL.cons rfl (fun K hK => ?_) AllReadyL.nil)
     go_simp
     refine (name_any _ n1.pieces.length _ (by omega)).mono ?_
     rintro e w5 ⟨rfl, hb5⟩
     dsimp only
     have hB5 : Below w4.heap.size w4 w5 := below_then bw0 hb5
     have HS5 := hide ((unhide HS4).below hB5)
     have x5 := (unhide HS5).net.1.2.1 0 _ rfl
     have xl5 := (unhide HS5).net.1.1
     refine hK.out _ _ (fun _ => x5) (fun _ => ?_)
     clear hK K
     (try simp only [Act.put, List.getElem_toArray, List.getElem_cons_zero, List.getElem_cons_succ, List.setIfInBounds_toArray, List.set_cons_zero, List.set_cons_succ])
     refine wpAnyL_take (i := 5) [6, 7, 8, 9] (v := ?vl5) rfl (by kernel_rfl) rfl (by simp) (fun _ _ _ h => h) (Or.inl ⟨by rfl, ?yl5⟩) (by assumption) ?rl5
     case yl5 => (intro w0 hSw; (try dsimp only at hSw); go_simp; (try with_reducible rfl))
     (try simp only [Act.put, List.getElem_toArray, List.getElem_cons_zero, List.getElem_cons_succ, List.setIfInBounds_toArray, List.set_cons_zero, List.set_cons_succ])
     refine wpAnyL_ready (rs := [6]) (by kernel_rfl) (by simp) ?_
     refine (AllReadyL.cons rfl (fun K hK => ?_) AllReadyL.nil)
     go_simp
     have HS6 := hide ((unhide HS5).below (bw0 : Below w5.heap.size w5 (w5.alloc (.cells #[.string (nameC n1.pieces.length), .int .i64 5, .int .i64 9, .int .i64 9] 134))))
     have x6 := (unhide HS6).net.1.2.1 0 _ rfl
     refine hK.out _ _ (fun _ => x6) (fun _ => ?_)
     clear hK K
     (try simp only [Act.put, List.getElem_toArray, List.getElem_cons_zero, List.getElem_cons_succ, List.setIfInBounds_toArray, List.set_cons_zero, List.set_cons_succ])
     refine wpAnyL_ready (rs := [7]) (by kernel_rfl) (by simp) ?_
     refine (AllReadyL.cons rfl (fun K hK => ?_) AllReadyL.nil)
     refine step_append_lies _ rfl (.tmp 23) (.tmp 28) 23 rfl (w.heap.size + 1 + 1) 134 i1 (.agg #[.string ⟨#[]⟩, .int .i64 0, .int .i64 0, .int .i64 0]) 4 40 Tryz.underlying23 hi1 hy0 hy1 hy2 rfl (by decide) (.slice ua n1.pieces.length ucap) n1.pieces.length (n1.pieces.flatMap pcF) (by simp [Act.eval]) (unhide HS6).net.2.1 _ 1 1 (pcF ⟨nameC n1.pieces.length, 5, 9, 9⟩) (by simp [Act.eval]) rfl (pc_news (x := ⟨nameC n1.pieces.length, 5, 9, 9⟩) (boxed_alloc _ _ _)) (pc_one _) (by omega) (by unfold maxLen; omega) (by omega) (by have := (unhide HS5).res.1; simp; omega) _ rfl ?_
     intro g gcap w6 hown6 hgrow hat6 hlt6
     have hrow6 : PcRow w6 (w.heap.size + 1 + 1) (.slice (some ⟨g, 0, none⟩) (n1.pieces.length + 1) gcap) (n1.pieces ++ [⟨nameC n1.pieces.length, 5, 9, 9⟩]) := Row.snoc (f := pcF) hown6
     have HS7 := hide ((unhide HS6).addPiece (p := ⟨nameC n1.pieces.length, 5, 9, 9⟩) hgrow hrow6)
     have hX6 := (unhide HS6).net.1.grownE hgrow (fun hc => by have := ((unhide HS6).net.2.1.lt _ hc).1; omega)
     have x7 := hX6.2.1 0 _ rfl
     have xz7 := hX6.2.2
     have xl7 := hX6.1
     clear hown6 hrow6 hgrow hat6 hlt6
     refine hK.out _ _ (fun _ => x7) (fun _ => ?_)
     clear hK K
     (try simp only [Act.put, List.getElem_toArray, List.getElem_cons_zero, List.getElem_cons_succ, List.setIfInBounds_toArray, List.set_cons_zero, List.set_cons_succ])
     refine wpAnyL_take (i := 8) [9] (v := ?vl6) rfl (by kernel_rfl) rfl (by simp) (fun _ _ _ h => h) (Or.inl ⟨by rfl, ?yl6⟩) (by assumption) ?rl6
     case yl6 => (intro w0 hSw; (try dsimp only at hSw); go_simp; (try with_reducible rfl))
     (try simp only [Act.put, List.getElem_toArray, List.getElem_cons_zero, List.getElem_cons_succ, List.setIfInBounds_toArray, List.set_cons_zero, List.set_cons_succ])
     refine wpAnyL_ready (rs := [9]) (by kernel_rfl) (by simp) ?_
     refine (AllReadyL.cons rfl (fun K hK => ?_) AllReadyL.nil)
     go_simp
     refine hK.out _ _ (fun h => absurd rfl h) (fun _ => ?_)
     clear hK K
     (try simp only [Act.put, List.getElem_toArray, List.getElem_cons_zero, List.getElem_cons_succ, List.setIfInBounds_toArray, List.set_cons_zero, List.set_cons_succ])
     refine wpAnyL_done (by kernel_rfl) ?_ _

     go_upto_region 6 with fail
     generalize w6.setCell ⟨w.heap.size, 0, none⟩ (.slice (some ⟨g, 0, none⟩) (n1.pieces.length + 1) gcap) = w7 at HS7 ⊢
     clear x5 xl5 x6 x7 xz7 xl7 m0 ml HS6 HS5 hB5 HS4 n0 nl
     obtain ⟨qs, hqs, hv, hqe, htw⟩ := (unhide HS7).net.2.2
     dsimp only at hqs
     have hlen : n1.joints.length = qs.length := by rw [← hqs, List.length_map]
     have hv' : w7.ownsRow (w.heap.size + 1 + 1) 76 3 (.slice va n1.joints.length vcap) n1.joints.length (qs.flatMap jvF) := by
      have h := hv
      unfold JvRow Row at h
      rw [← hlen] at h
      exact h
     have HV := hide hv
     have HV' := hide hv'
     have HQE := hide hqe
     have HQS := hide hqs
     have HTW := hide htw
     have HLEN := hide hlen
     have hbj := (unhide HB1).nj
     have n1' := (unhide HS7).net.1.2.1 1 _ rfl
     have nz := (unhide HS7).net.1.2.2
     have nl := (unhide HS7).net.1.1
     have hsz7 := (unhide HS7).res.1
     clear hqs hv hv' hqe htw hlen
     go_wp2_with (at_builtin; refine wpList_append_lies _ rfl (.tmp 32) (.tmp 39) 24 rfl (w.heap.size + 1 + 1) 76 i3 (.agg #[.int .i64 0, .string ⟨#[]⟩, .slice none 0 0]) 3 48 Tryz.underlying24 hi3 hs0 hs1 hs2 rfl (by decide) _ n1.joints.length (qs.flatMap jvF) rfl (owns_below (unhide HV') bw0) ⟨w7.heap.size + 1, 0, none⟩ 1 1 (jvF (⟨2, ⟨#[]⟩, [⟨n1.pieces.length, 0⟩, ⟨n1.pieces.length, 1⟩]⟩, .slice (some ⟨w7.heap.size, 0, none⟩) 2 2)) rfl rfl (box_news (vs := jvF (⟨2, ⟨#[]⟩, [⟨n1.pieces.length, 0⟩, ⟨n1.pieces.length, 1⟩]⟩, .slice (some ⟨w7.heap.size, 0, none⟩) 2 2)) (boxedN _ _ _ (by simp))) (jv_one _ _ _ _) (by omega) (by unfold maxLen; omega) (by omega) (by first | omega | (simp; omega)) _ rfl ?_)
     intro g2 cap2 w8 hown hgrow hat hlt8
     have hbX : Below w7.heap.size w7 ((w7.alloc (.cells #[.int .i64 n1.pieces.length, .int .i64 0, .int .i64 n1.pieces.length, .int .i64 1] 151)).alloc (.cells #[.int .i64 2, .string ⟨#[]⟩, .slice (some ⟨w7.heap.size, 0, none⟩) 2 2] 76)) := bw0
     have hbEX : Below (w7.alloc (.cells #[.int .i64 n1.pieces.length, .int .i64 0, .int .i64 n1.pieces.length, .int .i64 1] 151)).heap.size (w7.alloc (.cells #[.int .i64 n1.pieces.length, .int .i64 0, .int .i64 n1.pieces.length, .int .i64 1] 151)) ((w7.alloc (.cells #[.int .i64 n1.pieces.length, .int .i64 0, .int .i64 n1.pieces.length, .int .i64 1] 151)).alloc (.cells #[.int .i64 2, .string ⟨#[]⟩, .slice (some ⟨w7.heap.size, 0, none⟩) 2 2] 76)) := bw0
     have hev : EdRow ((w7.alloc (.cells #[.int .i64 n1.pieces.length, .int .i64 0, .int .i64 n1.pieces.length, .int .i64 1] 151)).alloc (.cells #[.int .i64 2, .string ⟨#[]⟩, .slice (some ⟨w7.heap.size, 0, none⟩) 2 2] 76)) (w.heap.size + 1 + 1) (.slice (some ⟨w7.heap.size, 0, none⟩) 2 2) [⟨n1.pieces.length, 0⟩, ⟨n1.pieces.length, 1⟩] := (ed_lit w7 (w.heap.size + 1 + 1) (by omega) [⟨n1.pieces.length, 0⟩, ⟨n1.pieces.length, 1⟩] (by simp)).below hbEX
     have hX8 := ((unhide HS7).net.1.below hbX).grownE hgrow (fun hc => by have := ((unhide HV).lt _ hc).1; omega)
     have d1 := hX8.2.1 1 _ rfl
     have dz := hX8.2.2
     have dl := hX8.1
     have hrow : JvRow w8 (w.heap.size + 1 + 1) (.slice (some ⟨g2, 0, none⟩) (n1.joints.length + 1) cap2) (qs ++ [((⟨2, ⟨#[]⟩, [⟨n1.pieces.length, 0⟩, ⟨n1.pieces.length, 1⟩]⟩ : Jt), .slice (some ⟨w7.heap.size, 0, none⟩) 2 2)]) := Row.snoc (by rw [← unhide HLEN]; exact hown)
     have HS8 := hide (((unhide HS7).below hbX).addJoint (j := ⟨2, ⟨#[]⟩, [⟨n1.pieces.length, 0⟩, ⟨n1.pieces.length, 1⟩]⟩) hgrow (unhide HQS) ((unhide HV).below hbX) (fun q hq => (unhide HQE q hq).below hbX) (unhide HTW) (fun q hq k h1 h2 => by
      have g1 := ((unhide HQE q hq).lt k h1).2
      simp [Value.ownBlock] at h2
      omega) hev hrow)
     clear hown hrow hgrow hat hlt8 hbX hbEX hev hX8 n1' nz nl
     have e8 := lenAt_of ((unhide HS8).net.1.2.1 0 _ rfl)
     have HE8 := hide e8
     have hns := nameC_size n1.pieces.length
     have HB8 := hide ((unhide HB1).addPJ (p := ⟨nameC n1.pieces.length, 5, 9, 9⟩) (j := ⟨2, ⟨#[]⟩, [⟨n1.pieces.length, 0⟩, ⟨n1.pieces.length, 1⟩]⟩) (show (nameC n1.pieces.length).size ≤ _ ∧ (-100000000 : Int) ≤ 5 ∧ (5 : Int) ≤ 100000000 by omega) (show (2 : Nat) ≤ _ by omega) (show (0 : Nat) ≤ _ by omega))
     clear e8
     go_wp2_with fail
     refine ⟨⟨some ⟨g, 0, none⟩, gcap, some ⟨g2, 0, none⟩, cap2, ⟨n1.pieces ++ [⟨nameC n1.pieces.length, 5, 9, 9⟩], n1.joints ++ [⟨2, ⟨#[]⟩, [⟨n1.pieces.length, 0⟩, ⟨n1.pieces.length, 1⟩]⟩]⟩, c2, m + 1, ?_, ?_, by have := unhide HML; omega, ?_, ?_, by omega⟩, ?_⟩
     ·simp only [List.length_append, List.length_singleton]
      exact HS8
     ·exact HB8
     ·right
      simp only [List.length_append, List.length_singleton]
      omega
     ·simp only [List.length_append, List.length_singleton]
      have := unhide HML
      omega
     ·rw [unhide HE8, unhide HLN]
      omega
    ·have hlt' : ¬ (n1.pieces.length : Int) < 100 + P2 := hlt
     have hdl : decide ((n1.pieces.length : Int) < 100 + P2) = false := by simpa using hlt
     go_wp2_with fail
     go_meet
     exact ⟨_, _, n1, c2, HS4, hide ((unhide HB1).more (by omega)), by omega⟩
 case rest =>
  obtain ⟨u, v2, n', c', HS, HB', hat⟩ := hcut
  obtain ⟨ua, ucap, e1, _⟩ := pcRow_at (unhide HS).net.2.1
  obtain ⟨va, vcap, e2, _⟩ := jtRow_at (unhide HS).net.2.2.row
  subst e1
  subst e2
  have n0 := (unhide HS).net.1.2.1 0 _ rfl
  have n1 := (unhide HS).net.1.2.1 1 _ rfl
  have nl := (unhide HS).net.1.1
  have r0 := (unhide HS).res.2.1 0 _ rfl
  have r1 := (unhide HS).res.2.1 1 _ rfl
  have rz := (unhide HS).res.2.2
  have rl := (unhide HS).res.1
  go_wp2_with fail
  have hS := unhide HS
  have hFin := (hS.res.setI (i := 0) (by simp) (.slice ua n'.pieces.length ucap)).setI (i := 1) (by simp) (.slice va n'.joints.length vcap)
  have hOF := (only_setCell (S := fun k => k = w.heap.size + 1) wc (p := ⟨w.heap.size + 1, 0, none⟩) rfl (.slice ua n'.pieces.length ucap)).trans (only_setCell (S := fun k => k = w.heap.size + 1) _ (p := ⟨w.heap.size + 1, 1, none⟩) rfl (.slice va n'.joints.length vcap))
  have f0 := hFin.2.1 0 _ rfl
  have f1 := hFin.2.1 1 _ rfl
  have hsame : ∀ k, w.heap.size + 1 + 1 ≤ k → k < wc.heap.size → _ := fun k hk hkl => hOF.block k hkl (by omega)
  refine bodyPost_ret (v := .agg #[.slice ua n'.pieces.length ucap, .slice va n'.joints.length vcap]) (by simp [results, Tryz.results69, go_sem, f0, f1]) rfl ⟨_, _, n', c', rfl, ?_, ?_, ?_, ?_, unhide HB', hat⟩
  ·exact (hS.net.2.1.block fun k hk => hsame k (hS.net.2.1.lt k hk).1 (hS.net.2.1.lt k hk).2).mono (by omega)
  ·exact (hS.net.2.2.blocks hsame).mono (by omega)
  ·exact hS.cur.of_below (hOF.below (B := w.heap.size) hS.but.size (fun k hk e => by omega)) hS.lt
  ·exact hS.but.trans (but_only hOF (fun k hk e => by omega) hS.but.size)

end Go.Proofs.YtbdggfpfpjijoaaGreatDoor

