import Derived.Test.YtbdggfpfpjijoaaGreatDoorMSp1
import Derived.Deep.CutBlock
set_option linter.unusedSimpArgs false
namespace Go.Proofs.YtbdggfpfpjijoaaGreatDoor
open Go.RowKit

set_option maxRecDepth 100000 in
set_option maxHeartbeats 8000000 in
theorem spoil_e (C : Nat) (bs : List Int) (c : Cu) (v : Value) (n : Nt) (K : Nat) (w : World) {L : Nat} (hcu : CurAt w C bs c) (hbs : BytesIn bs) (ha : c.at_ ≤ 1000000) (hv : NetAt L w v n) (hB : NtB n K) (hK : K ≤ 100000) (h2 : 2 ≤ (pickC bs c 10).1 ∧ (pickC bs c 10).1 ≤ 5) (hX : (pickC bs (pickC bs (pickC bs c 10).2 n.joints.length).2 5).1 = 2) :
  Calls Tryz.prog 69 #[.pointer (some ⟨C, 0, none⟩), v] w fun e w' => SpRet w C bs c K e w' := by
 have hvv := hv
 obtain ⟨x, z, ca, cc, rfl, hp, hj⟩ := hv
 have hCl := hcu.lt
 obtain ⟨i1, hi1, hy0, hy1, hy2⟩ := info_parts info_Piece
 obtain ⟨i2, hi2, hx0, hx1, hx2⟩ := info_parts info_End
 obtain ⟨i3, hi3, hs0, hs1, hs2⟩ := info_parts info_Joint
 have HCU := hide hcu
 have HV := hide hvv
 have HBN := hide hB
 clear hp hj hcu hvv
 go_enter Tryz.func69, Tryz.ntmps69
 go_wp2_with fail
 have hbA : Below w.heap.size w ((w.alloc (.cells #[.slice x n.pieces.length ca, .slice z n.joints.length cc] 26)).alloc (.cells #[.slice none 0 0, .slice none 0 0] 26)) := bw0
 have hN0 : Boxed ((w.alloc (.cells #[.slice x n.pieces.length ca, .slice z n.joints.length cc] 26)).alloc (.cells #[.slice none 0 0, .slice none 0 0] 26)) w.heap.size [.slice x n.pieces.length ca, .slice z n.joints.length cc] := (boxed_alloc _ _ _).alloc _
 have hR0 : Boxed ((w.alloc (.cells #[.slice x n.pieces.length ca, .slice z n.joints.length cc] 26)).alloc (.cells #[.slice none 0 0, .slice none 0 0] 26)) (w.heap.size + 1) [.slice none 0 0, .slice none 0 0] := boxedN _ _ _ (by simp)
 have hszA : ((w.alloc (.cells #[.slice x n.pieces.length ca, .slice z n.joints.length cc] 26)).alloc (.cells #[.slice none 0 0, .slice none 0 0] 26)).heap.size = w.heap.size + 1 + 1 := by simp
 refine (copy_any _ n _ ((unhide HV).below hbA) (by have := hB.np; omega) (by have := hB.nj; omega) (fun i hi => by have := (hB.je _ (List.getElem_mem hi)).1; omega)).mono ?_
 rintro e w1 ⟨u, v', rfl, hpc, hjt, hb1⟩
 have hN1 := hN0.below hb1
 have hR1 := hR0.below hb1
 have hbw1 := below_then hbA hb1
 rw [hszA] at hpc hjt
 obtain ⟨pa, pcap, hpe, _⟩ := pcRow_at hpc
 obtain ⟨ja, jcap, hje, _⟩ := jtRow_at hjt.row
 subst hpe
 subst hje
 have n0 := hN1.2.1 0 _ rfl
 have n1 := hN1.2.1 1 _ rfl
 have nz := hN1.2.2
 have nl := hN1.1
 have hO : Only (fun k => k = w.heap.size) w1 ((w1.setCell ⟨w.heap.size, 0, none⟩ (.slice pa n.pieces.length pcap)).setCell ⟨w.heap.size, 1, none⟩ (.slice ja n.joints.length jcap)) := (only_setCell (S := fun k => k = w.heap.size) w1 (p := ⟨w.heap.size, 0, none⟩) rfl _).trans (only_setCell (S := fun k => k = w.heap.size) _ (p := ⟨w.heap.size, 1, none⟩) rfl _)
 have hN2 : Boxed ((w1.setCell ⟨w.heap.size, 0, none⟩ (.slice pa n.pieces.length pcap)).setCell ⟨w.heap.size, 1, none⟩ (.slice ja n.joints.length jcap)) w.heap.size [.slice pa n.pieces.length pcap, .slice ja n.joints.length jcap] := (hN1.setI (i := 0) (by simp) (.slice pa n.pieces.length pcap)).setI (i := 1) (by simp) (.slice ja n.joints.length jcap)
 have HS2 : Hid (SpS w C bs c (.slice pa n.pieces.length pcap) (.slice ja n.joints.length jcap) n ((w1.setCell ⟨w.heap.size, 0, none⟩ (.slice pa n.pieces.length pcap)).setCell ⟨w.heap.size, 1, none⟩ (.slice ja n.joints.length jcap))) :=
  ⟨⟨hN2, hpc.block fun k hk => hO.block k (hpc.lt k hk).2 (by have := (hpc.lt k hk).1; omega), hjt.blocks fun k hk hk' => hO.block k hk' (by omega)⟩, hR1.blk hO.size (hO.block _ hR1.1 (by omega)), ((unhide HCU).of_below hbw1 hCl).of_below (hO.below (B := w.heap.size) (by omega) (fun k hk e => by omega)) hCl, (but_below hbw1 (Nat.le_refl _)).trans (but_only hO (fun k hk e => by omega) (by omega)), hCl⟩
 dsimp only
 clear hpc hjt hO hN2 hN0 hR0 hbA hszA
 go_upto_region 2 with fail
 generalize (w1.setCell ⟨w.heap.size, 0, none⟩ (.slice pa n.pieces.length pcap)).setCell ⟨w.heap.size, 1, none⟩ (.slice ja n.joints.length jcap) = w2 at HS2 ⊢
 clear hN1 hR1 hb1 hbw1 n0 n1 nz nl
 have hpi := pickC_in bs c 10
 have hpa := pickC_at bs c 10
 go_wp2_with fail
 refine (pick_any C bs c 10 w2 (unhide HS2).cur hbs (by omega) (by omega)).mono ?_
 rintro e w3 ⟨rfl, hc3, ho3⟩
 have HS3 := hide ((unhide HS2).pick hc3 ho3)
 obtain ⟨⟨P, c1⟩, hpc⟩ : ∃ y, pickC bs c 10 = y := ⟨_, rfl⟩
 rw [hpc] at hpi hpa HS3 h2 hX ⊢
 dsimp only at hpi hpa HS3 h2 hX ⊢
 clear hc3 ho3 HS2 hpc
 go_upto_block 0 with fail
 go_cut [] (fun wx => ∃ u v n' c', Hid (SpS w C bs c' u v n' wx) ∧ Hid (NtB n' (K + 300)) ∧ c'.at_ ≤ c.at_ + 1000)
 case first =>
  by_cases hj0 : 0 < n.joints.length
  ·have hj0' : (0 : Int) < (n.joints.length : Int) := by omega
   obtain ⟨_, _, hjr, _⟩ := (unhide HS3).net.2.2
   have hjs : ∃ g, ja = some ⟨g, 0, none⟩ := by
    obtain ⟨_, ⟨h1, h2⟩ | ⟨g, cap, cur, h1, _⟩⟩ := hjr
    ·simp only [Value.slice.injEq] at h1
     omega
    ·simp only [Value.slice.injEq] at h1
     exact ⟨g, h1.1⟩
   obtain ⟨g, rfl⟩ := hjs
   clear hjr
   have n1 := (unhide HS3).net.1.2.1 1 _ rfl
   have nl := (unhide HS3).net.1.1
   have hpi3 := pickC_in bs c1 n.joints.length
   have hpa3 := pickC_at bs c1 n.joints.length
   have hbj := (unhide HBN).nj
   go_upto_region 20 with fail
   go_upto_if 99 with fail
   go_cut [99] (fun z wx => z = .bool true ∧ w3 = wx)
   case first =>
    rcases (by omega : P = 2 ∨ P = 3 ∨ P = 4 ∨ P = 5) with rfl | rfl | rfl | rfl <;> (go_wp2_with fail; go_meet; exact ⟨rfl, rfl⟩)
   case rest =>
    obtain ⟨rfl, rfl⟩ := hcut
    go_upto_region 25 with fail
    refine wp_region_held_drew (S := fun w' => w'.cell? ⟨w.heap.size, 1, none⟩ = some (.slice (some ⟨g, 0, none⟩) n.joints.length jcap)) (by kernel_rfl) ?_ (fun hHeld => ?_)
    ·exact ((unhide HS3).below (bw0 : Below w3.heap.size w3 w3.drew)).net.1.2.1 1 _ rfl
    refine wpAnyH_take (i := 0) (v := ?vr1) rfl (by kernel_rfl) (by kernel_rfl) (by kernel_rfl) (fun _ _ _ h => h) (Or.inl ⟨by rfl, ?yr1⟩) (by assumption) ?rr1
    case yr1 => (intro w0 hSw; (try dsimp only at hSw); go_simp; (try with_reducible rfl))
    (try simp only [Act.put, List.getElem_toArray, List.getElem_cons_zero, List.getElem_cons_succ, List.setIfInBounds_toArray, List.set_cons_zero, List.set_cons_succ])
    refine wpAnyH_take (i := 1) (v := ?vr2) rfl (by kernel_rfl) (by kernel_rfl) (by kernel_rfl) (fun _ _ _ h => h) (Or.inl ⟨by rfl, ?yr2⟩) (by assumption) ?rr2
    case yr2 => (intro w0 hSw; (try dsimp only at hSw); go_simp; (try with_reducible rfl))
    (try simp only [Act.put, List.getElem_toArray, List.getElem_cons_zero, List.getElem_cons_succ, List.setIfInBounds_toArray, List.set_cons_zero, List.set_cons_succ])
    refine wpAnyH_take (i := 2) (v := ?vr3) rfl (by kernel_rfl) (by kernel_rfl) (by kernel_rfl) (fun _ _ _ h => h) (Or.inl ⟨by rfl, ?yr3⟩) (by assumption) ?rr3
    case yr3 => (intro w0 hSw; (try dsimp only at hSw); go_simp; (try with_reducible rfl))
    (try simp only [Act.put, List.getElem_toArray, List.getElem_cons_zero, List.getElem_cons_succ, List.setIfInBounds_toArray, List.set_cons_zero, List.set_cons_succ])
    refine wpAnyH_take (i := 3) (v := ?vr4) rfl (by kernel_rfl) (by kernel_rfl) (by kernel_rfl) (fun _ _ _ h => h) (Or.inl ⟨by rfl, ?yr4⟩) (by assumption) ?rr4
    case yr4 => (intro w0 hSw; (try dsimp only at hSw); go_simp; (try with_reducible rfl))
    (try simp only [Act.put, List.getElem_toArray, List.getElem_cons_zero, List.getElem_cons_succ, List.setIfInBounds_toArray, List.set_cons_zero, List.set_cons_succ])
    refine wpAnyH_take (i := 4) (v := ?vr5) rfl (by kernel_rfl) (by kernel_rfl) (by kernel_rfl) (fun _ _ _ h => h) (Or.inl ⟨by rfl, ?yr5⟩) (by assumption) ?rr5
    case yr5 => (intro w0 hSw; (try dsimp only at hSw); go_simp; (try with_reducible rfl))
    (try simp only [Act.put, List.getElem_toArray, List.getElem_cons_zero, List.getElem_cons_succ, List.setIfInBounds_toArray, List.set_cons_zero, List.set_cons_succ])
    refine wpAnyH_take (i := 5) (v := ?vr6) rfl (by kernel_rfl) (by kernel_rfl) (by kernel_rfl) (fun _ _ _ h => h) (Or.inl ⟨by rfl, ?yr6⟩) (by assumption) ?rr6
    case yr6 => (intro w0 hSw; (try dsimp only at hSw); go_simp; (try with_reducible rfl))
    (try simp only [Act.put, List.getElem_toArray, List.getElem_cons_zero, List.getElem_cons_succ, List.setIfInBounds_toArray, List.set_cons_zero, List.set_cons_succ])
    refine wpAnyH_ready (rs := [6]) (by kernel_rfl) (by simp) ?_
    refine (AllReadyH.cons rfl (fun K hK => ?_) AllReadyH.nil)
    go_simp
    have hSd := (unhide HS3).below (bw0 : Below w3.heap.size w3 w3.drew)
    refine (pick_any C bs c1 n.joints.length _ hSd.cur hbs (by omega) (by omega)).mono ?_
    rintro e w4 ⟨rfl, hc4, ho4⟩
    have HS4 := hide (hSd.pick hc4 ho4)
    obtain ⟨⟨P3, c3⟩, hpc3⟩ : ∃ y, pickC bs c1 n.joints.length = y := ⟨_, rfl⟩
    rw [hpc3] at hpi3 hpa3 HS4 hX ⊢
    dsimp only at hpi3 hpa3 HS4 hX ⊢
    obtain ⟨k, rfl⟩ := Int.eq_ofNat_of_zero_le hpi3.1
    have hk : k < n.joints.length := by omega
    have hk' : (k : Int) < (n.joints.length : Int) := by omega
    clear hc4 ho4 hpc3 hSd
    refine hK.out _ _ ((unhide HS4).net.1.2.1 1 _ rfl) (fun hHeld => ?_)
    clear hK K
    (try simp only [Act.put, List.getElem_toArray, List.getElem_cons_zero, List.getElem_cons_succ, List.setIfInBounds_toArray, List.set_cons_zero, List.set_cons_succ])
    refine wpAnyH_take (i := 7) (v := ?vr7) rfl (by kernel_rfl) (by kernel_rfl) (by kernel_rfl) (fun _ _ _ h => h) (Or.inl ⟨by rfl, ?yr7⟩) (by assumption) ?rr7
    case yr7 => (intro w0 hSw; (try dsimp only at hSw); go_simp; (try with_reducible rfl))
    (try simp only [Act.put, List.getElem_toArray, List.getElem_cons_zero, List.getElem_cons_succ, List.setIfInBounds_toArray, List.set_cons_zero, List.set_cons_succ])
    refine wpAnyH_take (i := 8) (v := ?vr8) rfl (by kernel_rfl) (by kernel_rfl) (by kernel_rfl) (fun _ _ _ h => h) (Or.inl ⟨by rfl, ?yr8⟩) (by assumption) ?rr8
    case yr8 => (intro w0 hSw; (try dsimp only at hSw); go_simp; (try with_reducible rfl))
    (try simp only [Act.put, List.getElem_toArray, List.getElem_cons_zero, List.getElem_cons_succ, List.setIfInBounds_toArray, List.set_cons_zero, List.set_cons_succ])
    refine wpAnyH_done (by kernel_rfl) ?_ _
    have hpi4 := pickC_in bs c3 5
    have hpa4 := pickC_at bs c3 5
    go_wp2_with fail
    refine (pick_any C bs c3 5 w4 (unhide HS4).cur hbs (by omega) (by omega)).mono ?_
    rintro e w5 ⟨rfl, hc5, ho5⟩
    have HS5 := hide ((unhide HS4).pick hc5 ho5)
    obtain ⟨⟨P4, c4⟩, hpc4⟩ : ∃ y, pickC bs c3 5 = y := ⟨_, rfl⟩
    rw [hpc4] at hpi4 hpa4 HS5 hX ⊢
    dsimp only at hpi4 hpa4 HS5 hX ⊢
    clear hc5 ho5 hpc4
    have hje := (unhide HBN).je n.joints[k] (List.getElem_mem hk)
    have h4 : P4 = 2 := hX
    subst h4
    obtain ⟨ea, ecap, _, _, q2, hE, hgl, gz⟩ := (unhide HS5).jt hk
    have HE := hide hE
    by_cases he0 : 0 < n.joints[k].ends.length
    ·have he0' : (0 : Int) < (n.joints[k].ends.length : Int) := by omega
     obtain ⟨el, hel⟩ : ∃ el, n.joints[k].ends.length = el := ⟨_, rfl⟩
     have HEL := hide hel
     rw [hel] at he0 he0' hje q2 HE
     have hes : ∃ b, ea = some ⟨b, 0, none⟩ := by
      obtain ⟨_, ⟨h1, h2⟩ | ⟨b, cap, cur, h1, _⟩⟩ := unhide HE
      ·simp only [Value.slice.injEq] at h1
       omega
      ·simp only [Value.slice.injEq] at h1
       exact ⟨b, h1.1⟩
     obtain ⟨b, rfl⟩ := hes
     clear hE hel
     have hbp := (unhide HBN).np
     have hw2 : IntKind.i64.wrap ((n.pieces.length : Int) + 2) = (n.pieces.length : Int) + 2 := wrap_small (by omega) (by omega)
     obtain ⟨_, _, hjr, _⟩ := (unhide HS5).net.2.2
     have hgb := (hjr.lt g rfl).1
     clear hjr
     have m0 := (unhide HS5).net.1.2.1 0 _ rfl
     have ml := (unhide HS5).net.1.1
     go_upto_region 34 with fail
     refine wp_region_held_drew (S := fun w' => w'.cell? ⟨g, k * 3 + 2, none⟩ = some (.slice (some ⟨b, 0, none⟩) el ecap) ∧ w'.cell? ⟨w.heap.size, 0, none⟩ = some (.slice pa n.pieces.length pcap)) (by kernel_rfl) ?_ (fun hHeld => ?_)
     ·exact ⟨by simpa using q2, by simpa using m0⟩
     refine wpAnyH_take (i := 0) (v := ?vs1) rfl (by kernel_rfl) (by kernel_rfl) (by kernel_rfl) (fun _ _ _ h => h) (Or.inl ⟨by rfl, ?ys1⟩) (by assumption) ?rs1
     case ys1 => (intro w0 hSw; (try dsimp only at hSw); go_simp; (try with_reducible rfl))
     (try simp only [Act.put, List.getElem_toArray, List.getElem_cons_zero, List.getElem_cons_succ, List.setIfInBounds_toArray, List.set_cons_zero, List.set_cons_succ])
     refine wpAnyH_take (i := 1) (v := ?vs2) rfl (by kernel_rfl) (by kernel_rfl) (by kernel_rfl) (fun _ _ _ h => h) (Or.inl ⟨by rfl, ?ys2⟩) (by assumption) ?rs2
     case ys2 => (intro w0 hSw; (try dsimp only at hSw); go_simp; (try with_reducible rfl))
     (try simp only [Act.put, List.getElem_toArray, List.getElem_cons_zero, List.getElem_cons_succ, List.setIfInBounds_toArray, List.set_cons_zero, List.set_cons_succ])
     refine wpAnyH_take (i := 2) (v := ?vs3) rfl (by kernel_rfl) (by kernel_rfl) (by kernel_rfl) (fun _ _ _ h => h) (Or.inl ⟨by rfl, ?ys3⟩) (by assumption) ?rs3
     case ys3 => (intro w0 hSw; (try dsimp only at hSw); go_simp; (try with_reducible rfl))
     (try simp only [Act.put, List.getElem_toArray, List.getElem_cons_zero, List.getElem_cons_succ, List.setIfInBounds_toArray, List.set_cons_zero, List.set_cons_succ])
     refine wpAnyH_take (i := 3) (v := ?vs4) rfl (by kernel_rfl) (by kernel_rfl) (by kernel_rfl) (fun _ _ _ h => h) (Or.inl ⟨by rfl, ?ys4⟩) (by assumption) ?rs4
     case ys4 => (intro w0 hSw; (try dsimp only at hSw); go_simp; (try with_reducible rfl))
     (try simp only [Act.put, List.getElem_toArray, List.getElem_cons_zero, List.getElem_cons_succ, List.setIfInBounds_toArray, List.set_cons_zero, List.set_cons_succ])
     refine wpAnyH_take (i := 4) (v := ?vs5) rfl (by kernel_rfl) (by kernel_rfl) (by kernel_rfl) (fun _ _ _ h => h) (Or.inl ⟨by rfl, ?ys5⟩) (by assumption) ?rs5
     case ys5 => (intro w0 hSw; (try dsimp only at hSw); go_simp; (try with_reducible rfl))
     (try simp only [Act.put, List.getElem_toArray, List.getElem_cons_zero, List.getElem_cons_succ, List.setIfInBounds_toArray, List.set_cons_zero, List.set_cons_succ])
     refine wpAnyH_take (i := 5) (v := ?vs6) rfl (by kernel_rfl) (by kernel_rfl) (by kernel_rfl) (fun _ _ _ h => h) (Or.inl ⟨by rfl, ?ys6⟩) (by assumption) ?rs6
     case ys6 => (intro w0 hSw; (try dsimp only at hSw); go_simp; (try with_reducible rfl))
     (try simp only [Act.put, List.getElem_toArray, List.getElem_cons_zero, List.getElem_cons_succ, List.setIfInBounds_toArray, List.set_cons_zero, List.set_cons_succ])
     refine wpAnyH_take (i := 6) (v := ?vs7) rfl (by kernel_rfl) (by kernel_rfl) (by kernel_rfl) (fun _ _ _ h => h) (Or.inl ⟨by rfl, ?ys7⟩) (by assumption) ?rs7
     case ys7 => (intro w0 hSw; (try dsimp only at hSw); go_simp; (try with_reducible rfl))
     (try simp only [Act.put, List.getElem_toArray, List.getElem_cons_zero, List.getElem_cons_succ, List.setIfInBounds_toArray, List.set_cons_zero, List.set_cons_succ])
     refine wpAnyH_take (i := 7) (v := ?vs8) rfl (by kernel_rfl) (by kernel_rfl) (by kernel_rfl) (fun _ _ _ h => h) (Or.inl ⟨by rfl, ?ys8⟩) (by assumption) ?rs8
     case ys8 => (intro w0 hSw; (try dsimp only at hSw); go_simp; (try with_reducible rfl))
     (try simp only [Act.put, List.getElem_toArray, List.getElem_cons_zero, List.getElem_cons_succ, List.setIfInBounds_toArray, List.set_cons_zero, List.set_cons_succ])
     refine wpAnyH_take (i := 8) (v := ?vs9) rfl (by kernel_rfl) (by kernel_rfl) (by kernel_rfl) (fun _ _ _ h => h) (Or.inl ⟨by rfl, ?ys9⟩) (by assumption) ?rs9
     case ys9 => (intro w0 hSw; (try dsimp only at hSw); go_simp; (try with_reducible rfl))
     (try simp only [Act.put, List.getElem_toArray, List.getElem_cons_zero, List.getElem_cons_succ, List.setIfInBounds_toArray, List.set_cons_zero, List.set_cons_succ])
     refine wpAnyH_take (i := 9) (v := ?vs10) rfl (by kernel_rfl) (by kernel_rfl) (by kernel_rfl) (fun _ _ _ h => h) (Or.inl ⟨by rfl, ?ys10⟩) (by assumption) ?rs10
     case ys10 => (intro w0 hSw; (try dsimp only at hSw); go_simp; (try with_reducible rfl))
     (try simp only [Act.put, List.getElem_toArray, List.getElem_cons_zero, List.getElem_cons_succ, List.setIfInBounds_toArray, List.set_cons_zero, List.set_cons_succ])
     refine wpAnyH_take (i := 11) (v := ?vs11) rfl (by kernel_rfl) (by kernel_rfl) (by kernel_rfl) (fun _ _ _ h => h) (Or.inl ⟨by rfl, ?ys11⟩) (by assumption) ?rs11
     case ys11 => (intro w0 hSw; (try dsimp only at hSw); go_simp; (try with_reducible rfl))
     (try simp only [Act.put, List.getElem_toArray, List.getElem_cons_zero, List.getElem_cons_succ, List.setIfInBounds_toArray, List.set_cons_zero, List.set_cons_succ])
     refine wpAnyH_take (i := 12) (v := ?vs12) rfl (by kernel_rfl) (by kernel_rfl) (by kernel_rfl) (fun _ _ _ h => h) (Or.inl ⟨by rfl, ?ys12⟩) (by assumption) ?rs12
     case ys12 => (intro w0 hSw; (try dsimp only at hSw); go_simp; (try with_reducible rfl))
     (try simp only [Act.put, List.getElem_toArray, List.getElem_cons_zero, List.getElem_cons_succ, List.setIfInBounds_toArray, List.set_cons_zero, List.set_cons_succ])
     refine wpAnyH_take (i := 13) (v := ?vs13) rfl (by kernel_rfl) (by kernel_rfl) (by kernel_rfl) (fun _ _ _ h => h) (Or.inl ⟨by rfl, ?ys13⟩) (by assumption) ?rs13
     case ys13 => (intro w0 hSw; (try dsimp only at hSw); go_simp; (try with_reducible rfl))
     (try simp only [Act.put, List.getElem_toArray, List.getElem_cons_zero, List.getElem_cons_succ, List.setIfInBounds_toArray, List.set_cons_zero, List.set_cons_succ])
     refine wpAnyH_take (i := 14) (v := ?vs14) rfl (by kernel_rfl) (by kernel_rfl) (by kernel_rfl) (fun _ _ _ h => h) (Or.inl ⟨by rfl, ?ys14⟩) (by assumption) ?rs14
     case ys14 => (intro w0 hSw; (try dsimp only at hSw); go_simp; (try with_reducible rfl))
     (try simp only [Act.put, List.getElem_toArray, List.getElem_cons_zero, List.getElem_cons_succ, List.setIfInBounds_toArray, List.set_cons_zero, List.set_cons_succ])
     refine wpAnyH_take (i := 15) (v := ?vs15) rfl (by kernel_rfl) (by kernel_rfl) (by kernel_rfl) (fun _ _ _ h => h) (Or.inl ⟨by rfl, ?ys15⟩) (by assumption) ?rs15
     case ys15 => (intro w0 hSw; (try dsimp only at hSw); go_simp; (try with_reducible rfl))
     (try simp only [Act.put, List.getElem_toArray, List.getElem_cons_zero, List.getElem_cons_succ, List.setIfInBounds_toArray, List.set_cons_zero, List.set_cons_succ])
     refine wpAnyH_take (i := 18) (v := ?vs16) rfl (by kernel_rfl) (by kernel_rfl) (by kernel_rfl) (fun _ _ _ h => h) (Or.inl ⟨by rfl, ?ys16⟩) (by assumption) ?rs16
     case ys16 => (intro w0 hSw; (try dsimp only at hSw); go_simp; (try with_reducible rfl))
     (try simp only [Act.put, List.getElem_toArray, List.getElem_cons_zero, List.getElem_cons_succ, List.setIfInBounds_toArray, List.set_cons_zero, List.set_cons_succ])
     refine wpAnyH_ready (rs := [10]) (by kernel_rfl) (by simp) ?_
     refine (AllReadyH.cons rfl (fun K hK => ?_) AllReadyH.nil)
     go_simp
     have hSd := (unhide HS5).below (bw0 : Below w5.heap.size w5 w5.drew)
     refine (pick_any C bs c4 el _ hSd.cur hbs (by omega) (by omega)).mono ?_
     rintro e w6 ⟨rfl, hcx, hox⟩
     have HS6 := hide (hSd.pick hcx hox)
     have hpi6 := pickC_in bs c4 el
     have hpa6 := pickC_at bs c4 el
     have hsz6 : w5.heap.size ≤ w6.heap.size := hox.size
     have q6 : w6.cell? ⟨g, k * 3 + 2, none⟩ = some (.slice (some ⟨b, 0, none⟩) el ecap) := (World.cell?_of_block (w := w5.drew) (a := ⟨g, k * 3 + 2, none⟩) (hox.block g (show g < w5.heap.size by omega) (fun e => by omega))).trans (by first | exact q2 | simpa using q2)
     obtain ⟨⟨P5, c5⟩, hpx⟩ : ∃ y, pickC bs c4 el = y := ⟨_, rfl⟩
     rw [hpx] at hpi6 hpa6 HS6 ⊢
     dsimp only at hpi6 hpa6 HS6 ⊢
     obtain ⟨i, rfl⟩ := Int.eq_ofNat_of_zero_le hpi6.1
     have hi : i < el := by omega
     have hi' : (i : Int) < (el : Int) := by omega
     clear hcx hox hpx hSd
     refine hK.out _ _ ⟨q6, (unhide HS6).net.1.2.1 0 _ rfl⟩ (fun hHeld => ?_)
     clear hK K
     (try simp only [Act.put, List.getElem_toArray, List.getElem_cons_zero, List.getElem_cons_succ, List.setIfInBounds_toArray, List.set_cons_zero, List.set_cons_succ])
     refine wpAnyH_ready (rs := [16]) (by kernel_rfl) (by simp) ?_
     refine (AllReadyH.cons rfl (fun K hK => ?_) AllReadyH.nil)
     go_simp
     have hSd := (unhide HS6)
     refine (pick_any C bs c5 ((n.pieces.length : Int) + 2) _ hSd.cur hbs (by omega) (by omega)).mono ?_
     rintro e w7 ⟨rfl, hcx, hox⟩
     have HS7 := hide (hSd.pick hcx hox)
     have hpi7 := pickC_in bs c5 ((n.pieces.length : Int) + 2)
     have hpa7 := pickC_at bs c5 ((n.pieces.length : Int) + 2)
     have hsz7 : w6.heap.size ≤ w7.heap.size := hox.size
     have q7 : w7.cell? ⟨g, k * 3 + 2, none⟩ = some (.slice (some ⟨b, 0, none⟩) el ecap) := (World.cell?_of_block (w := w6) (a := ⟨g, k * 3 + 2, none⟩) (hox.block g (show g < w6.heap.size by omega) (fun e => by omega))).trans (by first | exact q6 | simpa using q6)
     obtain ⟨⟨P6, c6⟩, hpx⟩ : ∃ y, pickC bs c5 ((n.pieces.length : Int) + 2) = y := ⟨_, rfl⟩
     rw [hpx] at hpi7 hpa7 HS7 ⊢
     dsimp only at hpi7 hpa7 HS7 ⊢
     have hw6 : IntKind.i64.wrap (P6 - 1) = P6 - 1 := wrap_small (by omega) (by omega)
     clear hcx hox hpx hSd
     refine hK.out _ _ ⟨q7, (unhide HS7).net.1.2.1 0 _ rfl⟩ (fun hHeld => ?_)
     clear hK K
     (try simp only [Act.put, List.getElem_toArray, List.getElem_cons_zero, List.getElem_cons_succ, List.setIfInBounds_toArray, List.set_cons_zero, List.set_cons_succ])
     refine wpAnyH_take (i := 17) (v := ?vs17) rfl (by kernel_rfl) (by kernel_rfl) (by kernel_rfl) (fun _ _ _ h => h) (Or.inl ⟨by rfl, ?ys17⟩) (by assumption) ?rs17
     case ys17 => (intro w0 hSw; (try dsimp only at hSw); go_simp; (try with_reducible rfl))
     (try simp only [Act.put, List.getElem_toArray, List.getElem_cons_zero, List.getElem_cons_succ, List.setIfInBounds_toArray, List.set_cons_zero, List.set_cons_succ])
     refine wpAnyH_ready (rs := [19]) (by kernel_rfl) (by simp) ?_
     refine (AllReadyH.cons rfl (fun K hK => ?_) AllReadyH.nil)
     go_simp
     have hSd := (unhide HS7)
     refine (pick_any C bs c6 4 _ hSd.cur hbs (by omega) (by omega)).mono ?_
     rintro e w8 ⟨rfl, hcx, hox⟩
     have HS8 := hide (hSd.pick hcx hox)
     have hpi8 := pickC_in bs c6 4
     have hpa8 := pickC_at bs c6 4
     have hsz8 : w7.heap.size ≤ w8.heap.size := hox.size
     have q8 : w8.cell? ⟨g, k * 3 + 2, none⟩ = some (.slice (some ⟨b, 0, none⟩) el ecap) := (World.cell?_of_block (w := w7) (a := ⟨g, k * 3 + 2, none⟩) (hox.block g (show g < w7.heap.size by omega) (fun e => by omega))).trans (by first | exact q7 | simpa using q7)
     obtain ⟨⟨P7, c7⟩, hpx⟩ : ∃ y, pickC bs c6 4 = y := ⟨_, rfl⟩
     rw [hpx] at hpi8 hpa8 HS8 ⊢
     dsimp only at hpi8 hpa8 HS8 ⊢
     have hw7 : IntKind.i64.wrap (P7 - 1) = P7 - 1 := wrap_small (by omega) (by omega)
     clear hcx hox hpx hSd
     refine hK.out _ _ ⟨q8, (unhide HS8).net.1.2.1 0 _ rfl⟩ (fun hHeld => ?_)
     clear hK K
     (try simp only [Act.put, List.getElem_toArray, List.getElem_cons_zero, List.getElem_cons_succ, List.setIfInBounds_toArray, List.set_cons_zero, List.set_cons_succ])
     refine wpAnyH_take (i := 20) (v := ?vs18) rfl (by kernel_rfl) (by kernel_rfl) (by kernel_rfl) (fun _ _ _ h => h) (Or.inl ⟨by rfl, ?ys18⟩) (by assumption) ?rs18
     case ys18 => (intro w0 hSw; (try dsimp only at hSw); go_simp; (try with_reducible rfl))
     (try simp only [Act.put, List.getElem_toArray, List.getElem_cons_zero, List.getElem_cons_succ, List.setIfInBounds_toArray, List.set_cons_zero, List.set_cons_succ])
     refine wpAnyH_take (i := 21) (v := ?vs19) rfl (by kernel_rfl) (by kernel_rfl) (by kernel_rfl) (fun _ _ _ h => h) (Or.inl ⟨by rfl, ?ys19⟩) (by assumption) ?rs19
     case ys19 => (intro w0 hSw; (try dsimp only at hSw); go_simp; (try with_reducible rfl))
     (try simp only [Act.put, List.getElem_toArray, List.getElem_cons_zero, List.getElem_cons_succ, List.setIfInBounds_toArray, List.set_cons_zero, List.set_cons_succ])
     refine wpAnyH_take (i := 22) (v := ?vs20) rfl (by kernel_rfl) (by kernel_rfl) (by kernel_rfl) (fun _ _ _ h => h) (Or.inl ⟨by rfl, ?ys20⟩) (by assumption) ?rs20
     case ys20 => (intro w0 hSw; (try dsimp only at hSw); go_simp; (try with_reducible rfl))
     (try simp only [Act.put, List.getElem_toArray, List.getElem_cons_zero, List.getElem_cons_succ, List.setIfInBounds_toArray, List.set_cons_zero, List.set_cons_succ])
     refine wpAnyH_ready (rs := [23]) (by kernel_rfl) (by simp) ?_
     refine (AllReadyH.cons rfl (fun K hK => ?_) AllReadyH.nil)
     obtain ⟨ea', ecap', _, _, z2, zE, zl, _⟩ := (unhide HS8).jt hk
     rw [q8] at z2
     simp only [Option.some.injEq, Value.slice.injEq] at z2
     obtain ⟨rfl, _, rfl⟩ := z2
     obtain ⟨_, _, hjr, _⟩ := (unhide HS8).net.2.2
     have hne : g ≠ b := fun e => Row.apart hjr zE (by decide) g rfl (by rw [e]; rfl)
     have hiE : i < n.joints[k].ends.length := by rw [unhide HEL]; exact hi
     obtain ⟨b', off', hbe, hbl, e0, e1⟩ := (by obtain ⟨a', cap', e', hx'⟩ := edRow_at zE; simp only [Value.slice.injEq, true_and] at e'; rw [← e'.1] at hx'; exact hx' i hiE : ∃ b' off', (some ⟨b, 0, none⟩ : Option Addr) = some ⟨b', off', none⟩ ∧ _)
     simp only [Option.some.injEq, Addr.mk.injEq, and_true] at hbe
     obtain ⟨rfl, rfl⟩ := hbe
     simp only [Nat.zero_add] at e0 e1
     have ez := zE.free
     have ebl := hbl.2
     have HF := hide ((unhide HS8).putEnd hk q8 hiE (P6 - 1) (P7 - 1))
     have q9 : ((w8.setCell ⟨b, i * 2, none⟩ (.int .i64 (P6 - 1))).setCell ⟨b, i * 2 + 1, none⟩ (.int .i64 (P7 - 1))).cell? ⟨g, k * 3 + 2, none⟩ = some (.slice (some ⟨b, 0, none⟩) el ecap) := (World.cell?_of_block (w := w8) (a := ⟨g, k * 3 + 2, none⟩) ((Below.heap_setCell _ ⟨b, i * 2 + 1, none⟩ _ g hne).trans (Below.heap_setCell _ ⟨b, i * 2, none⟩ _ g hne))).trans q8
     clear hjr zE hbl
     go_simp
     refine hK.out _ _ ⟨q9, (unhide HF).net.1.2.1 0 _ rfl⟩ (fun hHeld => ?_)
     clear hK K
     (try simp only [Act.put, List.getElem_toArray, List.getElem_cons_zero, List.getElem_cons_succ, List.setIfInBounds_toArray, List.set_cons_zero, List.set_cons_succ])
     refine wpAnyH_done (by kernel_rfl) ?_ _
     go_wp2_with fail
     go_meet
     exact ⟨_, _, _, c7, HF, hide ((unhide HBN).putJ _ (by rw [List.length_set]; have := unhide HEL; omega) (show n.joints[k].name.size ≤ _ by omega)), by omega⟩
    ·have he0' : ¬ (0 : Int) < (n.joints[k].ends.length : Int) := by omega
     clear hE
     go_wp2_with fail
     go_meet
     exact ⟨_, _, _, c4, HS5, hide ((unhide HBN).more (by omega)), by omega⟩
  ·have hj0' : ¬ (0 : Int) < (n.joints.length : Int) := by omega
   have n1 := (unhide HS3).net.1.2.1 1 _ rfl
   have nl := (unhide HS3).net.1.1
   have hP : P = 2 ∨ P = 3 ∨ P = 4 ∨ P = 5 := by omega
   rcases hP with rfl | rfl | rfl | rfl <;> (go_wp2_with fail; go_meet; exact ⟨_, _, _, _, HS3, hide ((unhide HBN).more (by omega)), by omega⟩)
 case rest =>
  obtain ⟨u, v2, n', c', HS, HB', hat⟩ := hcut
  obtain ⟨ua, ucap, e1, _⟩ := pcRow_at (unhide HS).net.2.1
  obtain ⟨va, vcap, e2, _⟩ := jtRow_at (unhide HS).net.2.2.row
  subst e1
  subst e2
  have n0 := (unhide HS).net.1.2.1 0 _ rfl
  have n1 := (unhide HS).net.1.2.1 1 _ rfl
  have nl := (unhide HS).net.1.1
  have r0 := (unhide HS).res.2.1 0 _ rfl
  have r1 := (unhide HS).res.2.1 1 _ rfl
  have rz := (unhide HS).res.2.2
  have rl := (unhide HS).res.1
  go_wp2_with fail
  have hS := unhide HS
  have hFin := (hS.res.setI (i := 0) (by simp) (.slice ua n'.pieces.length ucap)).setI (i := 1) (by simp) (.slice va n'.joints.length vcap)
  have hOF := (only_setCell (S := fun k => k = w.heap.size + 1) wc (p := ⟨w.heap.size + 1, 0, none⟩) rfl (.slice ua n'.pieces.length ucap)).trans (only_setCell (S := fun k => k = w.heap.size + 1) _ (p := ⟨w.heap.size + 1, 1, none⟩) rfl (.slice va n'.joints.length vcap))
  have f0 := hFin.2.1 0 _ rfl
  have f1 := hFin.2.1 1 _ rfl
  have hsame : ∀ k, w.heap.size + 1 + 1 ≤ k → k < wc.heap.size → _ := fun k hk hkl => hOF.block k hkl (by omega)
  refine bodyPost_ret (v := .agg #[.slice ua n'.pieces.length ucap, .slice va n'.joints.length vcap]) (by simp [results, Tryz.results69, go_sem, f0, f1]) rfl ⟨_, _, n', c', rfl, ?_, ?_, ?_, ?_, unhide HB', hat⟩
  ·exact (hS.net.2.1.block fun k hk => hsame k (hS.net.2.1.lt k hk).1 (hS.net.2.1.lt k hk).2).mono (by omega)
  ·exact (hS.net.2.2.blocks hsame).mono (by omega)
  ·exact hS.cur.of_below (hOF.below (B := w.heap.size) hS.but.size (fun k hk e => by omega)) hS.lt
  ·exact hS.but.trans (but_only hOF (fun k hk e => by omega) hS.but.size)

end Go.Proofs.YtbdggfpfpjijoaaGreatDoor

