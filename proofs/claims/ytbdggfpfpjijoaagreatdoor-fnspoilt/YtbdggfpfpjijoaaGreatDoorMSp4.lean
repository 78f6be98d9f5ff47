import Derived.Test.YtbdggfpfpjijoaaGreatDoorSp3
import Derived.Test.YtbdggfpfpjijoaaGreatDoorSp3c
import Derived.Test.YtbdggfpfpjijoaaGreatDoorSp3d
set_option linter.unusedSimpArgs false
namespace Go.Proofs.YtbdggfpfpjijoaaGreatDoor
open Go.RowKit

theorem spoil_any (C : Nat) (bs : List Int) (c : Cu) (v : Value) (n : Nt) (K : Nat) (w : World) {L : Nat} (hcu : CurAt w C bs c) (hbs : BytesIn bs) (ha : c.at_ ≤ 1000000) (hv : NetAt L w v n) (hB : NtB n K) (hK : K ≤ 100000) :
  Calls Tryz.prog 69 #[.pointer (some ⟨C, 0, none⟩), v] w fun e w' => SpRet w C bs c K e w' := by
 have hp := pickC_in bs c 10
 by_cases h2 : 2 ≤ (pickC bs c 10).1 ∧ (pickC bs c 10).1 ≤ 5
 ·by_cases hX : (pickC bs (pickC bs (pickC bs c 10).2 n.joints.length).2 5).1 = 2
  ·exact spoil_e C bs c v n K w hcu hbs ha hv hB hK h2 hX
  ·exact spoil_d C bs c v n K w hcu hbs ha hv hB hK h2 hX
 ·exact spoil_a C bs c v n K w hcu hbs ha hv hB hK (by omega)

end Go.Proofs.YtbdggfpfpjijoaaGreatDoor

set_option linter.unusedSimpArgs false
namespace Go.Proofs.YtbdggfpfpjijoaaGreatDoor
open Go.RowKit

theorem NtSm.b {n : Nt} (h : NtSm n) : NtB n 1000 := ⟨h.2.2.1, h.2.2.2, fun p hp => by have := h.1 p hp; omega, fun j hj => h.2.1 j hj⟩
theorem NtB.small {n : Nt} {K : Nat} (h : NtB n K) (hK : K ≤ 10000) : NtSmall n :=
 ⟨by have := h.np; omega, by have := h.nj; omega, fun i hi => by have := h.je _ (List.getElem_mem hi); omega, fun i hi => by have := h.pn _ (List.getElem_mem hi); omega, fun i hi => (h.pn _ (List.getElem_mem hi)).2⟩
def RetN (C : Nat) (bs : List Int) (K M : Nat) (w : World) (e : Ending) (w' : World) : Prop := ∃ u v n c', e = .returned (.agg #[u, v]) ∧ NetAt w.heap.size w' (.agg #[u, v]) n ∧ NtB n K ∧ CurAt w' C bs c' ∧ But (fun k => k = C) w.heap.size w w' ∧ c'.at_ ≤ M
theorem SpRet.net {C : Nat} {bs : List Int} {c : Cu} {K : Nat} {w : World} {e : Ending} {w' : World} (h : SpRet w C bs c K e w') : RetN C bs (K + 300) (c.at_ + 1000) w e w' := by
 obtain ⟨u, v, n, c', he, h1, h2, h3, h4, h5, h6⟩ := h
 obtain ⟨a, cap, rfl, hp⟩ := pcRow_at h1
 obtain ⟨b, cap', rfl, hj⟩ := jtRow_at h2.row
 exact ⟨_, _, n, c', he, ⟨a, b, cap, cap', rfl, hp, hj⟩, h5, h3, h4, h6⟩
theorem track_n (C : Nat) (bs : List Int) (c : Cu) (w : World) (hcu : CurAt w C bs c) (hbs : BytesIn bs) (ha : c.at_ ≤ 1000000) :
  Calls Tryz.prog 33 #[.pointer (some ⟨C, 0, none⟩)] w (RetN C bs 1000 (c.at_ + 410) w) := by
 refine (track_any C bs c w hcu hbs ha).mono ?_
 rintro e w' ⟨v, rfl, h1, h2, h3⟩
 obtain ⟨a, b, ca, cc, rfl, hp, hj⟩ := h1
 exact ⟨_, _, _, _, rfl, ⟨a, b, ca, cc, rfl, hp, hj⟩, (trackC_s4 bs c).b, h2, h3, trackC_at bs c⟩

structure NW (C : Nat) (bs : List Int) (w0 : World) (R N L : Nat) (u v : Value) (n : Nt) (K : Nat) (c : Cu) (w : World) : Prop where
 cur : CurAt w C bs c
 but : But (fun k => k = C) w0.heap.size w0 w
 rb : Boxed w R [.slice none 0 0, .slice none 0 0]
 nb : Boxed w N [u, v]
 net : NetAt L w (.agg #[u, v]) n
 small : NtB n K
 lt : C < w0.heap.size ∧ R ≠ C ∧ R < L ∧ w0.heap.size ≤ L ∧ L ≤ N
theorem NW.on {C : Nat} {bs : List Int} {w0 : World} {R N L : Nat} {u v : Value} {n : Nt} {K : Nat} {c c' : Cu} {w w' : World} (h : NW C bs w0 R N L u v n K c w) (hc : CurAt w' C bs c') (hb : But (fun k => k = C) w.heap.size w w') : NW C bs w0 R N L u v n K c' w' :=
 ⟨hc, but_then h.but hb, h.rb.but hb h.rb.1 h.lt.2.1, h.nb.but hb h.nb.1 (fun e => by have := h.lt; omega), h.net.keeps (keeps_but hb (by have := h.lt; omega)), h.small, h.lt⟩
theorem NW.pick {C : Nat} {bs : List Int} {w0 : World} {R N L : Nat} {u v : Value} {n : Nt} {K : Nat} {c c' : Cu} {w w' : World} (h : NW C bs w0 R N L u v n K c w) (hc : CurAt w' C bs c') (ho : Only (fun k => k = C) w w') : NW C bs w0 R N L u v n K c' w' := h.on hc (but_of_only ho)
theorem NW.put {C : Nat} {bs : List Int} {w0 : World} {R N L : Nat} {u v u' v' : Value} {n n' : Nt} {K K' : Nat} {c c' : Cu} {w w' : World} (h : NW C bs w0 R N L u v n K c w) (hc : CurAt w' C bs c') (hb : But (fun k => k = C) w.heap.size w w') (hn : NetAt w.heap.size w' (.agg #[u', v']) n') (hK : NtB n' K') : NW C bs w0 R N L u' v' n' K' c' ((w'.setCell ⟨N, 0, none⟩ u').setCell ⟨N, 1, none⟩ v') := by
 have hl := h.lt
 have hN := h.nb.1
 have h1 := h.on hc hb
 have ho : Only (fun k => k = N) w' ((w'.setCell ⟨N, 0, none⟩ u').setCell ⟨N, 1, none⟩ v') := (only_setCell (S := fun k => k = N) w' (p := ⟨N, 0, none⟩) rfl u').trans (only_setCell (S := fun k => k = N) _ (p := ⟨N, 1, none⟩) rfl v')
 exact ⟨hc.of_below (ho.below (B := C + 1) (by have := hc.lt; omega) (fun k hk e => by omega)) (by omega), h1.but.trans (but_only ho (fun k hk e => by omega) h1.but.size), h1.rb.blk ho.size (ho.block R h1.rb.1 (fun e => by omega)), (h1.nb.setI (i := 0) (by simp) u').setI (i := 1) (by simp) v', (hn.keeps ⟨ho.size, fun k hk hlt => ho.block k hlt (fun e => by omega)⟩).mono (by omega), hK, hl⟩
theorem NW.fin {C : Nat} {bs : List Int} {w0 : World} {R N L : Nat} {u v : Value} {n : Nt} {K : Nat} {c : Cu} {w : World} (h : NW C bs w0 R N L u v n K c w) : Boxed ((w.setCell ⟨R, 0, none⟩ u).setCell ⟨R, 1, none⟩ v) R [u, v] ∧ Only (fun k => k = R) w ((w.setCell ⟨R, 0, none⟩ u).setCell ⟨R, 1, none⟩ v) ∧ NetAt L ((w.setCell ⟨R, 0, none⟩ u).setCell ⟨R, 1, none⟩ v) (.agg #[u, v]) n ∧ (w0.heap.size ≤ R → CurAt ((w.setCell ⟨R, 0, none⟩ u).setCell ⟨R, 1, none⟩ v) C bs c) := by
 have hl := h.lt
 have ho : Only (fun k => k = R) w ((w.setCell ⟨R, 0, none⟩ u).setCell ⟨R, 1, none⟩ v) := (only_setCell (S := fun k => k = R) w (p := ⟨R, 0, none⟩) rfl u).trans (only_setCell (S := fun k => k = R) _ (p := ⟨R, 1, none⟩) rfl v)
 exact ⟨(h.rb.setI (i := 0) (by simp) u).setI (i := 1) (by simp) v, ho, h.net.keeps ⟨ho.size, fun k hk hlt => ho.block k hlt (fun e => by omega)⟩, fun hR => h.cur.of_below (ho.below (B := C + 1) (by have := h.cur.lt; omega) (fun k hk e => by omega)) (by omega)⟩
theorem NW.ret {C : Nat} {bs : List Int} {w0 : World} {R N L : Nat} {u v : Value} {n : Nt} {K : Nat} {c : Cu} {w : World} (h : NW C bs w0 R N L u v n K c w) (hR : w0.heap.size ≤ R) {M : Nat} (hM : c.at_ ≤ M) : RetN C bs K M w0 (.returned (.agg #[u, v])) ((w.setCell ⟨R, 0, none⟩ u).setCell ⟨R, 1, none⟩ v) := by
 obtain ⟨_, ho, hn, hc⟩ := h.fin
 exact ⟨u, v, n, c, rfl, hn.mono h.lt.2.2.2.1, h.small, hc hR, h.but.trans (but_only ho (fun k hk e => by omega) h.but.size), hM⟩

set_option maxRecDepth 100000 in
set_option maxHeartbeats 4000000 in
theorem l5net_any (C : Nat) (bs : List Int) (c : Cu) (w : World) (hcu : CurAt w C bs c) (hbs : BytesIn bs) (ha : c.at_ ≤ 100000) :
  Calls Tryz.prog 134 #[.pointer (some ⟨C, 0, none⟩)] w (RetN C bs 1300 (c.at_ + 2000) w) := by
 have hCl := hcu.lt
 have HCU := hide hcu
 clear hcu
 go_enter Tryz.func134, Tryz.ntmps134
 go_wp2_with fail
 have hbA : Below w.heap.size w (w.alloc (.cells #[.slice none 0 0, .slice none 0 0] 26)) := bw0
 have hR0 : Boxed (w.alloc (.cells #[.slice none 0 0, .slice none 0 0] 26)) w.heap.size [.slice none 0 0, .slice none 0 0] := boxed_alloc _ _ _
 refine (track_n C bs c _ ((unhide HCU).of_below hbA hCl) hbs (by omega)).mono ?_
 rintro e w1 ⟨u, v, n, c1, rfl, hn, hb, hc1, hbt, hca⟩
 have hnn := hn
 obtain ⟨a1, a2, k1, k2, hve, _, _⟩ := hn
 simp only [Value.agg.injEq, Array.mk.injEq, List.cons.injEq, and_true] at hve
 obtain ⟨rfl, rfl⟩ := hve
 have hbN : Below w1.heap.size w1 (w1.alloc (.cells #[.slice a1 n.pieces.length k1, .slice a2 n.joints.length k2] 26)) := bw0
 have hsz0 : w.heap.size + 1 ≤ w1.heap.size := by have := hbt.size; simpa using this
 have HN1 : Hid (NW C bs w w.heap.size w1.heap.size (w.heap.size + 1) (.slice a1 n.pieces.length k1) (.slice a2 n.joints.length k2) n 1000 c1 (w1.alloc (.cells #[.slice a1 n.pieces.length k1, .slice a2 n.joints.length k2] 26))) :=
  ⟨hc1.of_below hbN hc1.lt, but_below' (but_then (but_of_below hbA) hbt) hbN, (hR0.but hbt hR0.1 (fun e => by omega)).below hbN, boxed_alloc _ _ _, (hnn.below hbN).mono (by simp), hb, hCl, by omega, by omega, by omega, by omega⟩
 have hpi := pickC_in bs c1 24
 have hpa := pickC_at bs c1 24
 dsimp only
 clear hnn hb hc1 hbt hbN hR0 hbA
 go_wp2_with fail
 refine (pick_any C bs c1 24 _ (unhide HN1).cur hbs (by omega) (by omega)).mono ?_
 rintro e w2 ⟨rfl, hc2, ho2⟩
 have HN2 := hide ((unhide HN1).pick hc2 ho2)
 obtain ⟨⟨P, c2⟩, hpc⟩ : ∃ y, pickC bs c1 24 = y := ⟨_, rfl⟩
 rw [hpc] at hpi hpa HN2 ⊢
 dsimp only at hpi hpa HN2 ⊢
 clear hc2 ho2 hpc HN1
 go_upto_if 8 with fail
 go_cut [] (fun wx => ∃ (b1 b2 : Option Addr) (j1 j2 : Nat) (n' : Nt) (c' : Cu), Hid (NW C bs w w.heap.size w1.heap.size (w.heap.size + 1) (.slice b1 n'.pieces.length j1) (.slice b2 n'.joints.length j2) n' 1300 c' wx) ∧ c'.at_ ≤ c.at_ + 2000)
 case first =>
  by_cases hz : P = 0
  ·subst hz
   have m0 := (unhide HN2).nb.2.1 0 _ rfl
   have m1 := (unhide HN2).nb.2.1 1 _ rfl
   have mz := (unhide HN2).nb.2.2
   have ml := (unhide HN2).nb.1
   go_wp2_with fail
   refine (spoil_any C bs c2 _ n 1000 w2 (unhide HN2).cur hbs (by omega) (unhide HN2).net (unhide HN2).small (by omega)).mono ?_
   intro e w3 hsp
   obtain ⟨u, v, n', c3, rfl, hn3, hB3, hc3, hb3, hca3⟩ := hsp.net
   have hnn := hn3
   obtain ⟨b1, b2, j1, j2, hve, _, _⟩ := hn3
   simp only [Value.agg.injEq, Array.mk.injEq, List.cons.injEq, and_true] at hve
   obtain ⟨rfl, rfl⟩ := hve
   have HN3 := hide ((unhide HN2).put hc3 hb3 hnn hB3)
   have HN3' := hide ((unhide HN2).on hc3 hb3)
   clear m0 m1 mz ml
   have m0 := (unhide HN3').nb.2.1 0 _ rfl
   have m1 := (unhide HN3').nb.2.1 1 _ rfl
   have mz := (unhide HN3').nb.2.2
   have ml := (unhide HN3').nb.1
   clear hnn hB3 hc3 hb3
   dsimp only
   go_wp2_with fail
   go_meet
   exact ⟨_, _, _, _, n', c3, HN3, by omega⟩
  ·have hz' : (P == 0) = false := by simpa using hz
   go_wp2_with fail
   go_meet
   exact ⟨_, _, _, _, n, c2, hide { unhide HN2 with small := (unhide HN2).small.more (by omega) }, by omega⟩
 case rest =>
  obtain ⟨b1, b2, j1, j2, n', c', HN, hat⟩ := hcut
  have m0 := (unhide HN).nb.2.1 0 _ rfl
  have m1 := (unhide HN).nb.2.1 1 _ rfl
  have ml := (unhide HN).nb.1
  have r0 := (unhide HN).rb.2.1 0 _ rfl
  have r1 := (unhide HN).rb.2.1 1 _ rfl
  have rz := (unhide HN).rb.2.2
  have rl := (unhide HN).rb.1
  go_wp2_with fail
  have hF := (unhide HN).fin.1
  have f0 := hF.2.1 0 _ rfl
  have f1 := hF.2.1 1 _ rfl
  exact bodyPost_ret (v := .agg #[.slice b1 n'.pieces.length j1, .slice b2 n'.joints.length j2]) (by simp [results, Tryz.results134, go_sem, f0, f1]) rfl ((unhide HN).ret (Nat.le_refl _) hat)

theorem cur_new {w w2 : World} {ba : Option Addr} {bs : List Int} (bcap : Nat) (hba : BytesAt w.heap.size w ba bs) (hb : Below w.heap.size w w2) : CurAt (w2.alloc (.cells #[.slice ba bs.length bcap, .int .i64 0, .int .u64 0] 72)) w2.heap.size bs ⟨0, 0⟩ := by
 have hb2 := below_then hb (bw0 : Below w2.heap.size w2 (w2.alloc (.cells #[.slice ba bs.length bcap, .int .i64 0, .int .u64 0] 72)))
 refine ⟨ba, bcap, boxed_alloc _ _ _, fun i hi => ?_⟩
 obtain ⟨b, off, e, hb', hc, hr⟩ := hba i hi
 exact ⟨b, off, e, ⟨by have := hb'.2; have := hb.size; omega, Nat.lt_of_lt_of_le hb'.2 hb2.size⟩, (hb2.cell hb'.2).trans hc, hr⟩
def RetNet0 (K : Nat) (w : World) (e : Ending) (w' : World) : Prop := ∃ u v n, e = .returned (.agg #[u, v]) ∧ NetAt w.heap.size w' (.agg #[u, v]) n ∧ NtB n K ∧ Below w.heap.size w w'

set_option maxRecDepth 100000 in
set_option maxHeartbeats 4000000 in
theorem drawNetOk_any (bs : List Int) (ba : Option Addr) (bcap : Nat) (w : World) (hba : BytesAt w.heap.size w ba bs) (hbs : BytesIn bs) :
  Calls Tryz.prog 26 #[.slice ba bs.length bcap] w (RetNet0 2000 w) := by
 have HBA := hide hba
 clear hba
 go_enter Tryz.func26, Tryz.ntmps26
 go_wp2_with fail
 have hbR : Below w.heap.size w (w.alloc (.cells #[.slice none 0 0, .slice none 0 0] 26)) := bw0
 have HC0 := hide (cur_new bcap (unhide HBA) hbR)
 have hB0 : Below w.heap.size w ((w.alloc (.cells #[.slice none 0 0, .slice none 0 0] 26)).alloc (.cells #[.slice ba bs.length bcap, .int .i64 0, .int .u64 0] 72)) := bw0
 have hR0 : Boxed ((w.alloc (.cells #[.slice none 0 0, .slice none 0 0] 26)).alloc (.cells #[.slice ba bs.length bcap, .int .i64 0, .int .u64 0] 72)) w.heap.size [.slice none 0 0, .slice none 0 0] := (boxed_alloc _ _ _).alloc _
 have hC : (w.alloc (.cells #[.slice none 0 0, .slice none 0 0] 26)).heap.size = w.heap.size + 1 := by simp
 have hsb : ((w.alloc (.cells #[.slice none 0 0, .slice none 0 0] 26)).alloc (.cells #[.slice ba bs.length bcap, .int .i64 0, .int .u64 0] 72)).heap.size = w.heap.size + 1 + 1 := by simp
 rw [hC] at HC0
 obtain ⟨wb, hwb⟩ : ∃ wb, ((w.alloc (.cells #[.slice none 0 0, .slice none 0 0] 26)).alloc (.cells #[.slice ba bs.length bcap, .int .i64 0, .int .u64 0] 72)) = wb := ⟨_, rfl⟩
 rw [hwb] at HC0 hB0 hR0 hsb ⊢
 clear hwb hC hbR
 refine (track_n (w.heap.size + 1) bs ⟨0, 0⟩ _ (unhide HC0) hbs (by decide)).mono ?_
 rintro e w1 ⟨u, v, n, c1, rfl, hn, hb, hc1, hbt, hca⟩
 have hat0 : (⟨0, 0⟩ : Cu).at_ = 0 := rfl
 have hnn := hn
 obtain ⟨a1, a2, k1, k2, hve, _, _⟩ := hn
 simp only [Value.agg.injEq, Array.mk.injEq, List.cons.injEq, and_true] at hve
 obtain ⟨rfl, rfl⟩ := hve
 have hbN : Below w1.heap.size w1 (w1.alloc (.cells #[.slice a1 n.pieces.length k1, .slice a2 n.joints.length k2] 26)) := bw0
 have hsz0 := hbt.size
 have HN1 : Hid (NW (w.heap.size + 1) bs wb w.heap.size w1.heap.size wb.heap.size (.slice a1 n.pieces.length k1) (.slice a2 n.joints.length k2) n 1000 c1 (w1.alloc (.cells #[.slice a1 n.pieces.length k1, .slice a2 n.joints.length k2] 26))) :=
  ⟨hc1.of_below hbN hc1.lt, but_below' hbt hbN, (hR0.but hbt hR0.1 (fun e => by omega)).below hbN, boxed_alloc _ _ _, hnn.below hbN, hb, by omega, by omega, by omega, by omega, by omega⟩
 have hpi := pickC_in bs c1 3
 have hpa := pickC_at bs c1 3
 have HB0 := hide hB0
 dsimp only
 clear hnn hb hc1 hbt hbN hR0 HC0 hB0
 go_wp2_with fail
 refine (pick_any (w.heap.size + 1) bs c1 3 _ (unhide HN1).cur hbs (by omega) (by omega)).mono ?_
 rintro e w2 ⟨rfl, hc2, ho2⟩
 have HN2 := hide ((unhide HN1).pick hc2 ho2)
 obtain ⟨⟨P, c2⟩, hpc⟩ : ∃ y, pickC bs c1 3 = y := ⟨_, rfl⟩
 rw [hpc] at hpi hpa HN2 ⊢
 dsimp only at hpi hpa HN2 ⊢
 obtain ⟨k, rfl⟩ := Int.eq_ofNat_of_zero_le hpi.1
 have hk : k ≤ 2 := by omega
 clear hc2 ho2 hpc HN1
 go_wp2_with fail
 go_loopw [5] (fun z wx => ∃ (j : Nat) (b1 b2 : Option Addr) (j1 j2 : Nat) (n' : Nt) (c' : Cu), j ≤ 2 ∧ z = .int .i64 j ∧ Hid (NW (w.heap.size + 1) bs wb w.heap.size w1.heap.size wb.heap.size (.slice b1 n'.pieces.length j1) (.slice b2 n'.joints.length j2) n' (1000 + 300 * (2 - j)) c' wx) ∧ c'.at_ ≤ 1000 + 1000 * (2 - j)) (fun z _ => (intOf z).toNat)
 case atStart => exact ⟨k, _, _, _, _, n, c2, hk, rfl, hide { unhide HN2 with small := (unhide HN2).small.more (by omega) }, by omega⟩
 case round =>
  obtain ⟨j, b1, b2, j1, j2, n', c', hj, rfl, HN, hat⟩ := hrel
  have m0 := (unhide HN).nb.2.1 0 _ rfl
  have m1 := (unhide HN).nb.2.1 1 _ rfl
  have mz := (unhide HN).nb.2.2
  have ml := (unhide HN).nb.1
  by_cases hz : 0 < j
  ·have hz' : (0 : Int) < (j : Int) := by omega
   have hsub : IntKind.i64.wrap ((j : Int) - 1) = ((j - 1 : Nat) : Int) := (wrap_small (by omega) (by omega)).trans (by omega)
   go_wp2_with fail
   refine (spoil_any (w.heap.size + 1) bs c' _ n' _ wr (unhide HN).cur hbs (by omega) (unhide HN).net (unhide HN).small (by omega)).mono ?_
   intro e w3 hsp
   obtain ⟨u, v, n3, c3, rfl, hn3, hB3, hc3, hb3, hca3⟩ := hsp.net
   have hnn := hn3
   obtain ⟨d1, d2, l1, l2, hve, _, _⟩ := hn3
   simp only [Value.agg.injEq, Array.mk.injEq, List.cons.injEq, and_true] at hve
   obtain ⟨rfl, rfl⟩ := hve
   have HN3 := hide ((unhide HN).put hc3 hb3 hnn (hB3.more (K' := 1000 + 300 * (2 - (j - 1))) (by omega)))
   have HN3' := hide ((unhide HN).on hc3 hb3)
   clear m0 m1 mz ml
   have m0 := (unhide HN3').nb.2.1 0 _ rfl
   have m1 := (unhide HN3').nb.2.1 1 _ rfl
   have mz := (unhide HN3').nb.2.2
   have ml := (unhide HN3').nb.1
   clear hnn hB3 hc3 hb3
   dsimp only
   go_wp2_with fail
   exact ⟨⟨j - 1, _, _, _, _, n3, c3, by omega, rfl, HN3, by omega⟩, by simp [intOf]; omega⟩
  ·have hz' : ¬ (0 : Int) < (j : Int) := by omega
   have r0 := (unhide HN).rb.2.1 0 _ rfl
   have r1 := (unhide HN).rb.2.1 1 _ rfl
   have rz := (unhide HN).rb.2.2
   have rl := (unhide HN).rb.1
   go_wp2_with fail
   obtain ⟨hF, ho, hnF, _⟩ := (unhide HN).fin
   have f0 := hF.2.1 0 _ rfl
   have f1 := hF.2.1 1 _ rfl
   have hbw : Below w.heap.size w wr := (unhide HB0).trans ((unhide HN).but.below (U := w.heap.size) (by omega) (fun k hk e => by omega))
   exact bodyPost_ret (v := .agg #[.slice b1 n'.pieces.length j1, .slice b2 n'.joints.length j2]) (by simp [results, Tryz.results26, go_sem, f0, f1]) rfl ⟨_, _, n', rfl, hnF.mono (by omega), (unhide HN).small.more (by omega), hbw.trans (ho.below (B := w.heap.size) (by have := hbw.size; omega) (fun k hk e => by omega))⟩

end Go.Proofs.YtbdggfpfpjijoaaGreatDoor

