import Derived.Test.YtjacbppeebnjfaaGreatPw5
set_option linter.unusedSimpArgs false
namespace Go.Proofs.YtjacbppeebnjfaaGreat
open Go.RowKit

theorem pop_mem {α : Type} {d : α} {l : List α} {k : Nat} (hl : l.length = k + 1) (x : α) : x ∈ l ↔ x = l.getD 0 d ∨ x ∈ (swapL d l 0 k).take k := by
 have hm := (same_swap (d := d) (fun _ _ => True) (l := l) (i := 0) (k := k) (by omega) (by omega)).2.1 x
 rw [← hm]
 have hlen : (swapL d l 0 k).length = k + 1 := by rw [swapL_len]; exact hl
 have hlast : (swapL d l 0 k).getD k d = l.getD 0 d := by rw [swapL_get d l (by omega) (by omega), if_pos rfl]
 constructor
 ·intro h
  obtain ⟨j, hj, rfl⟩ := (mem_getD (d := d)).1 h
  by_cases e : j = k
  ·subst e
   exact Or.inl hlast
  ·refine Or.inr ((mem_getD (d := d)).2 ⟨j, by rw [List.length_take]; omega, ?_⟩)
   rw [List.getD_eq_getElem?_getD, List.getD_eq_getElem?_getD, List.getElem?_take_of_lt (by omega)]
 ·rintro (rfl | h)
  ·exact (mem_getD (d := d)).2 ⟨k, by omega, hlast⟩
  ·exact List.mem_of_mem_take h
theorem pop_two {α : Type} {d : α} {R : α → α → Prop} {l : List α} {k : Nat} (hl : l.length = k + 1) (h : ∀ i j, i < l.length → j < l.length → i ≠ j → R (l.getD i d) (l.getD j d)) : (∀ i j, i < ((swapL d l 0 k).take k).length → j < ((swapL d l 0 k).take k).length → i ≠ j → R (((swapL d l 0 k).take k).getD i d) (((swapL d l 0 k).take k).getD j d)) ∧ ∀ x ∈ (swapL d l 0 k).take k, R x (l.getD 0 d) := by
 have hs := (same_swap (d := d) R (l := l) (i := 0) (k := k) (by omega) (by omega)).2.2 h
 have hlen : (swapL d l 0 k).length = k + 1 := by rw [swapL_len]; exact hl
 have hlast : (swapL d l 0 k).getD k d = l.getD 0 d := by rw [swapL_get d l (by omega) (by omega), if_pos rfl]
 have get : ∀ j, j < k → ((swapL d l 0 k).take k).getD j d = (swapL d l 0 k).getD j d := fun j hj => by
  rw [List.getD_eq_getElem?_getD, List.getD_eq_getElem?_getD, List.getElem?_take_of_lt hj]
 have htl : ((swapL d l 0 k).take k).length = k := by rw [List.length_take]; omega
 constructor
 ·intro i j hi hj hij
  rw [htl] at hi hj
  rw [get i hi, get j hj]
  exact hs i j (by omega) (by omega) hij
 ·intro x hx
  obtain ⟨j, hj, rfl⟩ := (mem_getD (d := d)).1 hx
  rw [htl] at hj
  rw [get j hj, ← hlast]
  exact hs j k (by omega) (by omega) (by omega)
theorem HpAt.cut {w : World} {H base g m cap k : Nat} {qs : List (Wh × Value)} (h : HpAt w H base (.slice (some ⟨g, 0, none⟩) m cap) qs) (hk : k ≤ qs.length) (hne : qs ≠ []) : HpAt (w.setCell ⟨H, 0, none⟩ (.slice (some ⟨g, 0, none⟩) k cap)) H base (.slice (some ⟨g, 0, none⟩) k cap) (qs.take k) ∧ HpTo H w (.slice (some ⟨g, 0, none⟩) m cap) (w.setCell ⟨H, 0, none⟩ (.slice (some ⟨g, 0, none⟩) k cap)) (.slice (some ⟨g, 0, none⟩) k cap) := by
 have hlo := h.lo
 have hsz : (w.setCell ⟨H, 0, none⟩ (.slice (some ⟨g, 0, none⟩) k cap)).heap.size = w.heap.size := by simp [World.setCell]
 have hblk : ∀ j, j ≠ H → (w.setCell ⟨H, 0, none⟩ (.slice (some ⟨g, 0, none⟩) k cap)).heap[j]? = w.heap[j]? := fun j hj => Below.heap_setCell w ⟨H, 0, none⟩ _ j hj
 exact ⟨⟨by simpa using h.box.setAt (i := 0) (by simp) (.slice (some ⟨g, 0, none⟩) k cap), (WhRow.cut h.row hne k hk).setCell (p := ⟨H, 0, none⟩) hlo _, hlo, fun q hq => (h.ms q (List.mem_of_mem_take hq)).blocks (by rw [hsz]; exact Nat.le_refl _) (fun j hj _ => hblk j (by omega)), fun q hq => h.fit q (List.mem_of_mem_take hq), by rw [List.length_take]; have := h.few; omega, by rw [hsz]; exact h.top⟩, rfl, rfl, rfl, by rw [hsz]; exact Nat.le_refl _, fun j _ hj _ => hblk j hj, fun j hj => Or.inl hj⟩
theorem Boxed.hpTo {H N : Nat} {w w' : World} {v v' : Value} {vs : List Value} (h : Boxed w N vs) (ht : HpTo H w v w' v') (hN : N ≠ H) (ho : v.ownBlock ≠ some N) : Boxed w' N vs := by
 have hb := ht.block N h.1 hN ho
 exact ⟨Nat.lt_of_lt_of_le h.1 ht.size, fun i u hi => by rw [World.cell?_of_block (w := w) (a := ⟨N, i, none⟩) hb]; exact h.2.1 i u hi, fun i => by rw [World.frozen?_of_block (w := w) (a := ⟨N, i, none⟩) hb]; exact h.2.2 i⟩
theorem HpAt.only1 {w w' : World} {H base N : Nat} {v : Value} {qs : List (Wh × Value)} (h : HpAt w H base v qs) (ho : Only (fun j => j = N) w w') (hN : H < N) (hv : v.ownBlock ≠ some N) : HpAt w' H base v qs :=
 ⟨h.box.onlyS ho (show ¬ H = N by omega), h.row.only ho (fun k hk (e : k = N) => hv (by rw [hk, e])), h.lo, fun q hq => (h.ms q hq).blocks ho.size (fun j hj hl => ho.block j hl (show ¬ j = N by omega)), h.fit, h.few, Nat.le_trans h.top ho.size⟩
theorem HpTo.then_below {H : Nat} {w a b : World} {v u : Value} (h : HpTo H w v a u) (hb : Below w.heap.size a b) : HpTo H w v b u :=
 ⟨hb.os.trans h.os, hb.tape.trans h.tape, hb.output.trans h.output, Nat.le_trans h.size hb.size, fun k hk h1 h2 => (hb.block k hk).trans (h.block k hk h1 h2), h.own⟩
theorem only_three {w : World} {g : Nat} (o1 o2 o3 : Nat) (v1 v2 v3 : Value) : Only (fun j => j = g) w (((w.setCell ⟨g, o1, none⟩ v1).setCell ⟨g, o2, none⟩ v2).setCell ⟨g, o3, none⟩ v3) :=
 ((only_setCell (S := fun j => j = g) w (p := ⟨g, o1, none⟩) rfl v1).trans (only_setCell (S := fun j => j = g) _ (p := ⟨g, o2, none⟩) rfl v2)).trans (only_setCell (S := fun j => j = g) _ (p := ⟨g, o3, none⟩) rfl v3)
structure PopTo (w : World) (H base : Nat) (v : Value) (qs : List (Wh × Value)) (x : Wh) (a : Option Addr) (c : Nat) (w' : World) : Prop where
 st : ∃ v' ps, HpAt w' H base v' ps ∧ HpTo H w v w' v' ∧ HeapQ ps ∧ (∀ q, q ∈ qs ↔ q = (x, .slice a x.ms.length c) ∨ q ∈ ps) ∧ ps.length + 1 = qs.length
  ∧ ((∀ i j, i < qs.length → j < qs.length → i ≠ j → OtherAx (qs.getD i noWv).1 (qs.getD j noWv).1) → (∀ i j, i < ps.length → j < ps.length → i ≠ j → OtherAx (ps.getD i noWv).1 (ps.getD j noWv).1) ∧ ∀ q ∈ ps, OtherAx q.1 x)
set_option maxRecDepth 100000 in
set_option maxHeartbeats 8000000 in
theorem pop_any (H base : Nat) (v : Value) (qs : List (Wh × Value)) (w : World) (h : HpAt w H base v qs) (hh : HeapQ qs) :
  Calls Tryz.prog 56 #[.pointer (some ⟨H, 0, none⟩)] w fun e w' =>
   (qs = [] ∧ e = .returned (.tuple #[.agg #[.int .i64 0, .int .i64 0, .slice none 0 0], .bool false]) ∧ Below w.heap.size w w')
   ∨ (0 < qs.length ∧ ∃ x a c, qs.getD 0 noWv = (x, .slice a x.ms.length c) ∧ e = .returned (.tuple #[.agg #[.int .i64 x.axle, .int .i64 x.back, .slice a x.ms.length c], .bool true]) ∧ PopTo w H base v qs x a c w') := by
 have hfew := h.few
 by_cases h0 : qs.length = 0
 ·obtain rfl := List.length_eq_zero_iff.1 h0
  obtain ⟨ua, uc, rfl, _, _⟩ := h.row.shape whF_len
  have b0 := h.box.2.1 0 _ rfl
  have bl := h.box.1
  have bne : ¬ H = w.heap.size := by omega
  clear h hh h0
  go_enter Tryz.func56, Tryz.ntmps56
  go_wp2_with fail
  refine bodyPost_ret (v := .tuple #[.agg #[.int .i64 0, .int .i64 0, .slice none 0 0], .bool false]) (by simp [results, Tryz.results56, go_sem]) rfl ?_
  refine Or.inl ⟨?_, rfl, bw0⟩
  first | trivial | rfl
 ·obtain ⟨g, cap, rfl, hgl, hgb⟩ := h.slice (by omega)
  obtain ⟨x, a, c, q0, hI⟩ := h.item (i := 0) (by omega)
  obtain ⟨k, hk⟩ : ∃ k, qs.length = k + 1 := ⟨qs.length - 1, by omega⟩
  have i0 := hI.c0
  have i1 := hI.c1
  have i2 := hI.c2
  simp only [Nat.zero_mul, Nat.zero_add] at i0 i1 i2
  have b0 := h.box.2.1 0 _ rfl
  have bl := h.box.1
  have hlo := h.lo
  have HH := hide h
  have HHQ := hide hh
  have HQ0 := hide q0
  have HK := hide hk
  have hl0 : (0 : Int) < (qs.length : Int) := by omega
  have hl0' : ((qs.length : Int) == 0) = false := by rw [beq_eq_false_iff_ne]; omega
  have hsub : IntKind.i64.wrap ((qs.length : Int) - 1) = (k : Int) := (wrap_small (by omega) (by omega)).trans (by omega)
  have e1 : ¬ H = w.heap.size := by omega
  have e2 : ¬ g = w.heap.size := by omega
  have e3 : ¬ w.heap.size = H := by omega
  have e4 : ¬ w.heap.size = g := by omega
  clear h hh hI q0 hk
  go_enter Tryz.func56, Tryz.ntmps56
  go_wp2_with fail
  go_region
  go_wp2_with fail
  have hbA : Below w.heap.size w ((w.alloc (.cells #[.int .i64 0, .int .i64 0, .slice none 0 0] 133)).alloc (.cells #[.int .i64 x.axle, .int .i64 x.back, .slice a x.ms.length c] 133)).drew := bw0
  have hR : Boxed ((w.alloc (.cells #[.int .i64 0, .int .i64 0, .slice none 0 0] 133)).alloc (.cells #[.int .i64 x.axle, .int .i64 x.back, .slice a x.ms.length c] 133)).drew w.heap.size [.int .i64 0, .int .i64 0, .slice none 0 0] := ((boxed_alloc _ _ _).alloc _).drew
  have hF : Boxed ((w.alloc (.cells #[.int .i64 0, .int .i64 0, .slice none 0 0] 133)).alloc (.cells #[.int .i64 x.axle, .int .i64 x.back, .slice a x.ms.length c] 133)).drew (w.heap.size + 1) [.int .i64 x.axle, .int .i64 x.back, .slice a x.ms.length c] := (boxedN _ _ _ (by simp)).drew
  obtain ⟨wA, hwA⟩ : ∃ wA, ((w.alloc (.cells #[.int .i64 0, .int .i64 0, .slice none 0 0] 133)).alloc (.cells #[.int .i64 x.axle, .int .i64 x.back, .slice a x.ms.length c] 133)).drew = wA := ⟨_, rfl⟩
  rw [hwA] at hbA hR hF ⊢
  clear hwA b0 i0 i1 i2
  refine (swap_any H base _ qs 0 k wA ((unhide HH).below hbA) (by omega) (by have := unhide HK; omega)).mono ?_
  rintro e wB ⟨rfl, hPB, hTB⟩
  have hRB := hR.hpTo hTB (show w.heap.size ≠ H from e3) (by simp [Value.ownBlock]; omega)
  have hFB := hF.hpTo hTB (show w.heap.size + 1 ≠ H by omega) (by simp [Value.ownBlock]; omega)
  have b0 := hPB.box.2.1 0 _ rfl
  have bz := hPB.box.2.2 0
  have blB := hPB.box.1
  have hslen : (swapL noWv qs 0 k).length = k + 1 := by rw [swapL_len]; exact unhide HK
  have hcapB : qs.length ≤ cap := by
   obtain ⟨a', cap', e, hc, _⟩ := hPB.row.shape whF_len
   simp only [Value.slice.injEq] at e
   rw [swapL_len] at hc
   omega
  have hkc : k ≤ cap := by have := unhide HK; omega
  have hkc' : (k : Int) ≤ (cap : Int) := by omega
  obtain ⟨hPC, hTC⟩ := hPB.cut (k := k) (by omega) (fun e => by rw [e] at hslen; simp at hslen)
  have hRC := hRB.hpTo hTC (show w.heap.size ≠ H from e3) (by simp [Value.ownBlock]; omega)
  have hFC := hFB.hpTo hTC (show w.heap.size + 1 ≠ H by omega) (by simp [Value.ownBlock]; omega)
  have HPC := hide hPC
  have HTC := hide (((HpTo.of_below (H := H) (Value.slice (some ⟨g, 0, none⟩) qs.length cap) hbA).trans hTB).trans hTC)
  have HRC := hide hRC
  have HFC := hide hFC
  clear hPB hTB hRB hFB hPC hTC hRC hFC hR hF hslen
  go_wp2_with fail
  refine (sink_any H base _ _ _ (unhide HPC) (down_start (unhide HHQ) (unhide HK))).mono ?_
  rintro e wD ⟨rfl, ps, hPD, hTD, hSD, hHD⟩
  have hRD := (unhide HRC).hpTo hTD (show w.heap.size ≠ H from e3) (by simp [Value.ownBlock]; omega)
  have hFD := (unhide HFC).hpTo hTD (show w.heap.size + 1 ≠ H by omega) (by simp [Value.ownBlock]; omega)
  have f0 := hFD.2.1 0 _ rfl
  have f1 := hFD.2.1 1 _ rfl
  have f2 := hFD.2.1 2 _ rfl
  have fl' := hFD.1
  have r0 := hRD.2.1 0 _ rfl
  have r1 := hRD.2.1 1 _ rfl
  have r2 := hRD.2.1 2 _ rfl
  have rz := hRD.2.2
  have rl := hRD.1
  have HPD := hide hPD
  have HTD := hide ((unhide HTC).trans hTD)
  have HSD := hide hSD
  have HHD := hide hHD
  clear hPD hTD hSD hHD hRD hFD b0 bz
  go_wp2_with fail
  have hbE : Below w.heap.size wD (((wD.setCell ⟨w.heap.size, 0, none⟩ (.int .i64 x.axle)).setCell ⟨w.heap.size, 1, none⟩ (.int .i64 x.back)).setCell ⟨w.heap.size, 2, none⟩ (.slice a x.ms.length c)) := bw0
  have hPE := (unhide HPD).only1 (N := w.heap.size) (only_three 0 1 2 (.int .i64 x.axle) (.int .i64 x.back) (.slice a x.ms.length c)) (by omega) (by simp [Value.ownBlock]; omega)
  have hTE := (unhide HTD).then_below hbE
  have hk := unhide HK
  have hpo : PopTo w H base (.slice (some ⟨g, 0, none⟩) qs.length cap) qs x a c (((wD.setCell ⟨w.heap.size, 0, none⟩ (.int .i64 x.axle)).setCell ⟨w.heap.size, 1, none⟩ (.int .i64 x.back)).setCell ⟨w.heap.size, 2, none⟩ (.slice a x.ms.length c)) := by
   refine ⟨_, ps, hPE, hTE, unhide HHD, fun q => ?_, ?_, fun ht => ?_⟩
   ·rw [pop_mem (d := noWv) hk, unhide HQ0, (unhide HSD).2.1 q]
   ·have := (unhide HSD).1
    rw [List.length_take, swapL_len] at this
    omega
   ·obtain ⟨t1, t2⟩ := pop_two (R := fun x y : Wh × Value => OtherAx x.1 y.1) hk ht
    refine ⟨(unhide HSD).2.2 t1, fun q hq => ?_⟩
    have := t2 q (((unhide HSD).2.1 q).1 hq)
    rw [unhide HQ0] at this
    exact this
  have HPO := hide hpo
  clear hpo hPE hTE hbE hk
  refine bodyPost_ret (v := .tuple #[.agg #[.int .i64 x.axle, .int .i64 x.back, .slice a x.ms.length c], .bool true]) (by simp [results, Tryz.results56, go_sem, r0, r1, r2, rl]) rfl ?_
  exact Or.inr ⟨by omega, x, a, c, unhide HQ0, rfl, unhide HPO⟩

end Go.Proofs.YtjacbppeebnjfaaGreat

