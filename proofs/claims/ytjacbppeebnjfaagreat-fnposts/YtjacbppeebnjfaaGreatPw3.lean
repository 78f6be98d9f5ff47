import Derived.Test.YtjacbppeebnjfaaGreatMPw1
import Derived.BigRegion
set_option linter.unusedSimpArgs false
namespace Go.Proofs.YtjacbppeebnjfaaGreat
open Go.RowKit

def whF (q : Wh × Value) : List Value := [.int .i64 q.1.axle, .int .i64 q.1.back, q.2]
theorem whF_len (q : Wh × Value) : (whF q).length = 3 := rfl
abbrev WhRow (w : World) (base : Nat) (v : Value) (qs : List (Wh × Value)) : Prop := Row w base 133 3 whF v qs
def noWv : Wh × Value := (noWh, .slice none 0 0)
def MsIn (w : World) (H : Nat) (q : Wh × Value) : Prop := ∃ a cap, q.2 = .slice a q.1.ms.length cap ∧ q.1.ms.length ≤ cap ∧ MksAt w a q.1.ms ∧ ∀ b off, a = some ⟨b, off, none⟩ → b < H
structure HpAt (w : World) (H base : Nat) (v : Value) (qs : List (Wh × Value)) : Prop where
 box : Boxed w H [v]
 row : WhRow w base v qs
 lo : H < base
 ms : ∀ q ∈ qs, MsIn w H q
 fit : ∀ q ∈ qs, WhFit q.1
 few : qs.length ≤ 1000
 top : base ≤ w.heap.size
structure HpTo (H : Nat) (w : World) (v : Value) (w' : World) (v' : Value) : Prop where
 os : w'.os = w.os
 tape : w'.tape = w.tape
 output : w'.output = w.output
 size : w.heap.size ≤ w'.heap.size
 block : ∀ k, k < w.heap.size → k ≠ H → v.ownBlock ≠ some k → w'.heap[k]? = w.heap[k]?
 own : ∀ k, v'.ownBlock = some k → v.ownBlock = some k ∨ w.heap.size ≤ k
theorem HpTo.refl (H : Nat) (w : World) (v : Value) : HpTo H w v w v := ⟨rfl, rfl, rfl, Nat.le_refl _, fun _ _ _ _ => rfl, fun _ h => Or.inl h⟩
theorem HpTo.trans {H : Nat} {a b c : World} {u v x : Value} (h : HpTo H a u b v) (k : HpTo H b v c x) : HpTo H a u c x :=
 ⟨k.os.trans h.os, k.tape.trans h.tape, k.output.trans h.output, Nat.le_trans h.size k.size, fun i hi hH ho => (k.block i (Nat.lt_of_lt_of_le hi h.size) hH (fun e => by
  rcases h.own i e with e' | e'
  ·exact ho e'
  ·omega)).trans (h.block i hi hH ho), fun i hi => by
  rcases k.own i hi with e | e
  ·exact h.own i e
  ·exact Or.inr (Nat.le_trans h.size e)⟩
theorem HpTo.of_below {H : Nat} {w w' : World} (v : Value) (h : Below w.heap.size w w') : HpTo H w v w' v := ⟨h.os, h.tape, h.output, h.size, fun k hk _ _ => h.block k hk, fun _ h => Or.inl h⟩
theorem MsIn.blocks {w w' : World} {H : Nat} {q : Wh × Value} (h : MsIn w H q) (hs : w.heap.size ≤ w'.heap.size) (hb : ∀ k, k < H → k < w.heap.size → w'.heap[k]? = w.heap[k]?) : MsIn w' H q := by
 obtain ⟨a, cap, e, hc, hm, hl⟩ := h
 exact ⟨a, cap, e, hc, hm.same hs (fun b off ea hb' => hb b (hl b off ea) hb'), hl⟩
theorem HpAt.below {w w' : World} {H base : Nat} {v : Value} {qs : List (Wh × Value)} (h : HpAt w H base v qs) (hb : Below w.heap.size w w') : HpAt w' H base v qs :=
 ⟨h.box.below hb, h.row.below hb, h.lo, fun q hq => (h.ms q hq).blocks hb.size (fun k _ hk => hb.block k hk), h.fit, h.few, Nat.le_trans h.top hb.size⟩
theorem only_drew {S : Nat → Prop} {a w : World} (h : Only S a w) : Only S a w.drew := ⟨h.os, h.tape, h.output, h.size, h.block, h.shape⟩
theorem WhRow.drew {w : World} {base : Nat} {v : Value} {qs : List (Wh × Value)} (h : WhRow w base v qs) : WhRow w.drew base v qs := h
theorem wh_set (q : Wh × Value) : ∀ (qs : List (Wh × Value)) (i : Nat), i < qs.length → ((((qs.flatMap whF).set (i * 3) (.int .i64 q.1.axle)).set (i * 3 + 1) (.int .i64 q.1.back)).set (i * 3 + 2) q.2) = (qs.set i q).flatMap whF
 | [], i, h => absurd h (by simp)
 | p :: r, 0, _ => by simp [whF]
 | p :: r, i + 1, h => by
  have ih := wh_set q r i (by simpa using h)
  have e : (i + 1) * 3 = i * 3 + 3 := by omega
  rw [e, List.set_cons_succ]
  simp only [List.flatMap_cons]
  rw [← ih]
  simp [whF]
theorem ownsRow_put {w : World} {base : Nat} {e : TypeId} {sz g m n cap : Nat} {xs : List Value} (h : w.ownsRow base e sz (.slice (some ⟨g, 0, none⟩) m cap) n xs) (k : Nat) (hk : k < n * sz) (u : Value) : (w.setCell ⟨g, k, none⟩ u).ownsRow base e sz (.slice (some ⟨g, 0, none⟩) m cap) n (xs.set k u) := by
 obtain ⟨h0, ⟨h1, _⟩ | ⟨g', cap', cur, h1, hb, hh, hc, hm, hs, ht⟩⟩ := h
 ·simp at h1
 ·simp only [Value.slice.injEq, Option.some.injEq, Addr.mk.injEq, and_true] at h1
  obtain ⟨rfl, rfl, rfl⟩ := h1
  refine ⟨by simpa using h0, Or.inr ⟨g, cap, cur.setIfInBounds k u, rfl, hb, ?_, hc, hm, by simpa using hs, ?_⟩⟩
  ·simp [World.setCell, Array.getElem?_modify, hh]
  ·rw [Array.toList_setIfInBounds, List.take_set, ht]
theorem WhRow.put {w : World} {base g m cap : Nat} {qs : List (Wh × Value)} (h : WhRow w base (.slice (some ⟨g, 0, none⟩) m cap) qs) {i : Nat} (hi : i < qs.length) (q : Wh × Value) : WhRow (((w.setCell ⟨g, i * 3, none⟩ (.int .i64 q.1.axle)).setCell ⟨g, i * 3 + 1, none⟩ (.int .i64 q.1.back)).setCell ⟨g, i * 3 + 2, none⟩ q.2) base (.slice (some ⟨g, 0, none⟩) m cap) (qs.set i q) := by
 have h5 := ownsRow_put (ownsRow_put (ownsRow_put h (i * 3) (by omega) (.int .i64 q.1.axle)) (i * 3 + 1) (by omega) (.int .i64 q.1.back)) (i * 3 + 2) (by omega) q.2
 show World.ownsRow _ _ _ _ _ (qs.set i q).length _
 rw [List.length_set, ← wh_set q qs i hi]
 exact h5
theorem wh_take : ∀ (qs : List (Wh × Value)) (k : Nat), (qs.flatMap whF).take (k * 3) = (qs.take k).flatMap whF
 | [], k => by simp
 | x :: r, 0 => by simp
 | x :: r, k + 1 => by rw [List.take_succ_cons, List.flatMap_cons, List.flatMap_cons, ← wh_take r k, show (k + 1) * 3 = (whF x).length + k * 3 by rw [whF_len]; omega, List.take_length_add_append]
theorem WhRow.cut {w : World} {base : Nat} {a : Option Addr} {m cap : Nat} {qs : List (Wh × Value)} (h : WhRow w base (.slice a m cap) qs) (hne : qs ≠ []) (k : Nat) (hk : k ≤ qs.length) : WhRow w base (.slice a k cap) (qs.take k) := by
 obtain ⟨h0, ⟨h1, h2⟩ | ⟨g', cap', cur, h1, hb, hh, hc, hm, hs, ht⟩⟩ := h
 ·exact absurd (List.length_eq_zero_iff.1 h2) hne
 ·simp only [Value.slice.injEq] at h1
  obtain ⟨rfl, rfl, rfl⟩ := h1
  have hl : (qs.take k).length = k := by rw [List.length_take]; omega
  refine ⟨flat_len whF_len _, Or.inr ⟨g', cap, cur, by rw [hl], hb, hh, by rw [hl]; omega, hm, hs, ?_⟩⟩
  have e : cur.toList.take (k * 3) = (qs.flatMap whF).take (k * 3) := by
   rw [← ht, List.take_take, Nat.min_eq_left (Nat.mul_le_mul_right _ hk)]
  rw [hl, e, wh_take qs k]
theorem hp_swapped {w w' : World} {H base g m cap : Nat} {qs ps : List (Wh × Value)} (h : HpAt w H base (.slice (some ⟨g, 0, none⟩) m cap) qs) (ho : Only (fun j => j = g) w w') (hr : WhRow w' base (.slice (some ⟨g, 0, none⟩) m cap) ps) (hm : ∀ q, q ∈ ps ↔ q ∈ qs) (hl : ps.length = qs.length) : HpAt w' H base (.slice (some ⟨g, 0, none⟩) m cap) ps ∧ HpTo H w (.slice (some ⟨g, 0, none⟩) m cap) w' (.slice (some ⟨g, 0, none⟩) m cap) := by
 have hg := (h.row.lt g rfl).1
 have hlo := h.lo
 exact ⟨⟨h.box.onlyS ho (show ¬ H = g by omega), hr, h.lo, fun q hq => (h.ms q ((hm q).1 hq)).blocks ho.size (fun j hj hl => ho.block j hl (show ¬ j = g by omega)), fun q hq => h.fit q ((hm q).1 hq), by rw [hl]; exact h.few, Nat.le_trans h.top ho.size⟩, ho.os, ho.tape, ho.output, ho.size, fun j hl _ hj => ho.block j hl (fun e => hj (by rw [e]; rfl)), fun _ h => Or.inl h⟩
theorem only_six {w : World} {g : Nat} (o1 o2 o3 o4 o5 o6 : Nat) (v1 v2 v3 v4 v5 v6 : Value) : Only (fun j => j = g) w ((((((w.setCell ⟨g, o1, none⟩ v1).setCell ⟨g, o2, none⟩ v2).setCell ⟨g, o3, none⟩ v3).setCell ⟨g, o4, none⟩ v4).setCell ⟨g, o5, none⟩ v5).setCell ⟨g, o6, none⟩ v6) :=
 (((((only_setCell (S := fun j => j = g) w (p := ⟨g, o1, none⟩) rfl v1).trans (only_setCell (S := fun j => j = g) _ (p := ⟨g, o2, none⟩) rfl v2)).trans (only_setCell (S := fun j => j = g) _ (p := ⟨g, o3, none⟩) rfl v3)).trans (only_setCell (S := fun j => j = g) _ (p := ⟨g, o4, none⟩) rfl v4)).trans (only_setCell (S := fun j => j = g) _ (p := ⟨g, o5, none⟩) rfl v5)).trans (only_setCell (S := fun j => j = g) _ (p := ⟨g, o6, none⟩) rfl v6)
theorem swap_done {w : World} {H base g m cap i k : Nat} {qs : List (Wh × Value)} (h : HpAt w H base (.slice (some ⟨g, 0, none⟩) m cap) qs) (hi : i < qs.length) (hk : k < qs.length) {ai bi ak bk : Int} {mi mk : List Mrk} {vi vk : Value} (qi : qs.getD i noWv = (⟨ai, bi, mi⟩, vi)) (qk : qs.getD k noWv = (⟨ak, bk, mk⟩, vk)) :
  HpAt ((((((w.setCell ⟨g, i * 3, none⟩ (.int .i64 ak)).setCell ⟨g, i * 3 + 1, none⟩ (.int .i64 bk)).setCell ⟨g, i * 3 + 2, none⟩ vk).setCell ⟨g, k * 3, none⟩ (.int .i64 ai)).setCell ⟨g, k * 3 + 1, none⟩ (.int .i64 bi)).setCell ⟨g, k * 3 + 2, none⟩ vi).drew H base (.slice (some ⟨g, 0, none⟩) m cap) (swapL noWv qs i k)
   ∧ HpTo H w (.slice (some ⟨g, 0, none⟩) m cap) ((((((w.setCell ⟨g, i * 3, none⟩ (.int .i64 ak)).setCell ⟨g, i * 3 + 1, none⟩ (.int .i64 bk)).setCell ⟨g, i * 3 + 2, none⟩ vk).setCell ⟨g, k * 3, none⟩ (.int .i64 ai)).setCell ⟨g, k * 3 + 1, none⟩ (.int .i64 bi)).setCell ⟨g, k * 3 + 2, none⟩ vi).drew (.slice (some ⟨g, 0, none⟩) m cap) := by
 have h1 := (h.row.put hi (⟨ak, bk, mk⟩, vk)).put (i := k) (by rw [List.length_set]; exact hk) (⟨ai, bi, mi⟩, vi)
 dsimp only at h1
 have e : swapL noWv qs i k = (qs.set i (⟨ak, bk, mk⟩, vk)).set k (⟨ai, bi, mi⟩, vi) := by unfold swapL; rw [qi, qk]
 rw [← e] at h1
 exact hp_swapped h (only_drew (only_six _ _ _ _ _ _ _ _ _ _ _ _)) (WhRow.drew h1) (same_swap (d := noWv) (fun _ _ => True) hi hk).2.1 (swapL_len _ _ _ _)
set_option maxRecDepth 100000 in
set_option maxHeartbeats 4000000 in
theorem swap_any (H base : Nat) (v : Value) (qs : List (Wh × Value)) (i k : Nat) (w : World) (h : HpAt w H base v qs) (hi : i < qs.length) (hk : k < qs.length) :
  Calls Tryz.prog 90 #[.pointer (some ⟨H, 0, none⟩), .int .i64 i, .int .i64 k] w fun e w' => e = .returned (.tuple #[]) ∧ HpAt w' H base v (swapL noWv qs i k) ∧ HpTo H w v w' v := by
 have hbx := h.box
 obtain ⟨a, cap, rfl, hcap, hc⟩ := h.row.shape whF_len
 obtain ⟨g, rfl, hgl, hci⟩ := hc i hi
 obtain ⟨g', e', _, hck⟩ := hc k hk
 simp only [Option.some.injEq, Addr.mk.injEq, and_true] at e'
 subst e'
 have i0 : w.cell? ⟨g, i * 3, none⟩ = some (.int .i64 (qs[i]).1.axle) := hci 0 (by omega)
 have i1 : w.cell? ⟨g, i * 3 + 1, none⟩ = some (.int .i64 (qs[i]).1.back) := hci 1 (by omega)
 have i2 : w.cell? ⟨g, i * 3 + 2, none⟩ = some (qs[i]).2 := hci 2 (by omega)
 have k0 : w.cell? ⟨g, k * 3, none⟩ = some (.int .i64 (qs[k]).1.axle) := hck 0 (by omega)
 have k1 : w.cell? ⟨g, k * 3 + 1, none⟩ = some (.int .i64 (qs[k]).1.back) := hck 1 (by omega)
 have k2 : w.cell? ⟨g, k * 3 + 2, none⟩ = some (qs[k]).2 := hck 2 (by omega)
 have hfz : ∀ j, w.frozen? ⟨g, j, none⟩ = false := by
  obtain ⟨_, ⟨h1, _⟩ | ⟨g', cap', cur, h1, hb, hh, _⟩⟩ := h.row
  ·simp at h1
  ·simp only [Value.slice.injEq, Option.some.injEq, Addr.mk.injEq, and_true] at h1
   obtain ⟨rfl, _⟩ := h1
   intro j
   unfold World.frozen?
   rw [hh]
   simp
 have hHg : ¬ H = g := by have := h.lo; omega
 have hgH : ¬ g = H := fun e => hHg e.symm
 have hH := h.few
 obtain ⟨qi, hqi⟩ : ∃ q, qs[i] = q := ⟨_, rfl⟩
 obtain ⟨qk, hqk⟩ : ∃ q, qs[k] = q := ⟨_, rfl⟩
 obtain ⟨⟨ai, bi, mi⟩, vi⟩ := qi
 obtain ⟨⟨ak, bk, mk⟩, vk⟩ := qk
 rw [hqi] at i0 i1 i2
 rw [hqk] at k0 k1 k2
 dsimp only at i0 i1 i2 k0 k1 k2
 obtain ⟨xa, xc, ei, _⟩ := h.ms _ (hqi ▸ List.getElem_mem hi)
 obtain ⟨ya, yc, ek, _⟩ := h.ms _ (hqk ▸ List.getElem_mem hk)
 dsimp only at ei ek
 subst ei ek
 have hi' : (i : Int) < (qs.length : Int) := by omega
 have hk' : (k : Int) < (qs.length : Int) := by omega
 have hb0 := hbx.2.1 0 _ rfl
 have hbl := hbx.1
 have HQI := hide hqi
 have HQK := hide hqk
 have HH := hide h
 have hgl2 := hgl.2
 have hgl1 := hgl.1
 clear hc hci hck hqi hqk h hbx hgl
 have hgi : qs.getD i noWv = (⟨ai, bi, mi⟩, .slice xa mi.length xc) := by rw [List.getD_eq_getElem?_getD, List.getElem?_eq_getElem hi]; exact unhide HQI
 have hgk : qs.getD k noWv = (⟨ak, bk, mk⟩, .slice ya mk.length yc) := by rw [List.getD_eq_getElem?_getD, List.getElem?_eq_getElem hk]; exact unhide HQK
 have HGI := hide hgi
 have HGK := hide hgk
 clear hgi hgk
 go_enter Tryz.func90, Tryz.ntmps90
 by_cases hik : i = k
 ·subst hik
  have e := (unhide HQI).symm.trans (unhide HQK)
  simp only [Prod.mk.injEq, Wh.mk.injEq, Value.slice.injEq] at e
  obtain ⟨⟨rfl, rfl, rfl⟩, rfl, _, rfl⟩ := e
  clear k0 k1 k2
  go_wp2_with fail
  go_region
  go_wp2_with fail
  go_end0
  exact ⟨rfl, swap_done (unhide HH) hi hk (unhide HGI) (unhide HGK)⟩
 ·have hki : ¬ k = i := fun e => hik e.symm
  have n00 : ¬ k * 3 = i * 3 := by omega
  have m00 : ¬ i * 3 = k * 3 := by omega
  have n01 : ¬ k * 3 = i * 3 + 1 := by omega
  have m10 : ¬ i * 3 + 1 = k * 3 := by omega
  have n02 : ¬ k * 3 = i * 3 + 2 := by omega
  have m20 : ¬ i * 3 + 2 = k * 3 := by omega
  have n10 : ¬ k * 3 + 1 = i * 3 := by omega
  have m01 : ¬ i * 3 = k * 3 + 1 := by omega
  have n11 : ¬ k * 3 + 1 = i * 3 + 1 := by omega
  have m11 : ¬ i * 3 + 1 = k * 3 + 1 := by omega
  have n12 : ¬ k * 3 + 1 = i * 3 + 2 := by omega
  have m21 : ¬ i * 3 + 2 = k * 3 + 1 := by omega
  have n20 : ¬ k * 3 + 2 = i * 3 := by omega
  have m02 : ¬ i * 3 = k * 3 + 2 := by omega
  have n21 : ¬ k * 3 + 2 = i * 3 + 1 := by omega
  have m12 : ¬ i * 3 + 1 = k * 3 + 2 := by omega
  have n22 : ¬ k * 3 + 2 = i * 3 + 2 := by omega
  have m22 : ¬ i * 3 + 2 = k * 3 + 2 := by omega
  go_wp2_with fail
  go_region
  go_wp2_with fail
  go_end0
  exact ⟨rfl, swap_done (unhide HH) hi hk (unhide HGI) (unhide HGK)⟩

end Go.Proofs.YtjacbppeebnjfaaGreat

