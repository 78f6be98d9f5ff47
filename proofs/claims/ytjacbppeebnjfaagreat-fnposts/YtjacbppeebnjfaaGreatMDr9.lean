import Derived.Test.YtjacbppeebnjfaaGreatMDr7
import Derived.Test.YtjacbppeebnjfaaGreatMSpec4
set_option linter.unusedSimpArgs false
namespace Go.Proofs.YtjacbppeebnjfaaGreat
open Go.RowKit

theorem keeps_but {C L : Nat} {w w' : World} (hb : But (fun k => k = C) w.heap.size w w') (hC : C < L) : Keeps L w w' := ⟨hb.size, fun k hk hlt => hb.block k hlt (show ¬ k = C by omega)⟩
theorem but_draw {C : Nat} {w0 w w' : World} (h : But (fun k => k = C) w0.heap.size w0 w) (ho : Only (fun k => k = C) w w') : But (fun k => k = C) w0.heap.size w0 w' := h.trans (but_only ho (fun _ _ e => e) h.size)
theorem but_then {C : Nat} {w0 w w' : World} (h : But (fun k => k = C) w0.heap.size w0 w) (hb : But (fun k => k = C) w.heap.size w w') : But (fun k => k = C) w0.heap.size w0 w' := h.trans (hb.mono h.size (fun _ _ e => e))
theorem but_below' {C : Nat} {w0 w w' : World} (h : But (fun k => k = C) w0.heap.size w0 w) (hb : Below w.heap.size w w') : But (fun k => k = C) w0.heap.size w0 w' := h.trans (but_below hb h.size)

def trackC (bs : List Int) (c : Cu) : Nt × Cu := if (pickC bs c 2).1 = 0 then stationC bs (pickC bs c 2).2 else netC bs (pickC bs c 2).2
theorem trackC_at (bs : List Int) (c : Cu) : (trackC bs c).2.at_ ≤ c.at_ + 410 := by
 have h1 := pickC_at bs c 2
 have h2 := stationC_at bs (pickC bs c 2).2
 have h3 := netC_at bs (pickC bs c 2).2
 unfold trackC
 split <;> omega

set_option maxRecDepth 100000 in
set_option maxHeartbeats 4000000 in
theorem track_any (C : Nat) (bs : List Int) (c : Cu) (w : World) (hcu : CurAt w C bs c) (hbs : BytesIn bs) (ha : c.at_ ≤ 1000000) :
  Calls Tryz.prog 10 #[.pointer (some ⟨C, 0, none⟩)] w (RetNet C bs (trackC bs c) w) := by
 have hCl := hcu.lt
 have hpa := pickC_at bs c 2
 have hpi := pickC_in bs c 2
 have HCU := hide hcu
 clear hcu
 have HT1 : Hid ((pickC bs c 2).1 = 0 → trackC bs c = stationC bs (pickC bs c 2).2) := fun h => by unfold trackC; rw [if_pos h]
 have HT2 : Hid (¬ (pickC bs c 2).1 = 0 → trackC bs c = netC bs (pickC bs c 2).2) := fun h => by unfold trackC; rw [if_neg h]
 go_enter Tryz.func10, Tryz.ntmps10
 go_wp2_with fail
 refine (pick_any C bs c 2 _ ((unhide HCU).below bw0) hbs (by omega) (by omega)).mono ?_
 rintro e w2 ⟨rfl, hcu2, ho2⟩
 obtain ⟨r, hr⟩ : ∃ r, (pickC bs c 2).1 = r := ⟨_, rfl⟩
 obtain ⟨c2, hc2⟩ : ∃ c2, (pickC bs c 2).2 = c2 := ⟨_, rfl⟩
 rw [hr] at hpi HT1 HT2 ⊢
 rw [hc2] at hpa hcu2 HT1 HT2
 clear hr hc2
 have hRb := (boxed_alloc w #[.slice none 0 0, .slice none 0 0] 26).onlyS ho2 (show ¬ w.heap.size = C by omega)
 have hB2 : But (fun k => k = C) w.heap.size w w2 := (but_below (bw0 : Below w.heap.size w _) (Nat.le_refl _)).trans (but_only ho2 (fun _ _ e => e) (by simp))
 have HCU2 := hide hcu2
 have HB2 := hide hB2
 clear hcu2 ho2 hB2
 have fin : ∀ (W : World) (n : Nt) (c3 : Cu) (a1 a2 : Option Addr) (k1 k2 : Nat), Boxed W w.heap.size [.slice none 0 0, .slice none 0 0] → NetAt w2.heap.size W (.agg #[.slice a1 n.pieces.length k1, .slice a2 n.joints.length k2]) n → CurAt W C bs c3 → But (fun k => k = C) w.heap.size w W → w.heap.size < w2.heap.size →
   NetAt w.heap.size ((W.setCell ⟨w.heap.size, 0, none⟩ (.slice a1 n.pieces.length k1)).setCell ⟨w.heap.size, 1, none⟩ (.slice a2 n.joints.length k2)) (.agg #[.slice a1 n.pieces.length k1, .slice a2 n.joints.length k2]) n ∧ CurAt ((W.setCell ⟨w.heap.size, 0, none⟩ (.slice a1 n.pieces.length k1)).setCell ⟨w.heap.size, 1, none⟩ (.slice a2 n.joints.length k2)) C bs c3 ∧ But (fun k => k = C) w.heap.size w ((W.setCell ⟨w.heap.size, 0, none⟩ (.slice a1 n.pieces.length k1)).setCell ⟨w.heap.size, 1, none⟩ (.slice a2 n.joints.length k2)) := by
  intro W n c3 a1 a2 k1 k2 hb hn hc hB hs
  refine ⟨((hn.keeps ((keeps_setCell _ (p := ⟨w.heap.size, 0, none⟩) hs _).trans (keeps_setCell _ (p := ⟨w.heap.size, 1, none⟩) hs _))).mono (by omega)), hc.of_below (U := C + 1) bw0 (by omega), (hB.trans (but_setCell _ (p := ⟨w.heap.size, 0, none⟩) (Or.inr (Nat.le_refl w.heap.size)) _)).trans (but_setCell _ (p := ⟨w.heap.size, 1, none⟩) (Or.inr (Nat.le_refl w.heap.size)) _)⟩
 have hs2 : w.heap.size < w2.heap.size := hRb.1
 by_cases h0 : r = 0
 ·subst h0
  go_wp2_with fail
  refine (station_any C bs c2 _ (unhide HCU2) hbs (by omega)).mono ?_
  rintro e w3 ⟨v, rfl, hn3, hcu3, hb3⟩
  obtain ⟨a1, a2, k1, k2, rfl, hp3⟩ := hn3
  have hR3 := hRb.blk hb3.size (hb3.block _ hs2 (show ¬ w.heap.size = C by omega))
  obtain ⟨g1, g2, g3⟩ := fin w3 _ _ a1 a2 k1 k2 hR3 ⟨a1, a2, k1, k2, rfl, hp3⟩ hcu3 (but_then (unhide HB2) hb3) hs2
  have hbf := (hR3.setI (i := 0) (by simp) (.slice a1 (stationC bs c2).1.pieces.length k1)).setI (i := 1) (by simp) (.slice a2 (stationC bs c2).1.joints.length k2)
  have HF := hide (And.intro (hbf.2.1 0 _ rfl) (hbf.2.1 1 _ rfl))
  have HG := hide (And.intro g1 (And.intro g2 g3))
  have r0 := hR3.2.1 0 _ rfl
  have r1 := hR3.2.1 1 _ rfl
  have rz := hR3.2.2
  have rl := hR3.1
  clear g1 g2 g3 hbf hR3 hp3 hcu3 hb3 fin
  go_wp2_with fail
  obtain ⟨f0, f1⟩ := unhide HF
  obtain ⟨g1, g2, g3⟩ := unhide HG
  refine bodyPost_ret (v := .agg #[.slice a1 (stationC bs c2).1.pieces.length k1, .slice a2 (stationC bs c2).1.joints.length k2]) (by simp [results, Tryz.results10, go_sem, f0, f1]) rfl ?_
  rw [unhide HT1 (by first | rfl | trivial)]
  exact ⟨_, rfl, g1, g2, g3⟩
 ·have h0' : (r == 0) = false := by rw [beq_eq_false_iff_ne]; exact h0
  go_wp2_with fail
  refine (net_any C bs c2 _ (unhide HCU2) hbs (by omega)).mono ?_
  rintro e w3 ⟨v, rfl, hn3, hcu3, hb3⟩
  obtain ⟨a1, a2, k1, k2, rfl, hp3⟩ := hn3
  have hR3 := hRb.blk hb3.size (hb3.block _ hs2 (show ¬ w.heap.size = C by omega))
  obtain ⟨g1, g2, g3⟩ := fin w3 _ _ a1 a2 k1 k2 hR3 ⟨a1, a2, k1, k2, rfl, hp3⟩ hcu3 (but_then (unhide HB2) hb3) hs2
  have hbf := (hR3.setI (i := 0) (by simp) (.slice a1 (netC bs c2).1.pieces.length k1)).setI (i := 1) (by simp) (.slice a2 (netC bs c2).1.joints.length k2)
  have HF := hide (And.intro (hbf.2.1 0 _ rfl) (hbf.2.1 1 _ rfl))
  have HG := hide (And.intro g1 (And.intro g2 g3))
  have r0 := hR3.2.1 0 _ rfl
  have r1 := hR3.2.1 1 _ rfl
  have rz := hR3.2.2
  have rl := hR3.1
  clear g1 g2 g3 hbf hR3 hp3 hcu3 hb3 fin
  go_wp2_with fail
  obtain ⟨f0, f1⟩ := unhide HF
  obtain ⟨g1, g2, g3⟩ := unhide HG
  refine bodyPost_ret (v := .agg #[.slice a1 (netC bs c2).1.pieces.length k1, .slice a2 (netC bs c2).1.joints.length k2]) (by simp [results, Tryz.results10, go_sem, f0, f1]) rfl ?_
  rw [unhide HT2 h0]
  exact ⟨_, rfl, g1, g2, g3⟩

def spotA (bs : List Int) (c : Cu) (k : Int) : Int × Cu :=
 if 0 < k ∧ k ≤ 10000000 then (if (pickC bs (wideC bs c (k + 1)).2 6).1 = 0 then (k * (pickC bs (pickC bs (wideC bs c (k + 1)).2 6).2 2).1, (pickC bs (pickC bs (wideC bs c (k + 1)).2 6).2 2).2) else ((wideC bs c (k + 1)).1, (pickC bs (wideC bs c (k + 1)).2 6).2)) else (0, c)
def spotB (bs : List Int) (c : Cu) (n : Nt) : Int × Int × Cu := ((pickC bs c n.pieces.length).1, 1 - 2 * (pickC bs (pickC bs c n.pieces.length).2 2).1, (pickC bs (pickC bs c n.pieces.length).2 2).2)
def spotE (bs : List Int) (n : Nt) (b : Int × Int × Cu) (a : Int × Cu) : Sp × Cu := (⟨b.1, if (pickC bs a.2 40).1 = 0 then lenOf n b.1 + 1 else a.1, b.2.1⟩, (pickC bs a.2 40).2)
def spotC (bs : List Int) (c : Cu) (n : Nt) : Sp × Cu := if n.pieces.length = 0 then (⟨0, 0, 1⟩, c) else spotE bs n (spotB bs c n) (spotA bs (spotB bs c n).2.2 (lenOf n (spotB bs c n).1))
theorem spotA_at (bs : List Int) (c : Cu) (k : Int) : (spotA bs c k).2.at_ ≤ c.at_ + 6 := by
 have h1 := wideC_at bs c (k + 1)
 have h2 := pickC_at bs (wideC bs c (k + 1)).2 6
 have h3 := pickC_at bs (pickC bs (wideC bs c (k + 1)).2 6).2 2
 unfold spotA
 split
 ·split <;> (dsimp only; omega)
 ·dsimp only; omega
theorem spotC_at (bs : List Int) (c : Cu) (n : Nt) : (spotC bs c n).2.at_ ≤ c.at_ + 12 := by
 unfold spotC
 split
 ·dsimp only; omega
 ·have h1 := pickC_at bs c n.pieces.length
  have h2 := pickC_at bs (pickC bs c n.pieces.length).2 2
  have h3 := spotA_at bs (spotB bs c n).2.2 (lenOf n (spotB bs c n).1)
  have h4 := pickC_at bs (spotA bs (spotB bs c n).2.2 (lenOf n (spotB bs c n).1)).2 40
  change (spotB bs c n).2.2.at_ ≤ _ at h2
  show (pickC bs (spotA bs (spotB bs c n).2.2 (lenOf n (spotB bs c n).1)).2 40).2.at_ ≤ _
  omega

def NetK (C : Nat) (w : World) (v : Value) (n : Nt) : Prop := ∀ w', But (fun k => k = C) w.heap.size w w' → NetAt 0 w' v n
def IntsK (C : Nat) (w : World) (a : Option Addr) (zs : List Int) : Prop := ∀ w', But (fun k => k = C) w.heap.size w w' → IntsAt 0 w' a zs
theorem netK_hi {C L : Nat} {w : World} {v : Value} {n : Nt} (h : NetAt L w v n) (hC : C < L) : NetK C w v n := fun _ hb => (h.keeps (keeps_but hb hC)).mono (Nat.zero_le _)
theorem netK_lo {C L : Nat} {w wm : World} {v : Value} {n : Nt} (h : NetAt L w v n) (hb : Below w.heap.size w wm) (hC : w.heap.size ≤ C) : NetK C wm v n := fun _ hb' =>
 (h.below (hb.trans (hb'.below hb.size (fun k hk (e : k = C) => by omega)))).mono (Nat.zero_le _)
theorem NetK.on {C : Nat} {w w1 : World} {v : Value} {n : Nt} (h : NetK C w v n) (hb : But (fun k => k = C) w.heap.size w w1) : NetK C w1 v n := fun w' hb' => h w' (but_then hb hb')
theorem NetK.now {C : Nat} {w : World} {v : Value} {n : Nt} (h : NetK C w v n) : NetAt 0 w v n := h w (But.refl _ _ _)
theorem IntsAt.mono {L L' : Nat} {w : World} {a : Option Addr} {zs : List Int} (h : IntsAt L w a zs) (hL : L' ≤ L) : IntsAt L' w a zs := fun i hi => by
 obtain ⟨b, off, e, hb, hc⟩ := h i hi
 exact ⟨b, off, e, ⟨by omega, hb.2⟩, hc⟩
theorem intsK_hi {C L : Nat} {w : World} {a : Option Addr} {zs : List Int} (h : IntsAt L w a zs) (hC : C < L) : IntsK C w a zs := fun _ hb => (h.keeps (keeps_but hb hC)).mono (Nat.zero_le _)
theorem intsK_lo {C L : Nat} {w wm : World} {a : Option Addr} {zs : List Int} (h : IntsAt L w a zs) (hb : Below w.heap.size w wm) (hC : w.heap.size ≤ C) : IntsK C wm a zs := fun _ hb' =>
 (IntsAt.below h (hb.trans (hb'.below hb.size (fun k hk (e : k = C) => by omega)))).mono (Nat.zero_le _)
theorem IntsK.on {C : Nat} {w w1 : World} {a : Option Addr} {zs : List Int} (h : IntsK C w a zs) (hb : But (fun k => k = C) w.heap.size w w1) : IntsK C w1 a zs := fun w' hb' => h w' (but_then hb hb')
theorem NetAt.pcs {L : Nat} {w : World} {a : Option Addr} {m ca : Nat} {v2 : Value} {n : Nt} (h : NetAt L w (.agg #[.slice a m ca, v2]) n) : PcsAt L w a n.pieces := by
 obtain ⟨a', c', ca', cc', e, hp, _⟩ := h
 simp only [Value.agg.injEq, Array.mk.injEq, List.cons.injEq, Value.slice.injEq] at e
 rw [e.1.1]
 exact hp

structure SpW (C X R : Nat) (bs : List Int) (w0 : World) (a : Option Addr) (n : Nt) (ca : Nat) (c : Cu) (w : World) : Prop where
 cur : CurAt w C bs c
 xb : ∃ b2, Boxed w X [.slice a n.pieces.length ca, b2]
 rb : Boxed w R [.int .i64 0, .int .i64 0, .int .i64 0]
 but : But (fun k => k = C) w0.heap.size w0 w
theorem SpW.draw {C X R : Nat} {bs : List Int} {w0 w w' : World} {a : Option Addr} {n : Nt} {ca : Nat} {c c' : Cu} (h : SpW C X R bs w0 a n ca c w) (ho : Only (fun k => k = C) w w') (hc : CurAt w' C bs c') (hX : C < w0.heap.size ∧ w0.heap.size ≤ X) (hR : w0.heap.size ≤ R) : SpW C X R bs w0 a n ca c' w' := by
 obtain ⟨b2, hb⟩ := h.xb
 exact ⟨hc, ⟨b2, hb.onlyS ho (show ¬ X = C by omega)⟩, h.rb.onlyS ho (show ¬ R = C by omega), but_draw h.but ho⟩
end Go.Proofs.YtjacbppeebnjfaaGreat

set_option linter.unusedSimpArgs false
namespace Go.Proofs.YtjacbppeebnjfaaGreat
open Go.RowKit

def LensOk (n : Nt) : Prop := ∀ i (h : i < n.pieces.length), -100000000 ≤ n.pieces[i].len ∧ n.pieces[i].len ≤ 100000000
theorem LensOk.lenOf {n : Nt} (h : LensOk n) (p : Int) : -100000000 ≤ lenOf n p ∧ lenOf n p ≤ 100000000 := by
 unfold Go.Proofs.YtjacbppeebnjfaaGreat.lenOf
 by_cases hp : p.toNat < n.pieces.length
 ·rw [List.getElem?_eq_getElem hp]
  exact h _ hp
 ·rw [List.getElem?_eq_none (by omega)]
  exact ⟨by decide, by decide⟩
def spV (s : Sp) : Value := .agg #[.int .i64 s.piece, .int .i64 s.at_, .int .i64 s.way]
structure SpX (C R S : Nat) (bs : List Int) (w0 : World) (p at_ way : Int) (c : Cu) (w : World) : Prop where
 cur : CurAt w C bs c
 rb : Boxed w R [.int .i64 0, .int .i64 0, .int .i64 0]
 sb : Boxed w S [.int .i64 p, .int .i64 at_, .int .i64 way]
 but : But (fun k => k = C) w0.heap.size w0 w
theorem SpX.draw {C R S : Nat} {bs : List Int} {w0 w w' : World} {p at_ way : Int} {c c' : Cu} (h : SpX C R S bs w0 p at_ way c w) (ho : Only (fun k => k = C) w w') (hc : CurAt w' C bs c') (hR : C < R) (hS : C < S) : SpX C R S bs w0 p at_ way c' w' :=
 ⟨hc, h.rb.onlyS ho (show ¬ R = C by omega), h.sb.onlyS ho (show ¬ S = C by omega), but_draw h.but ho⟩
theorem SpX.put {C R S : Nat} {bs : List Int} {w0 w : World} {p at_ way : Int} {c : Cu} (h : SpX C R S bs w0 p at_ way c w) (hR : R < S) (hS : C < S) (h0 : w0.heap.size ≤ S) (x : Int) : SpX C R S bs w0 p x way c (w.setCell ⟨S, 1, none⟩ (.int .i64 x)) :=
 ⟨h.cur.of_below (U := C + 1) bw0 (by omega), h.rb.apart (p := ⟨S, 1, none⟩) (show R ≠ S by omega) _, h.sb.setI (i := 1) (by simp) _, h.but.trans (but_setCell _ (Or.inr h0) _)⟩

set_option maxRecDepth 100000 in
set_option maxHeartbeats 8000000 in
theorem spot_any (C : Nat) (bs : List Int) (c : Cu) (v : Value) (n : Nt) (w : World) (hcu : CurAt w C bs c) (hbs : BytesIn bs) (ha : c.at_ ≤ 1000000) (hv : NetK C w v n) (hl : n.pieces.length ≤ 1000000) (hlen : LensOk n) :
  Calls Tryz.prog 33 #[.pointer (some ⟨C, 0, none⟩), v] w fun e w' => e = .returned (spV (spotC bs c n).1) ∧ CurAt w' C bs (spotC bs c n).2 ∧ But (fun k => k = C) w.heap.size w w' := by
 have hCl := hcu.lt
 have HCU := hide hcu
 clear hcu
 have HNK := hide hv
 obtain ⟨a, a2, ca, cc, rfl, _, _⟩ := hv.now
 have HLEN := hide hlen
 clear hlen hv
 go_enter Tryz.func33, Tryz.ntmps33
 obtain ⟨m, hm⟩ : ∃ m, n.pieces.length = m := ⟨_, rfl⟩
 have HS0 : Hid (SpW C w.heap.size (w.heap.size + 1) bs w a n ca c ((w.alloc (.cells #[.slice a m ca, .slice a2 n.joints.length cc] 26)).alloc (.cells #[.int .i64 0, .int .i64 0, .int .i64 0] 29))) := by
  rw [← hm]
  exact ⟨(unhide HCU).below bw0, ⟨_, (boxed_alloc w #[.slice a n.pieces.length ca, .slice a2 n.joints.length cc] 26).alloc _⟩, boxedN _ _ _ (by simp), but_below bw0 (Nat.le_refl _)⟩
 rw [hm] at hl ⊢
 have HM := hide hm
 clear hm
 by_cases hz : m = 0
 ·subst hz
  have hres : spotC bs c n = (⟨0, 0, 1⟩, c) := by unfold spotC; rw [if_pos (unhide HM)]
  rw [hres]
  clear hres HS0
  go_wp2_with fail
  refine bodyPost_ret (v := .agg #[.int .i64 0, .int .i64 0, .int .i64 1]) (by simp [results, Tryz.results33, go_sem]) rfl ?_
  exact ⟨rfl, (unhide HCU).of_below (U := w.heap.size) bw0 hCl, but_below (U := w.heap.size) bw0 (Nat.le_refl _)⟩
 ·have hz' : ((m : Int) == 0) = false := by rw [beq_eq_false_iff_ne]; omega
  have hpi := pickC_in bs c m
  have hpa := pickC_at bs c m
  have HRES : Hid (spotC bs c n = spotE bs n (spotB bs c n) (spotA bs (spotB bs c n).2.2 (lenOf n (spotB bs c n).1))) := by unfold Hid spotC; rw [if_neg (by rw [unhide HM]; exact hz)]
  have HSB : Hid (spotB bs c n = ((pickC bs c m).1, 1 - 2 * (pickC bs (pickC bs c m).2 2).1, (pickC bs (pickC bs c m).2 2).2)) := by unfold Hid spotB; rw [unhide HM]
  obtain ⟨p, hp⟩ : ∃ p : Nat, (pickC bs c m).1 = p := ⟨(pickC bs c m).1.toNat, by omega⟩
  obtain ⟨c1, hc1⟩ : ∃ c1, (pickC bs c m).2 = c1 := ⟨_, rfl⟩
  rw [hp] at hpi HSB
  rw [hc1] at hpa HSB
  have hpi2 := pickC_in bs c1 2
  have hpa2 := pickC_at bs c1 2
  obtain ⟨q, hq⟩ : ∃ q : Nat, (pickC bs c1 2).1 = q := ⟨(pickC bs c1 2).1.toNat, by omega⟩
  obtain ⟨c2, hc2⟩ : ∃ c2, (pickC bs c1 2).2 = c2 := ⟨_, rfl⟩
  rw [hq] at hpi2 HSB
  rw [hc2] at hpa2 HSB
  have HP1 := hide (And.intro hp hc1)
  have HP2 := hide (And.intro hq hc2)
  clear hp hc1 hq hc2
  have hpm : p < m := by omega
  obtain ⟨k, hk⟩ : ∃ k, lenOf n p = k := ⟨_, rfl⟩
  have hkb : -100000000 ≤ k ∧ k ≤ 100000000 := by rw [← hk]; exact (unhide HLEN).lenOf p
  rw [unhide HSB] at HRES
  dsimp only at HRES
  rw [hk] at HRES
  obtain ⟨way, hway⟩ : ∃ way : Int, 1 - 2 * (q : Int) = way := ⟨_, rfl⟩
  rw [hway] at HRES
  have hw1 : IntKind.i64.wrap (2 * (q : Int)) = 2 * q := wrap_small (by omega) (by omega)
  have hw2 : IntKind.i64.wrap (1 - 2 * (q : Int)) = way := (wrap_small (by omega) (by omega)).trans hway
  have hwb : -10 ≤ way ∧ way ≤ 10 := by omega
  have HWAY := hide hway
  have HKK := hide hk
  clear hway hk HSB
  go_wp2_with fail
  refine (pick_any C bs c m _ (unhide HS0).cur hbs (by omega) (by omega)).mono ?_
  rw [(unhide HP1).1, (unhide HP1).2]
  rintro e wA ⟨rfl, hcuA, hoA⟩
  have HSA := hide ((unhide HS0).draw hoA hcuA (by omega) (by omega))
  clear hcuA hoA HS0
  obtain ⟨pb, poff, hae, hpb, c1w⟩ := (unhide HNK wA (unhide HSA).but).pcs.len (n := n) (p := p) (by omega) (by rw [unhide HM]; omega)
  rw [unhide HKK, Int.toNat_natCast] at c1w
  obtain ⟨b2, hXb⟩ := (unhide HSA).xb
  rw [unhide HM] at hXb
  have x0 := hXb.2.1 0 _ rfl
  have xl := hXb.1
  rw [hae] at x0
  have hpm' : (p : Int) < (m : Int) := by omega
  clear hXb
  go_wp2_with fail
  refine (pick_any C bs c1 2 _ (unhide HSA).cur hbs (by omega) (by omega)).mono ?_
  rw [(unhide HP2).1, (unhide HP2).2]
  rintro e wB ⟨rfl, hcuB, hoB⟩
  have hSB := (unhide HSA).draw hoB hcuB (by omega) (by omega)
  have hsB : w.heap.size + 1 < wB.heap.size := hSB.rb.1
  have HX0 : Hid (SpX C (w.heap.size + 1) wB.heap.size bs w p 0 way c2 (wB.alloc (.cells #[.int .i64 p, .int .i64 0, .int .i64 way] 29))) := ⟨hSB.cur.below bw0, hSB.rb.alloc _, boxed_alloc _ _ _, but_below' hSB.but bw0⟩
  clear hcuB hoB HSA hSB x0 xl c1w hpb HNK HCU
  obtain ⟨R, hR⟩ : ∃ R, w.heap.size + 1 = R := ⟨_, rfl⟩
  have hRw : w.heap.size ≤ R ∧ C < R := by omega
  rw [hR] at HX0 hsB ⊢
  clear hR
  obtain ⟨S, hS⟩ : ∃ S, wB.heap.size = S := ⟨_, rfl⟩
  go_upto_region 6 with fail
  rw [hS] at HX0 hsB
  obtain ⟨wC, hwC⟩ : ∃ wC, wB.alloc (.cells #[.int .i64 p, .int .i64 0, .int .i64 way] 29) = wC := ⟨_, rfl⟩
  rw [hwC] at HX0 ⊢
  clear hwC hS
  go_cut [35] (fun t wx => t = .bool (decide (0 < k ∧ k ≤ 10000000)) ∧ wx = wC)
  case first =>
   by_cases h1 : 0 < k
   ·by_cases h2 : k ≤ 10000000
    ·go_wp2_with fail
     go_meet
     exact ⟨by rw [decide_eq_true ⟨h1, h2⟩], rfl⟩
    ·go_wp2_with fail
     go_meet
     exact ⟨by rw [decide_eq_false (by omega)], rfl⟩
   ·go_wp2_with fail
    go_meet
    exact ⟨by rw [decide_eq_false (by omega)], rfl⟩
  case rest =>
   obtain ⟨rfl, hwcC⟩ := hcut
   rw [hwcC]
   clear hwcC
   have hSw : w.heap.size ≤ S ∧ C < S ∧ R < S := by omega
   have hSR : ¬ S = R := by omega
   have hRS : ¬ R = S := by omega
   have hca := spotA_at bs c2 k
   have HA1 : 0 < k ∧ k ≤ 10000000 → Hid (spotA bs c2 k = if (pickC bs (wideC bs c2 (k + 1)).2 6).1 = 0 then (k * (pickC bs (pickC bs (wideC bs c2 (k + 1)).2 6).2 2).1, (pickC bs (pickC bs (wideC bs c2 (k + 1)).2 6).2 2).2) else ((wideC bs c2 (k + 1)).1, (pickC bs (wideC bs c2 (k + 1)).2 6).2)) := fun h => by unfold Hid spotA; rw [if_pos h]
   have HA2 : ¬ (0 < k ∧ k ≤ 10000000) → Hid (spotA bs c2 k = (0, c2)) := fun h => by unfold Hid spotA; rw [if_neg h]
   obtain ⟨sa, hsa⟩ : ∃ sa, spotA bs c2 k = sa := ⟨_, rfl⟩
   rw [hsa] at hca HA1 HA2 HRES
   clear hsa
   go_upto_if 35 with fail
   go_cut [6] (fun z wx => z = .int .i64 k ∧ Hid (SpX C R S bs w p sa.1 way sa.2 wx))
   case first =>
    by_cases hin : 0 < k ∧ k ≤ 10000000
    ·have HA := HA1 hin
     clear HA1 HA2
     rw [decide_eq_true hin]
     have hw3 : IntKind.i64.wrap (k + 1) = k + 1 := wrap_small (by omega) (by omega)
     have hwi := wideC_in bs c2 (show (0 : Int) < k + 1 by omega)
     have hwa := wideC_at bs c2 (k + 1)
     obtain ⟨r1, hr1⟩ : ∃ r, (wideC bs c2 (k + 1)).1 = r := ⟨_, rfl⟩
     obtain ⟨c3, hc3⟩ : ∃ c3, (wideC bs c2 (k + 1)).2 = c3 := ⟨_, rfl⟩
     rw [hr1] at hwi HA
     rw [hc3] at hwa HA
     have hqi := pickC_in bs c3 6
     have hqa := pickC_at bs c3 6
     obtain ⟨r2, hr2⟩ : ∃ r, (pickC bs c3 6).1 = r := ⟨_, rfl⟩
     obtain ⟨c4, hc4⟩ : ∃ c4, (pickC bs c3 6).2 = c4 := ⟨_, rfl⟩
     rw [hr2] at hqi HA
     rw [hc4] at hqa HA
     have hti := pickC_in bs c4 2
     obtain ⟨r3, hr3⟩ : ∃ r, (pickC bs c4 2).1 = r := ⟨_, rfl⟩
     obtain ⟨c5, hc5⟩ : ∃ c5, (pickC bs c4 2).2 = c5 := ⟨_, rfl⟩
     rw [hr3] at hti HA
     rw [hc5] at HA
     have HR1 := hide (And.intro hr1 hc3)
     have HR2 := hide (And.intro hr2 hc4)
     have HR3 := hide (And.intro hr3 hc5)
     clear hr1 hc3 hr2 hc4 hr3 hc5
     go_wp2_with fail
     refine (wide_any C bs c2 (k + 1) _ (unhide HX0).cur hbs (by omega) ⟨by omega, by omega⟩).mono ?_
     rw [(unhide HR1).1, (unhide HR1).2]
     rintro e wD ⟨rfl, hcuD, hoD⟩
     have hXD := (unhide HX0).draw hoD hcuD (by omega) (by omega)
     have s1 := hXD.sb.2.1 1 _ rfl
     have sz := hXD.sb.2.2
     have sl := hXD.sb.1
     have HXD := hide (hXD.put (by omega) (by omega) (by omega) r1)
     clear hcuD hoD hXD HX0
     go_wp2_with fail
     clear s1 sz sl
     obtain ⟨wE, hwE⟩ : ∃ wE, wD.setCell ⟨S, 1, none⟩ (.int .i64 r1) = wE := ⟨_, rfl⟩
     rw [hwE] at HXD ⊢
     clear hwE
     refine (pick_any C bs c3 6 _ (unhide HXD).cur hbs (by omega) (by omega)).mono ?_
     rw [(unhide HR2).1, (unhide HR2).2]
     rintro e wF ⟨rfl, hcuF, hoF⟩
     have HXF := hide ((unhide HXD).draw hoF hcuF (by omega) (by omega))
     clear hcuF hoF HXD
     by_cases hz2 : r2 = 0
     ·have HA' : Hid (sa = (k * r3, c5)) := by have := unhide HA; rw [if_pos hz2] at this; exact this
      clear HA
      subst hz2
      go_wp2_with fail
      refine (pick_any C bs c4 2 _ (unhide HXF).cur hbs (by omega) (by omega)).mono ?_
      rw [(unhide HR3).1, (unhide HR3).2]
      rintro e wG ⟨rfl, hcuG, hoG⟩
      have hXG := (unhide HXF).draw hoG hcuG (by omega) (by omega)
      have hmul : IntKind.i64.wrap (k * r3) = k * r3 := by
       have : r3 = 0 ∨ r3 = 1 := by omega
       rcases this with h | h <;> rw [h] <;> exact wrap_small (by omega) (by omega)
      have s1 := hXG.sb.2.1 1 _ rfl
      have sz := hXG.sb.2.2
      have sl := hXG.sb.1
      have HXG := hide (hXG.put (by omega) (by omega) (by omega) (k * r3))
      clear hcuG hoG hXG HXF
      go_wp2_with fail
      go_meet
      refine ⟨rfl, ?_⟩
      rw [unhide HA']
      exact HXG
     ·have HA' : Hid (sa = (r1, c4)) := by have := unhide HA; rw [if_neg hz2] at this; exact this
      clear HA
      have hz2' : (r2 == 0) = false := by rw [beq_eq_false_iff_ne]; exact hz2
      go_wp2_with fail
      go_meet
      refine ⟨rfl, ?_⟩
      rw [unhide HA']
      exact HXF
    ·have HA := HA2 hin
     clear HA1 HA2
     rw [decide_eq_false hin]
     go_wp2_with fail
     go_meet
     refine ⟨rfl, ?_⟩
     rw [unhide HA]
     exact HX0
   case rest =>
    obtain ⟨rfl, HX1⟩ := hcut
    clear HX0 HA1 HA2
    have hfi := pickC_in bs sa.2 40
    have HRES2 : Hid (spotC bs c n = (⟨p, if (pickC bs sa.2 40).1 = 0 then k + 1 else sa.1, way⟩, (pickC bs sa.2 40).2)) := by rw [unhide HRES]; unfold Hid spotE; rw [unhide HKK]
    clear HRES
    obtain ⟨r4, hr4⟩ : ∃ r, (pickC bs sa.2 40).1 = r := ⟨_, rfl⟩
    obtain ⟨c6, hc6⟩ : ∃ c6, (pickC bs sa.2 40).2 = c6 := ⟨_, rfl⟩
    rw [hr4] at hfi HRES2
    rw [hc6] at HRES2
    have HR4 := hide (And.intro hr4 hc6)
    clear hr4 hc6
    have hw4 : IntKind.i64.wrap (k + 1) = k + 1 := wrap_small (by omega) (by omega)
    go_wp2_with fail
    refine (pick_any C bs sa.2 40 _ (unhide HX1).cur hbs (by omega) (by omega)).mono ?_
    rw [(unhide HR4).1, (unhide HR4).2]
    rintro e wH ⟨rfl, hcuH, hoH⟩
    have HXH := hide ((unhide HX1).draw hoH hcuH (by omega) (by omega))
    clear hcuH hoH HX1
    obtain ⟨s0v, hs0v⟩ : ∃ x : Int, sa.1 = x := ⟨_, rfl⟩
    rw [hs0v] at HXH HRES2
    clear hs0v
    go_upto_if 51 with fail
    go_cut [6] (fun z wx => z = .int .i64 k ∧ Hid (SpX C R S bs w p (if r4 = 0 then k + 1 else s0v) way c6 wx))
    case first =>
     by_cases hz4 : r4 = 0
     ·subst hz4
      have s1 := (unhide HXH).sb.2.1 1 _ rfl
      have sz := (unhide HXH).sb.2.2
      have sl := (unhide HXH).sb.1
      have HXI := hide ((unhide HXH).put (by omega) (by omega) (by omega) (k + 1))
      clear HXH
      go_wp2_with fail
      go_meet
      exact ⟨rfl, HXI⟩
     ·have hz4' : (r4 == 0) = false := by rw [beq_eq_false_iff_ne]; exact hz4
      go_wp2_with fail
      go_meet
      refine ⟨rfl, ?_⟩
      rw [if_neg hz4]
      exact HXH
    case rest =>
     obtain ⟨rfl, HXZ⟩ := hcut
     clear HXH
     obtain ⟨at9, hat9⟩ : ∃ x : Int, (if r4 = 0 then k + 1 else s0v) = x := ⟨_, rfl⟩
     rw [hat9] at HXZ HRES2
     clear hat9
     have hXZ := unhide HXZ
     have s0 := hXZ.sb.2.1 0 _ rfl
     have s1 := hXZ.sb.2.1 1 _ rfl
     have s2 := hXZ.sb.2.1 2 _ rfl
     have sl := hXZ.sb.1
     have r0 := hXZ.rb.2.1 0 _ rfl
     have r1 := hXZ.rb.2.1 1 _ rfl
     have r2 := hXZ.rb.2.1 2 _ rfl
     have rz := hXZ.rb.2.2
     have rl := hXZ.rb.1
     have hbf := ((hXZ.rb.setI (i := 0) (by simp) (.int .i64 p)).setI (i := 1) (by simp) (.int .i64 at9)).setI (i := 2) (by simp) (.int .i64 way)
     have HF := hide (And.intro (hbf.2.1 0 _ rfl) (And.intro (hbf.2.1 1 _ rfl) (hbf.2.1 2 _ rfl)))
     clear hbf hXZ
     go_wp2_with fail
     obtain ⟨f0, f1, f2⟩ := unhide HF
     refine bodyPost_ret (v := .agg #[.int .i64 p, .int .i64 at9, .int .i64 way]) (by simp [results, Tryz.results33, go_sem, f0, f1, f2]) rfl ?_
     rw [unhide HRES2]
     exact ⟨rfl, (unhide HXZ).cur.of_below (U := C + 1) bw0 (by omega), (((unhide HXZ).but.trans (but_setCell _ (p := ⟨R, 0, none⟩) (Or.inr hRw.1) _)).trans (but_setCell _ (p := ⟨R, 1, none⟩) (Or.inr hRw.1) _)).trans (but_setCell _ (p := ⟨R, 2, none⟩) (Or.inr hRw.1) _)⟩
end Go.Proofs.YtjacbppeebnjfaaGreat

