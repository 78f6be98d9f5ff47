import Derived.Test.YtbdggfpfpjijoaaGreatDoorMIr
import Derived.Test.YtbdggfpfpjijoaaGreatDoorSp7
set_option linter.unusedSimpArgs false
namespace Go.Proofs.YtbdggfpfpjijoaaGreatDoor
open Go.RowKit

def trC (t : Tr) (a : Option Addr) (cap : Nat) : List Value := [.int .i64 t.front.piece, .int .i64 t.front.at_, .int .i64 t.front.way, .int .i64 t.long, .slice a t.back.length cap]
theorem StsAt.monoL {L L' : Nat} {w : World} {a : Option Addr} {xs : List St} (h : StsAt L w a xs) (hl : L' ≤ L) : StsAt L' w a xs := fun i hi => by
 obtain ⟨b, off, e, hb, d⟩ := h i hi
 exact ⟨b, off, e, ⟨by omega, hb.2⟩, d⟩
structure TW (C : Nat) (bs : List Int) (wb : World) (R S N : Nat) (wn : World) (u v : Value) (n : Nt) (K : Nat) (t : Tr) (a : Option Addr) (cap : Nat) (c : Cu) (w : World) : Prop where
 nw : NW C bs wb R N wb.heap.size u v n K c w
 sb : Boxed w S [.int .i64 0, .int .i64 0, .int .i64 0, .int .i64 0, .slice none 0 0]
 tb : Boxed w wn.heap.size (trC t a cap)
 sts : StsAt wb.heap.size w a t.back
 bl : t.back.length ≤ 210 ∧ t.back.length ≤ cap
 kp : ∀ k, wb.heap.size ≤ k → k < wn.heap.size → w.heap[k]? = wn.heap[k]?
 n0 : NetAt wb.heap.size wn (.agg #[u, v]) n
 ord : S ≠ C ∧ S < wb.heap.size ∧ wb.heap.size ≤ wn.heap.size ∧ S ≠ R ∧ N < wn.heap.size
theorem TW.on {C : Nat} {bs : List Int} {wb : World} {R S N : Nat} {wn : World} {u v : Value} {n : Nt} {K : Nat} {t : Tr} {a : Option Addr} {cap : Nat} {c c' : Cu} {w w' : World} (h : TW C bs wb R S N wn u v n K t a cap c w) (hc : CurAt w' C bs c') (hb : But (fun k => k = C) w.heap.size w w') : TW C bs wb R S N wn u v n K t a cap c' w' :=
 have hl := h.nw.lt
 have ho := h.ord
 have hT := h.tb.1
 ⟨h.nw.on hc hb, h.sb.but hb h.sb.1 ho.1, h.tb.but hb h.tb.1 (fun e => by omega), h.sts.keeps (keeps_but hb hl.1), h.bl, fun k hk hk' => (hb.block k (by omega) (fun e => by omega)).trans (h.kp k hk hk'), h.n0, ho⟩
theorem TW.pick {C : Nat} {bs : List Int} {wb : World} {R S N : Nat} {wn : World} {u v : Value} {n : Nt} {K : Nat} {t : Tr} {a : Option Addr} {cap : Nat} {c c' : Cu} {w w' : World} (h : TW C bs wb R S N wn u v n K t a cap c w) (hc : CurAt w' C bs c') (ho : Only (fun k => k = C) w w') : TW C bs wb R S N wn u v n K t a cap c' w' := h.on hc (but_of_only ho)
theorem TW.cur' {C : Nat} {bs : List Int} {wb : World} {R S N : Nat} {wn : World} {u v : Value} {n : Nt} {K : Nat} {t : Tr} {a : Option Addr} {cap : Nat} {c : Cu} {w : World} (h : TW C bs wb R S N wn u v n K t a cap c w) : CurAt w C bs c := h.nw.cur
theorem TW.put {C : Nat} {bs : List Int} {wb : World} {R S N : Nat} {wn : World} {u v : Value} {n : Nt} {K : Nat} {t t' : Tr} {a a' : Option Addr} {cap cap' : Nat} {c c' : Cu} {w w' : World} (h : TW C bs wb R S N wn u v n K t a cap c w) (hc : CurAt w' C bs c') (hb : But (fun k => k = C) w.heap.size w w') (hs : StsAt w.heap.size w' a' t'.back) (hK : t'.back.length ≤ 210 ∧ t'.back.length ≤ cap') :
  TW C bs wb R S N wn u v n K t' a' cap' c' (((((w'.setCell ⟨wn.heap.size, 0, none⟩ (.int .i64 t'.front.piece)).setCell ⟨wn.heap.size, 1, none⟩ (.int .i64 t'.front.at_)).setCell ⟨wn.heap.size, 2, none⟩ (.int .i64 t'.front.way)).setCell ⟨wn.heap.size, 3, none⟩ (.int .i64 t'.long)).setCell ⟨wn.heap.size, 4, none⟩ (.slice a' t'.back.length cap')) := by
 have hl := h.nw.lt
 have hd := h.ord
 have hT := h.tb.1
 have h1 := h.on hc hb
 have hO : ∀ (W : World) (i : Nat) (y : Value), Only (fun k => k = wn.heap.size) W (W.setCell ⟨wn.heap.size, i, none⟩ y) := fun W i y => only_setCell (S := fun k => k = wn.heap.size) W (p := ⟨wn.heap.size, i, none⟩) rfl y
 have ho := ((((hO w' 0 (.int .i64 t'.front.piece)).trans (hO _ 1 (.int .i64 t'.front.at_))).trans (hO _ 2 (.int .i64 t'.front.way))).trans (hO _ 3 (.int .i64 t'.long))).trans (hO _ 4 (.slice a' t'.back.length cap'))
 have hwb := h1.nw.but.size
 have hT1 := h1.tb.1
 have hs1 := ho.size
 have hkp : ∀ k, wb.heap.size ≤ k → k < wn.heap.size → _ := fun k hk hk' => (ho.block k (by omega) (fun e => by omega)).trans (h1.kp k hk hk')
 exact ⟨⟨hc.of_below (ho.below (B := C + 1) (by have := hc.lt; omega) (fun k hk e => by omega)) (by omega), h1.nw.but.trans (but_only ho (fun k hk e => by omega) hwb), h1.nw.rb.onlyS ho (fun e => by omega), h1.nw.nb.onlyS ho (fun e => by omega), h.n0.keeps ⟨by omega, hkp⟩, h1.nw.small, hl⟩, h1.sb.onlyS ho (fun e => by omega), ((((h1.tb.setI (i := 0) (by simp [trC]) _).setI (i := 1) (by simp [trC]) _).setI (i := 2) (by simp [trC]) _).setI (i := 3) (by simp [trC]) _).setI (i := 4) (by simp [trC]) _, (hs.keeps ⟨ho.size, fun k hk hlt => ho.block k hlt (fun e => by omega)⟩).monoL (by have := h.nw.but.size; omega), hK, hkp, h.n0, hd⟩

theorem cur_far {S : Nat → Prop} {w w' : World} {C : Nat} {bs : List Int} {c : Cu} (h : CurAt w C bs c) (ho : Only S w w') (hC : ¬ S C) (hS : ∀ k, S k → ∃ cs T, w.heap[k]? = some (.cells cs T) ∧ ∀ (j : Nat) (x : Int), cs[j]? ≠ some (.int .u8 x)) : CurAt w' C bs c := by
 obtain ⟨a, cap, h1, h2⟩ := h
 refine ⟨a, cap, h1.onlyS ho hC, fun i hi => ?_⟩
 obtain ⟨b, off, e, hb, hc, hr⟩ := h2 i hi
 have hn : ¬ S b := fun hs => by
  obtain ⟨cs, T, hh, hno⟩ := hS b hs
  refine hno (off + i) bs[i] ?_
  unfold World.cell? at hc
  rw [hh] at hc
  simpa using hc
 exact ⟨b, off, e, ⟨hb.1, Nat.lt_of_lt_of_le hb.2 ho.size⟩, (World.cell?_of_block (w := w) (a := ⟨b, off + i, none⟩) (ho.block b hb.2 hn)).trans hc, hr⟩
theorem two_ret {w w' : World} {R : Nat} {u v : Value} {t : Tr} {a : Option Addr} {cap : Nat} (hr : Boxed w R [.slice none 0 0, .slice none 0 0]) (hs : Boxed w (R + 1) [.int .i64 0, .int .i64 0, .int .i64 0, .int .i64 0, .slice none 0 0]) (hw : ((((((w.setCell ⟨R, 0, none⟩ u).setCell ⟨R, 1, none⟩ v).setCell ⟨R + 1, 0, none⟩ (.int .i64 t.front.piece)).setCell ⟨R + 1, 1, none⟩ (.int .i64 t.front.at_)).setCell ⟨R + 1, 2, none⟩ (.int .i64 t.front.way)).setCell ⟨R + 1, 3, none⟩ (.int .i64 t.long)).setCell ⟨R + 1, 4, none⟩ (.slice a t.back.length cap) = w') :
  Only (fun k => k = R ∨ k = R + 1) w w' ∧ Boxed w' R [u, v] ∧ Boxed w' (R + 1) (trC t a cap) := by
 subst hw
 have hO : ∀ (W : World) (p : Addr) (y : Value), (p.block = R ∨ p.block = R + 1) → Only (fun k => k = R ∨ k = R + 1) W (W.setCell p y) := fun W p y hp => only_setCell (S := fun k => k = R ∨ k = R + 1) W hp y
 have n1 : R + 1 ≠ R := by omega
 have n2 : R ≠ R + 1 := by omega
 refine ⟨((((((hO w ⟨R, 0, none⟩ u (Or.inl rfl)).trans (hO _ ⟨R, 1, none⟩ v (Or.inl rfl))).trans (hO _ ⟨R + 1, 0, none⟩ _ (Or.inr rfl))).trans (hO _ ⟨R + 1, 1, none⟩ _ (Or.inr rfl))).trans (hO _ ⟨R + 1, 2, none⟩ _ (Or.inr rfl))).trans (hO _ ⟨R + 1, 3, none⟩ _ (Or.inr rfl))).trans (hO _ ⟨R + 1, 4, none⟩ _ (Or.inr rfl)), ?_, ?_⟩
 ·exact ((((((hr.setI (i := 0) (by simp) u).setI (i := 1) (by simp) v).apart (p := ⟨R + 1, 0, none⟩) n2 _).apart (p := ⟨R + 1, 1, none⟩) n2 _).apart (p := ⟨R + 1, 2, none⟩) n2 _).apart (p := ⟨R + 1, 3, none⟩) n2 _).apart (p := ⟨R + 1, 4, none⟩) n2 _
 ·exact ((((((hs.apart (p := ⟨R, 0, none⟩) n1 u).apart (p := ⟨R, 1, none⟩) n1 v).setI (i := 0) (by simp) _).setI (i := 1) (by simp) _).setI (i := 2) (by simp) _).setI (i := 3) (by simp) _).setI (i := 4) (by simp) _
def RetBo (bs : List Int) (w : World) (e : Ending) (w' : World) : Prop := ∃ u v n z t a cap C c', e = .returned (.tuple #[.agg #[u, v], z, trV t a cap, .pointer (some ⟨C, 0, none⟩)]) ∧ NetAt (C + 1) w' (.agg #[u, v]) n ∧ NtB n 1300 ∧ StsAt (C + 1) w' a t.back ∧ (t.back.length ≤ 210 ∧ t.back.length ≤ cap) ∧ CurAt w' C bs c' ∧ c'.at_ ≤ 200000 ∧ w.heap.size ≤ C ∧ Below w.heap.size w w'

set_option maxRecDepth 100000 in
set_option maxHeartbeats 8000000 in
theorem l5both_any (bs : List Int) (ba : Option Addr) (bcap : Nat) (w : World) (hba : BytesAt w.heap.size w ba bs) (hbs : BytesIn bs) :
  Calls Tryz.prog 74 #[.slice ba bs.length bcap] w (RetBo bs w) := by
 have HBA := hide hba
 clear hba
 go_enter Tryz.func74, Tryz.ntmps74
 go_wp2_with fail
 have hbR : Below w.heap.size w ((w.alloc (.cells #[.slice none 0 0, .slice none 0 0] 26)).alloc (.cells #[.int .i64 0, .int .i64 0, .int .i64 0, .int .i64 0, .slice none 0 0] 32)) := bw0
 have HC0 := hide (cur_new bcap (unhide HBA) hbR)
 have hB0 : Below w.heap.size w (((w.alloc (.cells #[.slice none 0 0, .slice none 0 0] 26)).alloc (.cells #[.int .i64 0, .int .i64 0, .int .i64 0, .int .i64 0, .slice none 0 0] 32)).alloc (.cells #[.slice ba bs.length bcap, .int .i64 0, .int .u64 0] 72)) := bw0
 have hR0 : Boxed (((w.alloc (.cells #[.slice none 0 0, .slice none 0 0] 26)).alloc (.cells #[.int .i64 0, .int .i64 0, .int .i64 0, .int .i64 0, .slice none 0 0] 32)).alloc (.cells #[.slice ba bs.length bcap, .int .i64 0, .int .u64 0] 72)) w.heap.size [.slice none 0 0, .slice none 0 0] := ((boxed_alloc _ _ _).alloc _).alloc _
 have hS0 : Boxed (((w.alloc (.cells #[.slice none 0 0, .slice none 0 0] 26)).alloc (.cells #[.int .i64 0, .int .i64 0, .int .i64 0, .int .i64 0, .slice none 0 0] 32)).alloc (.cells #[.slice ba bs.length bcap, .int .i64 0, .int .u64 0] 72)) (w.heap.size + 1) [.int .i64 0, .int .i64 0, .int .i64 0, .int .i64 0, .slice none 0 0] := (boxedN _ _ _ (by simp)).alloc _
 have hC : ((w.alloc (.cells #[.slice none 0 0, .slice none 0 0] 26)).alloc (.cells #[.int .i64 0, .int .i64 0, .int .i64 0, .int .i64 0, .slice none 0 0] 32)).heap.size = w.heap.size + 1 + 1 := by simp
 have hsb : (((w.alloc (.cells #[.slice none 0 0, .slice none 0 0] 26)).alloc (.cells #[.int .i64 0, .int .i64 0, .int .i64 0, .int .i64 0, .slice none 0 0] 32)).alloc (.cells #[.slice ba bs.length bcap, .int .i64 0, .int .u64 0] 72)).heap.size = w.heap.size + 1 + 1 + 1 := by simp
 have HRK : Hid ((((w.alloc (.cells #[.slice none 0 0, .slice none 0 0] 26)).alloc (.cells #[.int .i64 0, .int .i64 0, .int .i64 0, .int .i64 0, .slice none 0 0] 32)).alloc (.cells #[.slice ba bs.length bcap, .int .i64 0, .int .u64 0] 72)).heap[w.heap.size]? = some (.cells #[.slice none 0 0, .slice none 0 0] 26)) := ((bw0 : Below (w.heap.size + 1) (w.alloc (.cells #[.slice none 0 0, .slice none 0 0] 26)) (((w.alloc (.cells #[.slice none 0 0, .slice none 0 0] 26)).alloc (.cells #[.int .i64 0, .int .i64 0, .int .i64 0, .int .i64 0, .slice none 0 0] 32)).alloc (.cells #[.slice ba bs.length bcap, .int .i64 0, .int .u64 0] 72))).block w.heap.size (by omega)).trans (Deep.blk_alloc_new _ _)
 have HSK : Hid ((((w.alloc (.cells #[.slice none 0 0, .slice none 0 0] 26)).alloc (.cells #[.int .i64 0, .int .i64 0, .int .i64 0, .int .i64 0, .slice none 0 0] 32)).alloc (.cells #[.slice ba bs.length bcap, .int .i64 0, .int .u64 0] 72)).heap[w.heap.size + 1]? = some (.cells #[.int .i64 0, .int .i64 0, .int .i64 0, .int .i64 0, .slice none 0 0] 32)) := ((bw0 : Below (w.heap.size + 1 + 1) ((w.alloc (.cells #[.slice none 0 0, .slice none 0 0] 26)).alloc (.cells #[.int .i64 0, .int .i64 0, .int .i64 0, .int .i64 0, .slice none 0 0] 32)) (((w.alloc (.cells #[.slice none 0 0, .slice none 0 0] 26)).alloc (.cells #[.int .i64 0, .int .i64 0, .int .i64 0, .int .i64 0, .slice none 0 0] 32)).alloc (.cells #[.slice ba bs.length bcap, .int .i64 0, .int .u64 0] 72))).block (w.heap.size + 1) (by omega)).trans (by rw [show w.heap.size + 1 = (w.alloc (.cells #[.slice none 0 0, .slice none 0 0] 26)).heap.size by simp]; exact Deep.blk_alloc_new _ _)
 rw [hC] at HC0
 obtain ⟨wb, hwb⟩ : ∃ wb, (((w.alloc (.cells #[.slice none 0 0, .slice none 0 0] 26)).alloc (.cells #[.int .i64 0, .int .i64 0, .int .i64 0, .int .i64 0, .slice none 0 0] 32)).alloc (.cells #[.slice ba bs.length bcap, .int .i64 0, .int .u64 0] 72)) = wb := ⟨_, rfl⟩
 obtain ⟨C, hCC⟩ : ∃ C, w.heap.size + 1 + 1 = C := ⟨_, rfl⟩
 rw [hwb] at HC0 hB0 hR0 hS0 hsb HRK HSK ⊢
 rw [hCC] at HC0 hsb ⊢
 have hwC : w.heap.size + 1 < C := by omega
 have HB0 := hide hB0
 have hsb' : C < wb.heap.size := by omega
 have HSB : Hid (wb.heap.size = C + 1) := hsb
 clear hwb hC hbR hB0 hCC hsb
 refine (l5net_any C bs ⟨0, 0⟩ wb (unhide HC0) hbs (by decide)).mono ?_
 rintro e w1 ⟨u, v, n, c1, rfl, hn, hb, hc1, hbt, hca⟩
 have hat0 : (⟨0, 0⟩ : Cu).at_ = 0 := rfl
 have hnn := hn
 obtain ⟨a1, a2, k1, k2, hve, _, _⟩ := hn
 simp only [Value.agg.injEq, Array.mk.injEq, List.cons.injEq, and_true] at hve
 obtain ⟨rfl, rfl⟩ := hve
 have hbN : Below w1.heap.size w1 (w1.alloc (.cells #[.slice a1 n.pieces.length k1, .slice a2 n.joints.length k2] 26)) := bw0
 have hsz0 := hbt.size
 have HN1 : Hid (NW C bs wb w.heap.size w1.heap.size wb.heap.size (.slice a1 n.pieces.length k1) (.slice a2 n.joints.length k2) n 1300 c1 (w1.alloc (.cells #[.slice a1 n.pieces.length k1, .slice a2 n.joints.length k2] 26))) :=
  ⟨hc1.of_below hbN hc1.lt, but_below' hbt hbN, (hR0.but hbt hR0.1 (fun e => by omega)).below hbN, boxed_alloc _ _ _, hnn.below hbN, hb, by omega, by omega, by omega, by omega, by omega⟩
 have HS1 := hide ((hS0.but hbt hS0.1 (fun e => by omega)).below hbN)
 obtain ⟨w2, hw2⟩ : ∃ w2, w1.alloc (.cells #[.slice a1 n.pieces.length k1, .slice a2 n.joints.length k2] 26) = w2 := ⟨_, rfl⟩
 obtain ⟨N, hNN⟩ : ∃ N, w1.heap.size = N := ⟨_, rfl⟩
 rw [hw2, hNN] at HN1
 rw [hw2] at HS1
 have m0 := (unhide HN1).nb.2.1 0 _ rfl
 have m1 := (unhide HN1).nb.2.1 1 _ rfl
 have ml := (unhide HN1).nb.1
 have hsm := hb
 have HSM := hide hsm
 have hjl := hsm.nj
 dsimp only
 clear hnn hb hc1 hbt hbN hR0 hS0 HC0 hsm
 go_upto_region 3 with fail
 clear hw2 hNN
 go_wp2_with fail
 refine (lies_any C bs c1 _ n w2 (unhide HN1).cur hbs (by omega) (netK_hi (unhide HN1).net hsb') (by omega)).mono ?_
 rintro e w3 ⟨zq, zs, zc, c2, rfl, hzi, hzl, hc2, hb2, hca2⟩
 have HN2 := hide ((unhide HN1).on hc2 hb2)
 have HS2 := hide ((unhide HS1).but hb2 (unhide HS1).1 (fun e => by omega))
 have hs2 := (unhide HN1).but.size
 have HZ := hide hzi
 clear hc2 hb2 m0 m1 ml hzi
 have m0 := (unhide HN2).nb.2.1 0 _ rfl
 have m1 := (unhide HN2).nb.2.1 1 _ rfl
 have ml := (unhide HN2).nb.1
 dsimp only
 go_wp2_with fail
 refine (drawTrain_any C bs c2 _ n zq zs zc w3 (unhide HN2).cur hbs (by omega) (netK_hi (unhide HN2).net hsb') (intsK_hi (unhide HZ) (by omega)) ((unhide HSM).small (by omega))).mono ?_
 rintro e w4 ⟨t, ta, tc, c3, rfl, htn, hrow, hc3, hb3⟩
 have htl := htn.len
 have hta := htn.at_
 have HN3 := hide ((unhide HN2).on hc3 hb3)
 have HS3 := hide ((unhide HS2).but hb3 (unhide HS2).1 (fun e => by omega))
 have hs3 := (unhide HN2).but.size
 have hst := (bn_sts hrow).mono (L' := wb.heap.size) (by omega)
 obtain ⟨_, _, hce, hcp, _⟩ := stRow_at hrow
 simp only [Value.slice.injEq] at hce
 rw [← hce.2.2] at hcp
 have hbT : Below w4.heap.size w4 (w4.alloc (.cells #[.int .i64 t.front.piece, .int .i64 t.front.at_, .int .i64 t.front.way, .int .i64 t.long, .slice ta t.back.length tc] 32)) := bw0
 have HT : Hid (TW C bs wb w.heap.size (w.heap.size + 1) N w4 (.slice a1 n.pieces.length k1) (.slice a2 n.joints.length k2) n 1300 t ta tc c3 (w4.alloc (.cells #[.int .i64 t.front.piece, .int .i64 t.front.at_, .int .i64 t.front.way, .int .i64 t.long, .slice ta t.back.length tc] 32))) :=
  ⟨(unhide HN3).on ((unhide HN3).cur.of_below hbT (unhide HN3).cur.lt) (but_of_below hbT), (unhide HS3).below hbT, boxed_alloc _ _ _, hst.below hbT, ⟨by omega, hcp⟩, fun k _ hk => hbT.block k hk, (unhide HN3).net, by omega, by omega, (unhide HN3).but.size, by omega, (unhide HN3).nb.1⟩
 clear htn hrow hc3 hb3 hst hbT hcp hce m0 m1 ml HN1 HN2 HS1 HS2 HS3 HZ
 have hpi := pickC_in bs c3 10
 have hpa := pickC_at bs c3 10
 unfold trV
 dsimp only
 go_wp2_with fail
 refine (pick_any C bs c3 10 _ (unhide HT).cur' hbs (by omega) (by omega)).mono ?_
 rintro e w5 ⟨rfl, hc5, ho5⟩
 have HT5 := hide ((unhide HT).pick hc5 ho5)
 obtain ⟨⟨P, c4⟩, hpc⟩ : ∃ y, pickC bs c3 10 = y := ⟨_, rfl⟩
 rw [hpc] at hpi hpa HT5 ⊢
 dsimp only at hpi hpa HT5 ⊢
 clear hc5 ho5 hpc HT
 go_upto_if 24 with fail
 go_cut [] (fun wx => ∃ t' a' cap' c', Hid (TW C bs wb w.heap.size (w.heap.size + 1) N w4 (.slice a1 n.pieces.length k1) (.slice a2 n.joints.length k2) n 1300 t' a' cap' c' wx) ∧ c'.at_ ≤ 90000)
 case first =>
  by_cases hz : P = 0
  ·subst hz
   have m0 := (unhide HT5).tb.2.1 0 _ rfl
   have m1 := (unhide HT5).tb.2.1 1 _ rfl
   have m2 := (unhide HT5).tb.2.1 2 _ rfl
   have m3 := (unhide HT5).tb.2.1 3 _ rfl
   have m4 := (unhide HT5).tb.2.1 4 _ rfl
   have ml := (unhide HT5).tb.1
   go_wp2_with fail
   refine (bend_any C bs c4 t ta tc w5 (unhide HT5).cur' hbs (by omega) (unhide HT5).sts (by omega)).mono ?_
   rintro e w6 ⟨t6, a6, cap6, c6, rfl, hs6, hcp6, hl6, hc6, hb6, hca6⟩
   have HT6 := hide ((unhide HT5).put (cap' := cap6) hc6 hb6 hs6 ⟨by omega, hcp6⟩)
   have HT6' := hide ((unhide HT5).on hc6 hb6)
   clear m0 m1 m2 m3 m4 ml hs6 hc6 hb6
   have m0 := (unhide HT6').tb.2.1 0 _ rfl
   have m1 := (unhide HT6').tb.2.1 1 _ rfl
   have m2 := (unhide HT6').tb.2.1 2 _ rfl
   have m3 := (unhide HT6').tb.2.1 3 _ rfl
   have m4 := (unhide HT6').tb.2.1 4 _ rfl
   have mz := (unhide HT6').tb.2.2
   have ml := (unhide HT6').tb.1
   unfold trV
   dsimp only
   go_wp2_with fail
   go_meet
   exact ⟨_, _, _, c6, HT6, by omega⟩
  ·have hz' : (P == 0) = false := by simpa using hz
   go_wp2_with fail
   go_meet
   exact ⟨_, _, _, c4, HT5, by omega⟩
 case rest =>
  obtain ⟨t', a', cap', c', HTX, hat⟩ := hcut
  clear HT5
  have hpi := pickC_in bs c' 10
  have hpa := pickC_at bs c' 10
  go_wp2_with fail
  refine (pick_any C bs c' 10 _ (unhide HTX).cur' hbs (by omega) (by omega)).mono ?_
  rintro e w7 ⟨rfl, hc7, ho7⟩
  have HT7 := hide ((unhide HTX).pick hc7 ho7)
  obtain ⟨⟨Q, c7⟩, hpc⟩ : ∃ y, pickC bs c' 10 = y := ⟨_, rfl⟩
  rw [hpc] at hpi hpa HT7 ⊢
  dsimp only at hpi hpa HT7 ⊢
  clear hc7 ho7 hpc HTX
  go_upto_if 30 with fail
  go_cut [8] (fun z wx => ∃ c8, Hid (TW C bs wb w.heap.size (w.heap.size + 1) N w4 (.slice a1 n.pieces.length k1) (.slice a2 n.joints.length k2) n 1300 t' a' cap' c8 wx) ∧ c8.at_ ≤ 200000)
  case first =>
   by_cases hz : Q = 0
   ·subst hz
    have m0 := (unhide HT7).nw.nb.2.1 0 _ rfl
    have m1 := (unhide HT7).nw.nb.2.1 1 _ rfl
    have ml := (unhide HT7).nw.nb.1
    go_wp2_with fail
    refine (lies_any C bs c7 _ n w7 (unhide HT7).cur' hbs (by omega) (netK_hi (unhide HT7).nw.net hsb') (by omega)).mono ?_
    rintro e w8 ⟨zq2, zs2, zc2, c8, rfl, _, _, hc8, hb8, hca8⟩
    have HT8 := hide ((unhide HT7).on hc8 hb8)
    clear hc8 hb8 m0 m1 ml
    dsimp only
    go_wp2_with fail
    go_meet
    exact ⟨c8, HT8, by omega⟩
   ·have hz' : (Q == 0) = false := by simpa using hz
    go_wp2_with fail
    go_meet
    exact ⟨c7, HT7, by omega⟩
  case rest =>
   obtain ⟨c8, HT8, hat8⟩ := hcut
   have m0 := (unhide HT8).tb.2.1 0 _ rfl
   have m1 := (unhide HT8).tb.2.1 1 _ rfl
   have m2 := (unhide HT8).tb.2.1 2 _ rfl
   have m3 := (unhide HT8).tb.2.1 3 _ rfl
   have m4 := (unhide HT8).tb.2.1 4 _ rfl
   have ml := (unhide HT8).tb.1
   have n0 := (unhide HT8).nw.nb.2.1 0 _ rfl
   have n1 := (unhide HT8).nw.nb.2.1 1 _ rfl
   have nl := (unhide HT8).nw.nb.1
   have r0 := (unhide HT8).nw.rb.2.1 0 _ rfl
   have r1 := (unhide HT8).nw.rb.2.1 1 _ rfl
   have rz := (unhide HT8).nw.rb.2.2
   have rl := (unhide HT8).nw.rb.1
   have s0 := (unhide HT8).sb.2.1 0 _ rfl
   have s1 := (unhide HT8).sb.2.1 1 _ rfl
   have s2 := (unhide HT8).sb.2.1 2 _ rfl
   have s3 := (unhide HT8).sb.2.1 3 _ rfl
   have s4 := (unhide HT8).sb.2.1 4 _ rfl
   have sz := (unhide HT8).sb.2.2
   have sl := (unhide HT8).sb.1
   have hord := (unhide HT8).ord
   have hlt := (unhide HT8).nw.lt
   have d1 : w4.heap.size ≠ w.heap.size := by omega
   have d2 : w4.heap.size ≠ w.heap.size + 1 := by omega
   have d3 : N ≠ w.heap.size := by omega
   have d4 : N ≠ w.heap.size + 1 := by omega
   clear hord
   go_upto_region 9 with fail
   go_region
   go_wp2_with fail
   have hT := unhide HT8
   obtain ⟨wx, hwx⟩ : ∃ wx, (((((((wc.setCell ⟨w.heap.size, 0, none⟩ (.slice a1 n.pieces.length k1)).setCell ⟨w.heap.size, 1, none⟩ (.slice a2 n.joints.length k2)).setCell ⟨w.heap.size + 1, 0, none⟩ (.int .i64 t'.front.piece)).setCell ⟨w.heap.size + 1, 1, none⟩ (.int .i64 t'.front.at_)).setCell ⟨w.heap.size + 1, 2, none⟩ (.int .i64 t'.front.way)).setCell ⟨w.heap.size + 1, 3, none⟩ (.int .i64 t'.long)).setCell ⟨w.heap.size + 1, 4, none⟩ (.slice a' t'.back.length cap')) = wx := ⟨_, rfl⟩
   obtain ⟨ho, hR3, hS3⟩ := two_ret hT.nw.rb hT.sb hwx
   rw [hwx]
   clear hwx
   have hbd : Below wx.heap.size wx wx.drew := bw0
   have hk : Keeps wb.heap.size wc wx.drew := ⟨Nat.le_trans ho.size hbd.size, fun k hk hlt => (hbd.block k (by have := ho.size; omega)).trans (ho.block k hlt (fun e => by omega))⟩
   have e0 := (hR3.below hbd).2.1 0 _ rfl
   have e1 := (hR3.below hbd).2.1 1 _ rfl
   have t0 := (hS3.below hbd).2.1 0 _ rfl
   have t1 := (hS3.below hbd).2.1 1 _ rfl
   have t2 := (hS3.below hbd).2.1 2 _ rfl
   have t3 := (hS3.below hbd).2.1 3 _ rfl
   have t4 := (hS3.below hbd).2.1 4 _ rfl
   have hbw : Below w.heap.size w wx.drew := by
    have h1 := (unhide HB0).trans (hT.nw.but.below (U := w.heap.size) (by omega) (fun k hk e => by omega))
    exact (h1.trans (ho.below (B := w.heap.size) (by have := h1.size; omega) (fun k hk e => by omega))).trans ⟨hbd.os, hbd.tape, hbd.output, hbd.size, fun k hk => hbd.block k (by have := h1.size; have := ho.size; omega)⟩
   refine bodyPost_ret (v := .tuple #[.agg #[.slice a1 n.pieces.length k1, .slice a2 n.joints.length k2], u8, trV t' a' cap', .pointer (some ⟨C, 0, none⟩)]) (by simp [trV, results, Tryz.results74, go_sem, e0, e1, t0, t1, t2, t3, t4]) rfl ⟨_, _, n, _, t', a', cap', C, c8, rfl, unhide HSB ▸ hT.nw.net.keeps hk, hT.nw.small, unhide HSB ▸ hT.sts.keeps hk, hT.bl, ?_, hat8, by omega, hbw⟩
   refine (cur_far hT.nw.cur ho (fun e => by omega) (fun k hk => ?_)).below hbd
   rcases hk with rfl | rfl
   ·exact ⟨_, _, (hT.nw.but.block w.heap.size (by omega) (fun e => by omega)).trans (unhide HRK), fun j x => by match j with | 0 => simp | 1 => simp | j + 2 => simp⟩
   ·exact ⟨_, _, (hT.nw.but.block (w.heap.size + 1) (by omega) (fun e => by omega)).trans (unhide HSK), fun j x => by match j with | 0 => simp | 1 => simp | 2 => simp | 3 => simp | 4 => simp | j + 5 => simp⟩

structure DT (C : Nat) (bs : List Int) (w0 wn : World) (u v : Value) (n : Nt) (t : Tr) (a : Option Addr) (cap : Nat) (c : Cu) (w : World) : Prop where
 cur : CurAt w C bs c
 bel : Below w0.heap.size w0 w
 rb : Boxed w w0.heap.size [.slice none 0 0, .slice none 0 0]
 sb : Boxed w (w0.heap.size + 1) [.int .i64 0, .int .i64 0, .int .i64 0, .int .i64 0, .slice none 0 0]
 nb : Boxed w wn.heap.size [u, v]
 tb : Boxed w (wn.heap.size + 1) (trC t a cap)
 sts : StsAt (C + 1) w a t.back
 bl : t.back.length ≤ 220 ∧ t.back.length ≤ cap
 kp : ∀ k, C + 1 ≤ k → k < wn.heap.size → w.heap[k]? = wn.heap[k]?
 n0 : NetAt (C + 1) wn (.agg #[u, v]) n
 ord : w0.heap.size + 1 < C ∧ C < wn.heap.size
theorem DT.on {C : Nat} {bs : List Int} {w0 wn : World} {u v : Value} {n : Nt} {t : Tr} {a : Option Addr} {cap : Nat} {c c' : Cu} {w w' : World} (h : DT C bs w0 wn u v n t a cap c w) (hc : CurAt w' C bs c') (hb : But (fun k => k = C) w.heap.size w w') : DT C bs w0 wn u v n t a cap c' w' :=
 have ho := h.ord
 have hT := h.tb.1
 ⟨hc, h.bel.trans (hb.below (U := w0.heap.size) h.bel.size (fun k hk e => by omega)), h.rb.but hb h.rb.1 (fun e => by omega), h.sb.but hb h.sb.1 (fun e => by omega), h.nb.but hb h.nb.1 (fun e => by omega), h.tb.but hb h.tb.1 (fun e => by omega), h.sts.keeps (keeps_but hb (by omega)), h.bl, fun k hk hk' => (hb.block k (by omega) (fun e => by omega)).trans (h.kp k hk hk'), h.n0, ho⟩
theorem DT.put {C : Nat} {bs : List Int} {w0 wn : World} {u v : Value} {n : Nt} {t t' : Tr} {a a' : Option Addr} {cap cap' : Nat} {c c' : Cu} {w w' : World} (h : DT C bs w0 wn u v n t a cap c w) (hc : CurAt w' C bs c') (hb : But (fun k => k = C) w.heap.size w w') (hs : StsAt w.heap.size w' a' t'.back) (hK : t'.back.length ≤ 220 ∧ t'.back.length ≤ cap') :
  DT C bs w0 wn u v n t' a' cap' c' (((((w'.setCell ⟨wn.heap.size + 1, 0, none⟩ (.int .i64 t'.front.piece)).setCell ⟨wn.heap.size + 1, 1, none⟩ (.int .i64 t'.front.at_)).setCell ⟨wn.heap.size + 1, 2, none⟩ (.int .i64 t'.front.way)).setCell ⟨wn.heap.size + 1, 3, none⟩ (.int .i64 t'.long)).setCell ⟨wn.heap.size + 1, 4, none⟩ (.slice a' t'.back.length cap')) := by
 have hd := h.ord
 have hT := h.tb.1
 have h1 := h.on hc hb
 have hO : ∀ (W : World) (i : Nat) (y : Value), Only (fun k => k = wn.heap.size + 1) W (W.setCell ⟨wn.heap.size + 1, i, none⟩ y) := fun W i y => only_setCell (S := fun k => k = wn.heap.size + 1) W (p := ⟨wn.heap.size + 1, i, none⟩) rfl y
 have ho := ((((hO w' 0 (.int .i64 t'.front.piece)).trans (hO _ 1 (.int .i64 t'.front.at_))).trans (hO _ 2 (.int .i64 t'.front.way))).trans (hO _ 3 (.int .i64 t'.long))).trans (hO _ 4 (.slice a' t'.back.length cap'))
 have hT1 := h1.tb.1
 have hw := h1.bel.size
 exact ⟨hc.of_below (ho.below (B := C + 1) (by have := hc.lt; omega) (fun k hk e => by omega)) (by omega), h1.bel.trans (ho.below (B := w0.heap.size) hw (fun k hk e => by omega)), h1.rb.onlyS ho (fun e => by omega), h1.sb.onlyS ho (fun e => by omega), h1.nb.onlyS ho (fun e => by omega), ((((h1.tb.setI (i := 0) (by simp [trC]) _).setI (i := 1) (by simp [trC]) _).setI (i := 2) (by simp [trC]) _).setI (i := 3) (by simp [trC]) _).setI (i := 4) (by simp [trC]) _, (hs.keeps ⟨ho.size, fun k hk hlt => ho.block k hlt (fun e => by omega)⟩).mono (by have := h.nb.1; omega), hK, fun k hk hk' => (ho.block k (by omega) (fun e => by omega)).trans (h1.kp k hk hk'), h.n0, hd⟩
def RetDT (w : World) (e : Ending) (w' : World) : Prop := ∃ u v n t a cap, e = .returned (.tuple #[.agg #[u, v], trV t a cap]) ∧ NetAt w.heap.size w' (.agg #[u, v]) n ∧ NtB n 1300 ∧ StsAt w.heap.size w' a t.back ∧ (t.back.length ≤ 220 ∧ t.back.length ≤ cap) ∧ Below w.heap.size w w'

set_option maxRecDepth 100000 in
set_option maxHeartbeats 8000000 in
theorem drawTrainOk_any (bs : List Int) (ba : Option Addr) (bcap : Nat) (w : World) (hba : BytesAt w.heap.size w ba bs) (hbs : BytesIn bs) :
  Calls Tryz.prog 28 #[.slice ba bs.length bcap] w (RetDT w) := by
 have HBA := hide hba
 clear hba
 go_enter Tryz.func28, Tryz.ntmps28
 go_wp2_with fail
 have hb0 : Below w.heap.size w ((w.alloc (.cells #[.slice none 0 0, .slice none 0 0] 26)).alloc (.cells #[.int .i64 0, .int .i64 0, .int .i64 0, .int .i64 0, .slice none 0 0] 32)) := bw0
 have hR0 : Boxed ((w.alloc (.cells #[.slice none 0 0, .slice none 0 0] 26)).alloc (.cells #[.int .i64 0, .int .i64 0, .int .i64 0, .int .i64 0, .slice none 0 0] 32)) w.heap.size [.slice none 0 0, .slice none 0 0] := (boxed_alloc _ _ _).alloc _
 have hS0 : Boxed ((w.alloc (.cells #[.slice none 0 0, .slice none 0 0] 26)).alloc (.cells #[.int .i64 0, .int .i64 0, .int .i64 0, .int .i64 0, .slice none 0 0] 32)) (w.heap.size + 1) [.int .i64 0, .int .i64 0, .int .i64 0, .int .i64 0, .slice none 0 0] := boxedN _ _ _ (by simp)
 have hs0 : ((w.alloc (.cells #[.slice none 0 0, .slice none 0 0] 26)).alloc (.cells #[.int .i64 0, .int .i64 0, .int .i64 0, .int .i64 0, .slice none 0 0] 32)).heap.size = w.heap.size + 1 + 1 := by simp
 refine (l5both_any bs ba bcap _ (fun i hi => by
  obtain ⟨b, off, e, hb, hc, hr⟩ := unhide HBA i hi
  exact ⟨b, off, e, ⟨by have := hb0.size; omega, Nat.lt_of_lt_of_le hb.2 hb0.size⟩, (hb0.cell hb.2).trans hc, hr⟩) hbs).mono ?_
 rintro e w1 ⟨u, v, n, z, t, a, cap, C, c, rfl, hn, hsm, hst, hbl, hcu, hat, hC, hb1⟩
 have hnn := hn
 obtain ⟨a1, a2, k1, k2, hve, _, _⟩ := hn
 simp only [Value.agg.injEq, Array.mk.injEq, List.cons.injEq, and_true] at hve
 obtain ⟨rfl, rfl⟩ := hve
 rw [hs0] at hC
 unfold trV
 dsimp only
 go_upto_region 2 with fail
 have hbW : Below w1.heap.size w1 ((w1.alloc (.cells #[.slice a1 n.pieces.length k1, .slice a2 n.joints.length k2] 26)).alloc (.cells #[.int .i64 t.front.piece, .int .i64 t.front.at_, .int .i64 t.front.way, .int .i64 t.long, .slice a t.back.length cap] 32)) := bw0
 have hC1 := hcu.lt
 have HT : Hid (DT C bs w w1 (.slice a1 n.pieces.length k1) (.slice a2 n.joints.length k2) n t a cap c ((w1.alloc (.cells #[.slice a1 n.pieces.length k1, .slice a2 n.joints.length k2] 26)).alloc (.cells #[.int .i64 t.front.piece, .int .i64 t.front.at_, .int .i64 t.front.way, .int .i64 t.long, .slice a t.back.length cap] 32))) :=
  ⟨hcu.below hbW, (hb0.trans ⟨hb1.os, hb1.tape, hb1.output, hb1.size, fun k hk => hb1.block k (by omega)⟩).trans ⟨hbW.os, hbW.tape, hbW.output, hbW.size, fun k hk => hbW.block k (by have := hb1.size; omega)⟩, (hR0.below hb1).below hbW, (hS0.below hb1).below hbW, (boxed_alloc _ _ _).alloc _, boxedN _ _ _ (by simp), hst.below hbW, ⟨by omega, hbl.2⟩, fun k _ hk => hbW.block k hk, hnn, by omega, by omega⟩
 have HSM := hide hsm
 obtain ⟨w2, hw2⟩ : ∃ w2, ((w1.alloc (.cells #[.slice a1 n.pieces.length k1, .slice a2 n.joints.length k2] 26)).alloc (.cells #[.int .i64 t.front.piece, .int .i64 t.front.at_, .int .i64 t.front.way, .int .i64 t.long, .slice a t.back.length cap] 32)) = w2 := ⟨_, rfl⟩
 rw [hw2] at HT ⊢
 clear hw2 hbW hnn hst hsm hcu hb0 hb1 hR0 hS0 hs0
 have hpi := pickC_in bs c 2
 have hpa := pickC_at bs c 2
 go_wp2_with fail
 refine (pick_any C bs c 2 _ (unhide HT).cur hbs (by omega) (by omega)).mono ?_
 rintro e w5 ⟨rfl, hc5, ho5⟩
 have HT5 := hide ((unhide HT).on hc5 (but_of_only ho5))
 obtain ⟨⟨P, c4⟩, hpc⟩ : ∃ y, pickC bs c 2 = y := ⟨_, rfl⟩
 rw [hpc] at hpi hpa HT5 ⊢
 dsimp only at hpi hpa HT5 ⊢
 clear hc5 ho5 hpc HT
 go_upto_if 17 with fail
 go_cut [] (fun wx => ∃ t' a' cap' c', Hid (DT C bs w w1 (.slice a1 n.pieces.length k1) (.slice a2 n.joints.length k2) n t' a' cap' c' wx))
 case first =>
  by_cases hz : P = 0
  ·subst hz
   have m0 := (unhide HT5).tb.2.1 0 _ rfl
   have m1 := (unhide HT5).tb.2.1 1 _ rfl
   have m2 := (unhide HT5).tb.2.1 2 _ rfl
   have m3 := (unhide HT5).tb.2.1 3 _ rfl
   have m4 := (unhide HT5).tb.2.1 4 _ rfl
   have ml := (unhide HT5).tb.1
   go_wp2_with fail
   refine (bend_any C bs c4 t a cap w5 (unhide HT5).cur hbs (by omega) (unhide HT5).sts (by omega)).mono ?_
   rintro e w6 ⟨t6, a6, cap6, c6, rfl, hs6, hcp6, hl6, hc6, hb6, hca6⟩
   have HT6 := hide ((unhide HT5).put (cap' := cap6) hc6 hb6 hs6 ⟨by omega, hcp6⟩)
   have HT6' := hide ((unhide HT5).on hc6 hb6)
   clear m0 m1 m2 m3 m4 ml hs6 hc6 hb6
   have m0 := (unhide HT6').tb.2.1 0 _ rfl
   have m1 := (unhide HT6').tb.2.1 1 _ rfl
   have m2 := (unhide HT6').tb.2.1 2 _ rfl
   have m3 := (unhide HT6').tb.2.1 3 _ rfl
   have m4 := (unhide HT6').tb.2.1 4 _ rfl
   have mz := (unhide HT6').tb.2.2
   have ml := (unhide HT6').tb.1
   unfold trV
   dsimp only
   go_wp2_with fail
   go_meet
   exact ⟨_, _, _, c6, HT6⟩
  ·have hz' : (P == 0) = false := by simpa using hz
   go_wp2_with fail
   go_meet
   exact ⟨_, _, _, c4, HT5⟩
 case rest =>
  obtain ⟨t', a', cap', c8, HT8⟩ := hcut
  have m0 := (unhide HT8).tb.2.1 0 _ rfl
  have m1 := (unhide HT8).tb.2.1 1 _ rfl
  have m2 := (unhide HT8).tb.2.1 2 _ rfl
  have m3 := (unhide HT8).tb.2.1 3 _ rfl
  have m4 := (unhide HT8).tb.2.1 4 _ rfl
  have ml := (unhide HT8).tb.1
  have n0 := (unhide HT8).nb.2.1 0 _ rfl
  have n1 := (unhide HT8).nb.2.1 1 _ rfl
  have nl := (unhide HT8).nb.1
  have r0 := (unhide HT8).rb.2.1 0 _ rfl
  have r1 := (unhide HT8).rb.2.1 1 _ rfl
  have rz := (unhide HT8).rb.2.2
  have rl := (unhide HT8).rb.1
  have s0 := (unhide HT8).sb.2.1 0 _ rfl
  have s1 := (unhide HT8).sb.2.1 1 _ rfl
  have s2 := (unhide HT8).sb.2.1 2 _ rfl
  have s3 := (unhide HT8).sb.2.1 3 _ rfl
  have s4 := (unhide HT8).sb.2.1 4 _ rfl
  have sz := (unhide HT8).sb.2.2
  have sl := (unhide HT8).sb.1
  have hord := (unhide HT8).ord
  have d1 : w1.heap.size + 1 ≠ w.heap.size := by omega
  have d2 : w1.heap.size + 1 ≠ w.heap.size + 1 := by omega
  have d3 : w1.heap.size ≠ w.heap.size := by omega
  have d4 : w1.heap.size ≠ w.heap.size + 1 := by omega
  go_upto_region 4 with fail
  go_region
  go_wp2_with fail
  have hT := unhide HT8
  obtain ⟨wx, hwx⟩ : ∃ wx, (((((((wc.setCell ⟨w.heap.size, 0, none⟩ (.slice a1 n.pieces.length k1)).setCell ⟨w.heap.size, 1, none⟩ (.slice a2 n.joints.length k2)).setCell ⟨w.heap.size + 1, 0, none⟩ (.int .i64 t'.front.piece)).setCell ⟨w.heap.size + 1, 1, none⟩ (.int .i64 t'.front.at_)).setCell ⟨w.heap.size + 1, 2, none⟩ (.int .i64 t'.front.way)).setCell ⟨w.heap.size + 1, 3, none⟩ (.int .i64 t'.long)).setCell ⟨w.heap.size + 1, 4, none⟩ (.slice a' t'.back.length cap')) = wx := ⟨_, rfl⟩
  obtain ⟨ho, hR3, hS3⟩ := two_ret hT.rb hT.sb hwx
  rw [hwx]
  clear hwx
  have hbd : Below wx.heap.size wx wx.drew := bw0
  have hk : Keeps (C + 1) wc wx.drew := ⟨Nat.le_trans ho.size hbd.size, fun k hk hlt => (hbd.block k (by have := ho.size; omega)).trans (ho.block k hlt (fun e => by omega))⟩
  have hn : NetAt (C + 1) wc (.agg #[.slice a1 n.pieces.length k1, .slice a2 n.joints.length k2]) n := hT.n0.keeps ⟨by have := hT.nb.1; omega, hT.kp⟩
  have e0 := (hR3.below hbd).2.1 0 _ rfl
  have e1 := (hR3.below hbd).2.1 1 _ rfl
  have t0 := (hS3.below hbd).2.1 0 _ rfl
  have t1 := (hS3.below hbd).2.1 1 _ rfl
  have t2 := (hS3.below hbd).2.1 2 _ rfl
  have t3 := (hS3.below hbd).2.1 3 _ rfl
  have t4 := (hS3.below hbd).2.1 4 _ rfl
  have hbw : Below w.heap.size w wx.drew := (hT.bel.trans (ho.below (B := w.heap.size) (by have := hT.bel.size; omega) (fun k hk e => by omega))).trans ⟨hbd.os, hbd.tape, hbd.output, hbd.size, fun k hk => hbd.block k (by have := hT.bel.size; have := ho.size; omega)⟩
  exact bodyPost_ret (v := .tuple #[.agg #[.slice a1 n.pieces.length k1, .slice a2 n.joints.length k2], trV t' a' cap']) (by simp [trV, results, Tryz.results28, go_sem, e0, e1, t0, t1, t2, t3, t4]) rfl ⟨_, _, n, t', a', cap', rfl, (hn.keeps hk).mono (by omega), unhide HSM, (hT.sts.keeps hk).mono (by omega), hT.bl, hbw⟩

end Go.Proofs.YtbdggfpfpjijoaaGreatDoor

