import Derived.Test.YtbdggfpfpjijoaaGreatDoorMKt12
import Derived.Test.YtbdggfpfpjijoaaGreatDoorMPlain
import Derived.Deep.RegionLaw
import Derived.Deep.AppendLies
import Derived.Test.YtbdggfpfpjijoaaGreatDoorMSpec12
namespace Go.Proofs.YtbdggfpfpjijoaaGreatDoor
open Go.RowKit

def stF (p : St) : List Value := [.int .i64 p.piece, .int .i64 p.way]
theorem stF_len (p : St) : (stF p).length = 2 := rfl
abbrev StRow (w : World) (base : Nat) (v : Value) (ps : List St) : Prop := Row w base 84 2 stF v ps

theorem stRow_at {w : World} {base : Nat} {v : Value} {ps : List St} (h : StRow w base v ps) : ∃ a cap, v = .slice a ps.length cap ∧ ps.length ≤ cap ∧ StsAt base w a ps := by
 obtain ⟨a, cap, hv, hc, hx⟩ := h.shape stF_len
 refine ⟨a, cap, hv, hc, fun i hi => ?_⟩
 obtain ⟨g, ha, hg, hj⟩ := hx i hi
 have e0 := hj 0 (by omega)
 have e1 := hj 1 (by omega)
 simp only [stF] at e0 e1
 exact ⟨g, 0, ha, hg, by simpa using e0, by simpa using e1⟩
theorem stRow_sts {w : World} {base : Nat} {a : Option Addr} {m cap : Nat} {ps : List St} (h : StRow w base (.slice a m cap) ps) : StsAt 0 w a ps := by
 obtain ⟨a', cap', hv, _, hx⟩ := stRow_at (h.mono (Nat.zero_le _))
 simp at hv
 rw [hv.1]
 exact hx

theorem setCell_size (w : World) (p : Addr) (v : Value) : (w.setCell p v).heap.size = w.heap.size := by simp [World.setCell]

theorem Boxed.setAt {w : World} {N : Nat} {vs : List Value} (h : Boxed w N vs) {i : Nat} (hi : i < vs.length) (x : Value) : Boxed (w.setCell ⟨N, i, none⟩ x) N (vs.set i x) := by
 refine ⟨by simpa [World.setCell] using h.1, fun j v hj => ?_, fun j => by simpa using h.2.2 j⟩
 by_cases e : j = i
 ·subst e
  rw [World.cell?_setCell_same _ _ _ (h.2.1 j _ (List.getElem?_eq_getElem hi))]
  simpa [hi] using hj
 ·rw [World.cell?_setCell_other _ _ _ _ (by first | (simp; done) | (simp; omega))]
  rw [List.getElem?_set_ne (by omega)] at hj
  exact h.2.1 j v hj

theorem st_news {W : World} {N : Nat} {x : St} (h : Boxed W N [.int .i64 x.piece, .int .i64 x.way]) : ∀ j u, (stF x)[j]? = some u → W.cell? ((⟨N, 0, none⟩ : Addr).add j) = some u := by
 intro j u hj
 match j, hj with
 | 0, hj => simp [stF] at hj; subst hj; simpa [Addr.add] using h.2.1 0 _ rfl
 | 1, hj => simp [stF] at hj; subst hj; simpa [Addr.add] using h.2.1 1 _ rfl
theorem st_one (x : St) : ∀ u ∈ stF x, u.oneCell' = true := by
 intro u hu
 simp [stF] at hu
 rcases hu with rfl | rfl <;> rfl

set_option maxRecDepth 100000 in
set_option maxHeartbeats 4000000 in
theorem train_any (B : Nat) (k0 k1 k2 : Value) (s : Sp) (long sp : Int) (xs : List St) (w : World) (h : GB w B k0 k1 k2 s long sp xs) :
  Calls Tryz.prog 40 #[.pointer (some ⟨B, 0, none⟩)] w fun e w' => ∃ a cap, e = .returned (.agg #[.int .i64 s.piece, .int .i64 s.at_, .int .i64 s.way, .int .i64 long, .slice a xs.length cap]) ∧ StRow w' w.heap.size (.slice a xs.length cap) xs ∧ Below w.heap.size w w' := by
 have hB := h.lt
 obtain ⟨c0, c1, c2, _, _, _, c6, _, c411⟩ := h.cells
 have hfew : xs.length ≤ 201 := by obtain ⟨f, fs, _, hh⟩ := h; exact hh.few
 obtain ⟨i0, hi, hz0, hz1, hz2⟩ := info_parts info_Step
 have H := hide h
 have hB1 : B < w.heap.size + 1 := by omega
 have nB0 : ¬ w.heap.size = B := by omega
 have nB1 : ¬ w.heap.size + 1 = B := by omega
 clear h
 go_enter Tryz.func40, Tryz.ntmps40
 go_wp2_with fail
 go_region
 go_wp2_with fail
 go_loopw [19] (fun z wr => ∃ (k : Nat) (u : Value), k ≤ xs.length ∧ z = .int .i64 k ∧ Hid (StRow wr (w.heap.size + 1 + 1) u (xs.take k)) ∧ Boxed wr w.heap.size [.int .i64 0, .int .i64 0, .int .i64 0, .int .i64 0, .slice none 0 0] ∧ Boxed wr (w.heap.size + 1) [.int .i64 s.piece, .int .i64 s.at_, .int .i64 s.way, .int .i64 long, u] ∧ Below w.heap.size w wr) (fun z _ => xs.length - (intOf z).toNat)
 case atStart =>
  exact ⟨0, .slice none 0 0, Nat.zero_le _, rfl, hide (Row.nil _ _ _ _ _), ((boxed_alloc _ _ _).alloc _).drew, (boxedN _ _ _ (by simp)).drew, bw0⟩
 case round =>
  clear c0 c1 c2 c6 c411
  obtain ⟨k, u, hk, rfl, HROW, hBr, hBt, hb⟩ := hrel
  have hszr := hb.size
  have nt := hBt.1
  have b4 := hBt.2.1 4 _ rfl
  have bz := hBt.2.2
  by_cases hlt : k < xs.length
  ·have hbB : B < wr.heap.size := by omega
   have htake : xs.take (k + 1) = xs.take k ++ [xs[k]] := List.take_succ_eq_append_getElem hlt
   have hget : xs.getD k ⟨0, 0⟩ = xs[k] := by simp [List.getElem?_eq_getElem hlt]
   have hlenT : (xs.take k).length = k := by rw [List.length_take]; omega
   obtain ⟨pre, hpre⟩ : ∃ pre, xs.take k = pre := ⟨_, rfl⟩
   generalize hxk : xs[k] = x at *
   obtain ⟨xp, xy⟩ := x
   rw [hpre] at htake HROW hlenT
   have HT := hide htake
   have HG := hide hget
   have HLT := hide hlenT
   clear htake hget hpre hlenT hxk
   have HGB := hide ((unhide H).below hb)
   go_wp2_with fail
   go_region_law (first
    | (go_simp; go_at_call 94; refine (gRingAt_any B k k0 k1 k2 s long sp xs _ ((unhide HGB).below bw0) hlt).mono ?_; rw [unhide HG]; rintro e w1 ⟨rfl, hb1⟩; have hBt1 := hBt.below (below_then bw0 hb1); have d4 := hBt1.2.1 4 _ rfl; have dz := hBt1.2.2; have dn := hBt1.1; have dne : ¬ w.heap.size + 1 = w1.heap.size := (by omega); have dne2 : ¬ w1.heap.size = w.heap.size + 1 := (by omega); dsimp only)
    | (refine step_append_lies _ rfl (.tmp 23) (.tmp 29) 30 rfl (w.heap.size + 1 + 1) 84 i0 (.agg #[.int .i64 0, .int .i64 0]) 2 16 Tryz.underlying30 hi hz0 hz1 hz2 rfl (by decide) u pre.length (pre.flatMap stF) (by simp [Act.eval]) ((unhide HROW).below (below_then (below_then bw0 hb1) bw0)) _ 1 1 (stF ⟨xp, xy⟩) (by simp [Act.eval]) rfl (st_news (x := ⟨xp, xy⟩) (boxed_alloc _ _ _)) (st_one _) (by omega) (by have := unhide HLT; unfold maxLen; omega) (by have := unhide HLT; omega) (by have := hb1.size; simp at this ⊢; omega) _ rfl ?_; intro g cap w2 hown2 hgrow hat hlt2; have hneN : some (w.heap.size + 1) ≠ u.ownBlock := (fun hc => (by have := ((unhide HROW).lt _ hc.symm).1; omega)); have hS2 : w2.frozen? ⟨w.heap.size + 1, 4, none⟩ = false := (by rw [hgrow.frozen_far ⟨w.heap.size + 1, 4, none⟩ (by simp; omega) hneN]; rw [World.frozen?_alloc_old _ _ _ (by (try simp); omega)]; exact dz 4); have hS3 : w2.cell? ⟨w.heap.size + 1, 4, none⟩ = some u := (by rw [hgrow.cell_far ⟨w.heap.size + 1, 4, none⟩ (by simp; omega) hneN]; rw [World.cell?_alloc_past _ _ _ (by (try simp); omega)]; exact d4)))
   all_goals have hbr1 : Below wr.heap.size wr w1 := below_then bw0 hb1
   all_goals have hrow1 := (unhide HROW).below hbr1
   all_goals have hrow3 : StRow w2 (w.heap.size + 1 + 1) (.slice (some ⟨g, 0, none⟩) (pre.length + 1) cap) (pre ++ [⟨xp, xy⟩]) := Row.snoc hown2
   all_goals have hbw1 := below_then hb hbr1
   all_goals have hsz1 := hbr1.size
   all_goals have hbw2 : Below w.heap.size w w2 := row_below_grown hrow1 hbw1 hgrow (by omega) (by omega)
   all_goals have hBr2 := row_boxed_grown hrow1 hgrow (by omega) (hBr.below hbr1)
   all_goals have hBt2 := row_boxed_grown hrow1 hgrow (by omega) (hBt.below hbr1)
   all_goals have HR3 := hide hrow3
   all_goals clear hrow3 hown2 hgrow hrow1 hat
   all_goals go_wp2
   all_goals refine ⟨⟨k + 1, _, by omega, by go_num, ?_, hBr2.apart (p := ⟨w.heap.size + 1, 4, none⟩) (show w.heap.size ≠ w.heap.size + 1 by omega) _, hBt2.setAt (i := 4) (by simp) _, (bw1 hbw2)⟩, by simp [intOf]; omega⟩
   all_goals rw [unhide HT]
   all_goals exact hide ((unhide HR3).setCell (by simp) _)
  ·have hkl : k = xs.length := by omega
   have HK : Hid (xs.take k = xs) := by unfold Hid; rw [hkl]; simp
   have hrow := unhide HROW
   rw [unhide HK] at hrow
   obtain ⟨a, cap, rfl, hc, _⟩ := stRow_at hrow
   have HR := hide hrow
   clear hrow HROW
   have e0 := hBt.2.1 0 _ rfl
   have e1 := hBt.2.1 1 _ rfl
   have e2 := hBt.2.1 2 _ rfl
   have e3 := hBt.2.1 3 _ rfl
   have r0 := hBr.2.1 0 _ rfl
   have r1 := hBr.2.1 1 _ rfl
   have r2 := hBr.2.1 2 _ rfl
   have r3 := hBr.2.1 3 _ rfl
   have r4 := hBr.2.1 4 _ rfl
   have rz := hBr.2.2
   have rl := hBr.1
   go_wp2
   refine bodyPost_ret (v := .agg #[.int .i64 s.piece, .int .i64 s.at_, .int .i64 s.way, .int .i64 long, .slice a xs.length cap]) (by simp [results, Tryz.results40, go_sem, r0, r1, r2, r3, r4]) rfl ⟨a, cap, rfl, ?_, (bw1 hb)⟩
   exact (((((((unhide HR).setCell (by show w.heap.size < w.heap.size + 1 + 1; omega) _).setCell (by show w.heap.size < w.heap.size + 1 + 1; omega) _).setCell (by show w.heap.size < w.heap.size + 1 + 1; omega) _).setCell (by show w.heap.size < w.heap.size + 1 + 1; omega) _).setCell (by show w.heap.size < w.heap.size + 1 + 1; omega) _).mono (by omega))

end Go.Proofs.YtbdggfpfpjijoaaGreatDoor

namespace Go.Proofs.YtbdggfpfpjijoaaGreatDoor
open Go.RowKit

def NxBack (n : Nt) (zs : List Int) (s : St) (r : Option (St × St)) : Prop :=
 ∃ i k q, StandsAt n.joints (hd s.piece (-s.way)) i k ∧ OverIs n zs i k q ∧ ((q.2 ≠ 0 ∧ r = none) ∨ (q.2 = 0 ∧ r = some (twd q.1, twd q.1)))

theorem stands_fits {n : Nt} (hG : NetGood n) {e : Ed} {i k : Nat} (h : StandsAt n.joints e i k) : EdFits n.pieces.length e := by
 obtain ⟨hi, hk, he⟩ := h
 have := (hG.fits i hi).2.2 k hk
 rw [he] at this
 exact this

theorem nxBack_fun {n : Nt} (hG : NetGood n) {zs : List Int} : ∀ s a b, NxBack n zs s a → NxBack n zs s b → a = b := by
 rintro s a b ⟨i, k, q, hst, ⟨h1, h2, h3⟩, h⟩ ⟨i', k', q', hst', ⟨g1, g2, g3⟩, g⟩
 have hf := stands_fits hG hst
 have hu : uses n.joints (hd s.piece (-s.way)).piece (hd s.piece (-s.way)).side = 1 := by
  have := hG.hd (p := s.piece) hf.1.1 hf.1.2 (-s.way)
  exact this
 obtain ⟨rfl, rfl⟩ := stands_unique hu hst hst'
 rw [h3] at g3
 subst g3
 rcases h with ⟨h, rfl⟩ | ⟨h, rfl⟩ <;> rcases g with ⟨g, rfl⟩ | ⟨g, rfl⟩
 ·rfl
 ·exact absurd g h
 ·exact absurd h g
 ·rfl

theorem endOf_fits {n : Nt} (hG : NetGood n) {i : Nat} (hi : i < n.joints.length) {k : Nat} (hk : k < n.joints[i].ends.length) : EdFits n.pieces.length (endOf n.joints[i] k) := by
 have := (hG.fits i hi).2.2 k hk
 unfold endOf
 simpa [List.getD, List.getElem?_eq_getElem hk] using this

theorem overJ_fits {n : Nt} (hG : NetGood n) {i k : Nat} (hi : i < n.joints.length) (hk : k < n.joints[i].ends.length) {z : Int} {q : Ed × Int} (h : overJ n.joints[i] k z = q) (h0 : q.2 = 0) : EdFits n.pieces.length q.1 := by
 have hK := hG.kind hi
 obtain ⟨⟨h1, h4⟩, hl⟩ := hK
 subst h
 unfold overJ at h0 ⊢
 have h5 : n.joints[i].kind = 1 ∨ n.joints[i].kind = 2 ∨ n.joints[i].kind = 3 ∨ n.joints[i].kind = 4 := by omega
 rcases h5 with h | h | h | h
 ·simp [h] at h0
 ·simp only [h] at h0 ⊢
  simp only [if_true] at h0 ⊢
  exact endOf_fits hG hi (by omega)
 ·have hk3 : k = 0 ∨ k = 1 ∨ k = 2 := by omega
  by_cases hz : z = 0
  ·simp [h, hz] at h0
  ·by_cases hz2 : z = 2
   ·rcases hk3 with rfl | rfl | rfl
    ·simp [h, hz2]
     exact endOf_fits hG hi (by omega)
    ·simp [h, hz2] at h0
    ·simp [h, hz2]
     exact endOf_fits hG hi (by omega)
   ·rcases hk3 with rfl | rfl | rfl
    ·simp [h, hz, hz2]
     exact endOf_fits hG hi (by omega)
    ·simp [h, hz, hz2]
     exact endOf_fits hG hi (by omega)
    ·simp [h, hz, hz2] at h0
 ·simp only [h] at h0 ⊢
  simp at h0 ⊢
  have hk4 : k < 4 := by omega
  split
  ·exact endOf_fits hG hi (by omega)
  ·split
   ·exact endOf_fits hG hi (by omega)
   ·split <;> exact endOf_fits hG hi (by omega)

theorem twd_ok {n : Nt} {e : Ed} (h : EdFits n.pieces.length e) : StepOk n (twd e) := ⟨h.1, by unfold twd; dsimp only; split <;> simp⟩

def BackAt (n : Nt) (w0 : World) (k0 k1 k2 zv : Value) (C : Nat) (s : St) (w : World) : Prop :=
 Below w0.heap.size w0 w ∧ StepOk n s ∧ Boxed w C [k0, k1, k2, zv, .int .i64 s.piece, .int .i64 s.way]
theorem BackAt.kept {n : Nt} {w0 : World} {k0 k1 k2 zv : Value} {C : Nat} {s : St} {a b : World} {M : Nat} (h : BackAt n w0 k0 k1 k2 zv C s a) (hb : Below M a b) (hC : C < M) (h0 : w0.heap.size ≤ C) : BackAt n w0 k0 k1 k2 zv C s b := by
 obtain ⟨h1, h2, h3⟩ := h
 exact ⟨h1.trans (hb.mono (by omega)), h2, h3.kept hb hC⟩

end Go.Proofs.YtbdggfpfpjijoaaGreatDoor

namespace Go.Proofs.YtbdggfpfpjijoaaGreatDoor
open Go.RowKit

def PlaceGood (n : Nt) (zs : List Int) (s : Sp) (long : Int) : Prop := NetRes n 0 0 ∧ LiesFit n.joints zs ∧ SpotOk n s ∧ (1 ≤ long ∧ long ≤ 100000)
def noTr : Tr := ⟨⟨0, 0, 0⟩, 0, []⟩
def PlaceAns (n : Nt) (zs : List Int) (s : Sp) (long : Int) (ok : Bool) (t : Tr) : Prop :=
 (PlaceGood n zs s long ∧ ∃ xs r, LayOk (NxBack n zs) n (behind n s - long) ⟨s.piece, s.way⟩ xs r ∧ ok = true ∧ t = ⟨s, long, xs⟩)
 ∨ ((¬ PlaceGood n zs s long ∨ PlaceGood n zs s long ∧ LayNo (NxBack n zs) n (behind n s - long) ⟨s.piece, s.way⟩) ∧ ok = false ∧ t = noTr)
theorem PlaceAns.unique {n : Nt} {zs : List Int} {s : Sp} {long : Int} {ok ok' : Bool} {t t' : Tr} (h : PlaceAns n zs s long ok t) (g : PlaceAns n zs s long ok' t') : ok = ok' ∧ t = t' := by
 rcases h with ⟨hg, xs, r, hl, rfl, rfl⟩ | ⟨h, rfl, rfl⟩ <;> rcases g with ⟨gg, ys, q, gl, rfl, rfl⟩ | ⟨g, rfl, rfl⟩
 ·obtain ⟨rfl, rfl⟩ := layOk_unique (nxBack_fun (netGood hg.1)) hl gl
  exact ⟨rfl, rfl⟩
 ·rcases g with g | ⟨_, g⟩
  ·exact absurd hg g
  ·exact absurd g (layOk_no (nxBack_fun (netGood hg.1)) hl)
 ·rcases h with h | ⟨_, h⟩
  ·exact absurd gg h
  ·exact absurd h (layOk_no (nxBack_fun (netGood gg.1)) gl)
 ·exact ⟨rfl, rfl⟩
theorem PlaceAns.len {n : Nt} {zs : List Int} {s : Sp} {long : Int} {ok : Bool} {t : Tr} (h : PlaceAns n zs s long ok t) : t.back.length ≤ 200 := by
 rcases h with ⟨hg, xs, r, ⟨_, hl, _⟩, rfl, rfl⟩ | ⟨h, rfl, rfl⟩
 ·exact hl.few
 ·simp [noTr]

def RetPl (n : Nt) (zs : List Int) (s : Sp) (long : Int) (base : Nat) (e : Ending) (w' : World) : Prop :=
 ∃ ok t a cap, PlaceAns n zs s long ok t ∧ e = .returned (.agg #[.bool ok, .int .i64 t.front.piece, .int .i64 t.front.at_, .int .i64 t.front.way, .int .i64 t.long, .slice a t.back.length cap]) ∧ StRow w' base (.slice a t.back.length cap) t.back

theorem retPl_no {n : Nt} {zs : List Int} {s : Sp} {long : Int} {base : Nat} {w' : World} (h : ¬ PlaceGood n zs s long ∨ PlaceGood n zs s long ∧ LayNo (NxBack n zs) n (behind n s - long) ⟨s.piece, s.way⟩) :
  RetPl n zs s long base (.returned (.agg #[.bool false, .int .i64 0, .int .i64 0, .int .i64 0, .int .i64 0, .slice none 0 0])) w' :=
 ⟨false, noTr, none, 0, Or.inr ⟨h, rfl, rfl⟩, rfl, Row.nil _ _ _ _ _⟩

theorem below_set6 {B N : Nat} {a w : World} (h : Below B a w) (hN : B ≤ N) (v0 v1 v2 v3 v4 v5 : Value) :
  Below B a ((((((w.setCell ⟨N, 0, none⟩ v0).setCell ⟨N, 1, none⟩ v1).setCell ⟨N, 2, none⟩ v2).setCell ⟨N, 3, none⟩ v3).setCell ⟨N, 4, none⟩ v4).setCell ⟨N, 5, none⟩ v5) :=
 (((((h.setCell (p := ⟨N, 0, none⟩) hN v0).setCell (p := ⟨N, 1, none⟩) hN v1).setCell (p := ⟨N, 2, none⟩) hN v2).setCell (p := ⟨N, 3, none⟩) hN v3).setCell (p := ⟨N, 4, none⟩) hN v4).setCell (p := ⟨N, 5, none⟩) hN v5

end Go.Proofs.YtbdggfpfpjijoaaGreatDoor

