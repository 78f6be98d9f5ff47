import Derived.Test.YtjacbppeebnjfaaGreatMKt35
import Derived.Test.YtjacbppeebnjfaaGreatMRo
import Derived.Test.YtjacbppeebnjfaaGreatMPlain2
import Derived.Test.YtjacbppeebnjfaaGreatMPlain7
import Derived.Test.YtjacbppeebnjfaaGreatMSpec12
namespace Go.Proofs.YtjacbppeebnjfaaGreat
open Go.RowKit

def MovedAns (n : Nt) (zs : List Int) (t : Tr) (F : Int) (N : Nat) (e : Ending) (w' : World) : Prop :=
 ∃ (m : Mv) (code joint : Int) (ba : Option Addr) (bc : Nat) (oa : Option Addr) (oc : Nat), e = .returned (movedV code m.far joint m.s t.long (.slice ba m.xs.length bc) (.slice oa m.over.length oc)) ∧ RunIs n zs t.long F ⟨t.front, t.back, 0, []⟩ m code joint ∧ StRow w' N (.slice ba m.xs.length bc) m.xs ∧ PtRow w' N (.slice oa m.over.length oc) m.over

def cellI (w : World) (b o : Nat) : Int := match w.cell? ⟨b, o, none⟩ with
 | some (.int _ i) => i
 | _ => 0
theorem cellI_eq {w : World} {b o : Nat} {k : IntKind} {i : Int} (h : w.cell? ⟨b, o, none⟩ = some (.int k i)) : cellI w b o = i := by unfold cellI; rw [h]
def mvMeas (n : Nt) (F : Int) (OUT : Nat) (w : World) : Nat := 2 * (F - cellI w OUT 1).toNat + (if room n ⟨cellI w OUT 3, cellI w OUT 4, cellI w OUT 5⟩ = 0 then 1 else 0)

structure LmAt (w : World) (n : Nt) (zs : List Int) (t : Tr) (F : Int) (OUT : Nat) (x : Option Addr) (ca : Nat) (c : Option Addr) (cc : Nat) (m : Mv) (ba : Option Addr) (bc : Nat) (oa : Option Addr) (oc : Nat) (wr : World) : Prop where
 goes : Goes n zs t.long F ⟨t.front, t.back, 0, []⟩ m
 n0 : Boxed wr w.heap.size [.slice x n.pieces.length ca, .slice c n.joints.length cc]
 r9 : Boxed wr (w.heap.size + 1 + 1) [.int .i64 0, .int .i64 0, .int .i64 0, .int .i64 0, .int .i64 0, .int .i64 0, .int .i64 0, .slice none 0 0, .slice none 0 0]
 out : Boxed wr OUT [.int .i64 0, .int .i64 m.far, .int .i64 (-1), .int .i64 m.s.piece, .int .i64 m.s.at_, .int .i64 m.s.way, .int .i64 t.long, .slice ba m.xs.length bc, .slice oa m.over.length oc]
 bk : StRow wr (w.heap.size + 1 + 1 + 1) (.slice ba m.xs.length bc) m.xs
 bne : ∀ k, (Value.slice ba m.xs.length bc).ownBlock = some k → k ≠ OUT
 row : PtRow wr (OUT + 1) (.slice oa m.over.length oc) m.over
 below : Below w.heap.size w wr

theorem LmAt.stay {w : World} {n : Nt} {zs : List Int} {t : Tr} {F : Int} {OUT : Nat} {x : Option Addr} {ca : Nat} {c : Option Addr} {cc : Nat} {m : Mv} {ba : Option Addr} {bc : Nat} {oa : Option Addr} {oc : Nat} {wr wr' : World} (h : LmAt w n zs t F OUT x ca c cc m ba bc oa oc wr) (hb : Below wr.heap.size wr wr') : LmAt w n zs t F OUT x ca c cc m ba bc oa oc wr' :=
 ⟨h.goes, h.n0.below hb, h.r9.below hb, h.out.below hb, h.bk.below hb, h.bne, h.row.below hb, below_then h.below hb⟩
theorem LmAt.onlyX {w : World} {n : Nt} {zs : List Int} {t : Tr} {F : Int} {OUT XB : Nat} {x : Option Addr} {ca : Nat} {c : Option Addr} {cc : Nat} {m : Mv} {ba : Option Addr} {bc : Nat} {oa : Option Addr} {oc : Nat} {wr wr' : World} (h : LmAt w n zs t F OUT x ca c cc m ba bc oa oc wr) (ho : Only (fun k => k = XB) wr wr') (h1 : OUT < XB) (h2 : w.heap.size + 1 + 1 < XB) (hb : ∀ k, (Value.slice ba m.xs.length bc).ownBlock = some k → k ≠ XB) (hr : ∀ k, (Value.slice oa m.over.length oc).ownBlock = some k → k ≠ XB) : LmAt w n zs t F OUT x ca c cc m ba bc oa oc wr' :=
 ⟨h.goes, h.n0.onlyS ho (show ¬ w.heap.size = XB by omega), h.r9.onlyS ho (show ¬ w.heap.size + 1 + 1 = XB by omega), h.out.onlyS ho (show ¬ OUT = XB by omega), h.bk.only ho (fun k hk he => hb k hk he), h.bne, h.row.only ho (fun k hk he => hr k hk he), h.below.trans (ho.below h.below.size (fun k hk he => by omega))⟩
theorem pt_news {W : World} {N : Nat} {x : Pt} (h : Boxed W N [.int .i64 x.piece, .int .i64 x.fr, .int .i64 x.to]) : ∀ j u, (ptF x)[j]? = some u → W.cell? ((⟨N, 0, none⟩ : Addr).add j) = some u := by
 intro j u hj
 match j, hj with
 | 0, hj => simp [ptF] at hj; subst hj; simpa [Addr.add] using h.2.1 0 _ rfl
 | 1, hj => simp [ptF] at hj; subst hj; simpa [Addr.add] using h.2.1 1 _ rfl
 | 2, hj => simp [ptF] at hj; subst hj; simpa [Addr.add] using h.2.1 2 _ rfl
theorem pt_one (x : Pt) : ∀ u ∈ ptF x, u.oneCell' = true := by
 intro u hu
 simp [ptF] at hu
 rcases hu with rfl | rfl | rfl <;> rfl
theorem Row.news {α : Type} {w : World} {base g cap : Nat} {e : TypeId} {sz m : Nat} {f : α → List Value} {xs : List α} (h : Row w base e sz f (.slice (some ⟨g, 0, none⟩) m cap) xs) : ∀ j u, (xs.flatMap f)[j]? = some u → w.cell? ((⟨g, 0, none⟩ : Addr).add j) = some u := by
 intro j u hj
 obtain ⟨h0, ⟨h1, _⟩ | ⟨g', cap', cur, h1, _, hh, _, _, _, h5⟩⟩ := h
 ·simp at h1
 ·simp at h1
  obtain ⟨rfl, rfl, rfl⟩ := h1
  rw [← h5, List.getElem?_take] at hj
  split at hj
  ·have hadd : (⟨g, 0, none⟩ : Addr).add j = ⟨g, j, none⟩ := by unfold Addr.add; split <;> simp_all
   rw [hadd]
   unfold World.cell?
   rw [hh]
   simpa using hj
  ·simp at hj
theorem st_all (xs : List St) : ∀ u ∈ xs.flatMap stF, u.oneCell' = true := by
 intro u hu
 obtain ⟨x, _, hx⟩ := List.mem_flatMap.1 hu
 exact st_one x u hx
theorem row_one (W : World) (s : St) : StRow (W.alloc (.cells #[.int .i64 s.piece, .int .i64 s.way] 67)) W.heap.size (.slice (some ⟨W.heap.size, 0, none⟩) 1 1) [s] := by
 refine ⟨rfl, Or.inr ⟨W.heap.size, 1, #[.int .i64 s.piece, .int .i64 s.way], rfl, Nat.le_refl _, ?_, Nat.le_refl _, by unfold maxLen; omega, rfl, rfl⟩⟩
 show (W.heap.push _)[W.heap.size]? = _
 rw [Array.getElem?_push_size]
theorem row_cons {w : World} {base : Nat} {v : Value} {s : St} {xs : List St} (h : w.ownsRow base 67 2 v ([s].length + xs.length) ([s].flatMap stF ++ xs.flatMap stF)) : StRow w base v (s :: xs) := by
 have hc : s :: xs = [s] ++ xs := rfl
 unfold StRow Row
 rw [hc, List.flatMap_append, List.length_append]
 exact h
theorem enter_trim {n : Nt} (hG : NetGood n) {zs : List Int} {long F : Int} (hl : 0 < long) {m : Mv} (h : MvOk n long F m) (hr : room n m.s = 0) {i : Nat} {e : Ed} (ha : Ahead n zs m.s i (e, 0)) : takeLen n long (behind n (enterSp n e)) (⟨m.s.piece, m.s.way⟩ :: m.xs) = ⟨m.s.piece, m.s.way⟩ :: m.xs := by
 obtain ⟨h1, h2, _⟩ := enterSp_ok hG (ahead_fits hG ha)
 have hb := room_len hr
 refine takeLen_all fun j hj => ?_
 rw [h2]
 cases j with
 | zero => simp [sumLen_nil]; exact hl
 | succ j =>
  rw [List.take_succ_cons, sumLen_cons]
  have := h.trim j (by simp at hj; omega)
  dsimp only
  omega
theorem LmAt.meas {w : World} {n : Nt} {zs : List Int} {t : Tr} {F : Int} {OUT : Nat} {x : Option Addr} {ca : Nat} {c : Option Addr} {cc : Nat} {m : Mv} {ba : Option Addr} {bc : Nat} {oa : Option Addr} {oc : Nat} {wr : World} (h : LmAt w n zs t F OUT x ca c cc m ba bc oa oc wr) : mvMeas n F OUT wr = 2 * (F - m.far).toNat + (if room n m.s = 0 then 1 else 0) := by
 unfold mvMeas
 rw [cellI_eq (h.out.2.1 1 _ rfl), cellI_eq (h.out.2.1 3 _ rfl), cellI_eq (h.out.2.1 4 _ rfl), cellI_eq (h.out.2.1 5 _ rfl)]

set_option linter.unusedSimpArgs false in
set_option maxRecDepth 100000 in
set_option maxHeartbeats 40000000 in
theorem l3move_any (v : Value) (n : Nt) (ba0 : Option Addr) (bc0 : Nat) (zq : Option Addr) (zs : List Int) (zc : Nat) (t : Tr) (F : Int) (w : World) {L L' : Nat} (hv : NetAt L w v n) (hst : StsAt 0 w ba0 t.back) (hz : IntsAt L' w zq zs) (hG : NetGood n) (hL : LiesFit n.joints zs) (hT : TrainFits n t) (hF : 0 ≤ F ∧ F ≤ 10000) :
  Calls Tryz.prog 27 #[v, .slice zq zs.length zc, .agg #[.int .i64 t.front.piece, .int .i64 t.front.at_, .int .i64 t.front.way, .int .i64 t.long, .slice ba0 t.back.length bc0], .int .i64 F] w fun e w' => MovedAns n zs t F w.heap.size e w' ∧ Below w.heap.size w w' := by
 have hvv := hv
 obtain ⟨x, c, ca, cc, rfl, hp, hj⟩ := hv
 obtain ⟨i0, hi0, hz0, hz1, hz2⟩ := info_parts info_Part
 obtain ⟨i1, hi1, hy0, hy1, hy2⟩ := info_parts info_Step
 have hM0 := fits_mv hT hF.1
 have HT := hide hT
 have HM0 := hide hM0
 have HL := hide hL
 have hlong : 1 ≤ t.long ∧ t.long ≤ 100000 := hT.2.1
 clear hT hM0 hL
 go_enter Tryz.func27, Tryz.ntmps27
 go_wp2_with fail
 refine (l3trim_any _ _ n t _ (hvv.below ?_) ⟨ba0, bc0, rfl, hst.below ?_⟩ hG (unhide HM0).spot (unhide HM0).steps (by have := (unhide HM0).len; dsimp only at this; omega)).mono ?_
 ·exact bw0
 ·exact bw0
 have htrim : takeLen n t.long (behind n t.front) t.back = t.back := (unhide HM0).trimmed
 rw [htrim]
 rintro e w1 ⟨a1, c1, rfl, hbk1, hb1⟩
 have hbw1 : Below w.heap.size w w1 := below_then bw0 hb1
 have hn1 : Boxed w1 w.heap.size [.slice x n.pieces.length ca, .slice c n.joints.length cc] := (((boxed_alloc _ _ _).alloc _).alloc _).below hb1
 have ht1 : Boxed w1 (w.heap.size + 1) [.int .i64 t.front.piece, .int .i64 t.front.at_, .int .i64 t.front.way, .int .i64 t.long, .slice ba0 t.back.length bc0] := ((boxedN _ _ _ (by simp)).alloc _).below hb1
 have hr1 : Boxed w1 (w.heap.size + 1 + 1) [.int .i64 0, .int .i64 0, .int .i64 0, .int .i64 0, .int .i64 0, .int .i64 0, .int .i64 0, .slice none 0 0, .slice none 0 0] := (boxedN _ _ _ (by simp)).below hb1
 have hbk1' : StRow w1 (w.heap.size + 1 + 1 + 1) (.slice a1 t.back.length c1) t.back := by simpa using hbk1
 have HBK1 := hide hbk1'
 clear hbk1 hbk1' htrim
 obtain ⟨OUT, hOUT⟩ : ∃ OUT, w1.heap.size = OUT := ⟨_, rfl⟩
 have hA1 : Below w1.heap.size w1 (w1.alloc (.cells #[.int .i64 0, .int .i64 0, .int .i64 (-1), .int .i64 t.front.piece, .int .i64 t.front.at_, .int .i64 t.front.way, .int .i64 t.long, .slice a1 t.back.length c1, .slice none 0 0] 46)) := bw0
 have hn2 := hn1.below hA1
 have ht2 := ht1.below hA1
 have hr2 := hr1.below hA1
 have ho2 : Boxed (w1.alloc (.cells #[.int .i64 0, .int .i64 0, .int .i64 (-1), .int .i64 t.front.piece, .int .i64 t.front.at_, .int .i64 t.front.way, .int .i64 t.long, .slice a1 t.back.length c1, .slice none 0 0] 46)) OUT [.int .i64 0, .int .i64 0, .int .i64 (-1), .int .i64 t.front.piece, .int .i64 t.front.at_, .int .i64 t.front.way, .int .i64 t.long, .slice a1 t.back.length c1, .slice none 0 0] := by rw [← hOUT]; exact boxed_alloc _ _ _
 have HBK2 := hide ((unhide HBK1).below hA1)
 have hbw2 := below_then hbw1 hA1
 have hrl := hr1.1
 have htl := ht1.1
 have hnl := hn1.1
 have HOUT := hide hOUT
 clear hOUT
 have p0 := hn1.2.1 0 _ rfl
 have p1 := hn1.2.1 1 _ rfl
 have p2 := ht1.2.1 0 _ rfl
 have p3 := ht1.2.1 1 _ rfl
 have p4 := ht1.2.1 2 _ rfl
 have p5 := ht1.2.1 3 _ rfl
 have p6 := ht1.2.1 4 _ rfl
 go_wp2_with fail
 refine (l2sits_any _ _ n zq zs zc t _ (hvv.below hbw2) (hz.below hbw2) ⟨ba0, bc0, rfl, hst.below hbw2⟩ hG (unhide HL) (unhide HT)).mono ?_
 rintro e w3 ⟨hS, hb3⟩
 have hn0 := hn2.below hb3
 have hr9 := hr2.below hb3
 have hout := ho2.below hb3
 have hbel := below_then hbw2 hb3
 have hbk := (unhide HBK2).below hb3
 have hOUT := unhide HOUT
 have hOl : w.heap.size + 1 + 1 + 1 ≤ OUT := by omega
 have hbne : ∀ k, (Value.slice a1 t.back.length c1).ownBlock = some k → k ≠ OUT := fun k hk => by have := ((unhide HBK1).lt k hk).2; omega
 clear p0 p1 p2 p3 p4 p5 p6 hn1 ht1 hr1 hn2 ht2 hr2 ho2 HBK1 HBK2 hb3 hbw2 hb1 hbw1 hrl htl hnl hA1
 rw [hOUT]
 clear hOUT HOUT
 rcases hS with ⟨rfl, hS⟩ | ⟨rfl, hS⟩
 rotate_left
 ·have HS := hide hS
  clear hS
  have o0 := hout.2.1 0 _ rfl
  have o1 := hout.2.1 1 _ rfl
  have o2 := hout.2.1 2 _ rfl
  have o3 := hout.2.1 3 _ rfl
  have o4 := hout.2.1 4 _ rfl
  have o5 := hout.2.1 5 _ rfl
  have o6 := hout.2.1 6 _ rfl
  have o7 := hout.2.1 7 _ rfl
  have o8 := hout.2.1 8 _ rfl
  have oz := hout.2.2
  have ol := hout.1
  have r0 := hr9.2.1 0 _ rfl
  have r1 := hr9.2.1 1 _ rfl
  have r2 := hr9.2.1 2 _ rfl
  have r3 := hr9.2.1 3 _ rfl
  have r4 := hr9.2.1 4 _ rfl
  have r5 := hr9.2.1 5 _ rfl
  have r6 := hr9.2.1 6 _ rfl
  have r7 := hr9.2.1 7 _ rfl
  have r8 := hr9.2.1 8 _ rfl
  have rz := hr9.2.2
  have nro : ¬ w.heap.size + 1 + 1 = OUT := by omega
  have nor : ¬ OUT = w.heap.size + 1 + 1 := by omega
  have hos := only_setCell (S := fun k => k = OUT) w3 (p := ⟨OUT, 0, none⟩) rfl (.int .i64 4)
  have hrf := ((((((((((hr9.onlyS hos (show ¬ w.heap.size + 1 + 1 = OUT by omega)).setAt (i := 0) (by simp) (.int .i64 4)).setAt (i := 1) (by simp) (.int .i64 0)).setAt (i := 2) (by simp) (.int .i64 (-1))).setAt (i := 3) (by simp) (.int .i64 t.front.piece)).setAt (i := 4) (by simp) (.int .i64 t.front.at_)).setAt (i := 5) (by simp) (.int .i64 t.front.way)).setAt (i := 6) (by simp) (.int .i64 t.long)).setAt (i := 7) (by simp) (.slice a1 t.back.length c1)).setAt (i := 8) (by simp) (.slice none 0 0))
  have hor := (hos.mono (T := fun k => k = OUT ∨ k = w.heap.size + 1 + 1) (fun k _ h => Or.inl h)).trans ((((((((((only_setCell (S := fun k => k = w.heap.size + 1 + 1) _ (p := ⟨w.heap.size + 1 + 1, 0, none⟩) rfl (.int .i64 4)).trans (only_setCell (S := fun k => k = w.heap.size + 1 + 1) _ (p := ⟨w.heap.size + 1 + 1, 1, none⟩) rfl (.int .i64 0))).trans (only_setCell (S := fun k => k = w.heap.size + 1 + 1) _ (p := ⟨w.heap.size + 1 + 1, 2, none⟩) rfl (.int .i64 (-1)))).trans (only_setCell (S := fun k => k = w.heap.size + 1 + 1) _ (p := ⟨w.heap.size + 1 + 1, 3, none⟩) rfl (.int .i64 t.front.piece))).trans (only_setCell (S := fun k => k = w.heap.size + 1 + 1) _ (p := ⟨w.heap.size + 1 + 1, 4, none⟩) rfl (.int .i64 t.front.at_))).trans (only_setCell (S := fun k => k = w.heap.size + 1 + 1) _ (p := ⟨w.heap.size + 1 + 1, 5, none⟩) rfl (.int .i64 t.front.way))).trans (only_setCell (S := fun k => k = w.heap.size + 1 + 1) _ (p := ⟨w.heap.size + 1 + 1, 6, none⟩) rfl (.int .i64 t.long))).trans (only_setCell (S := fun k => k = w.heap.size + 1 + 1) _ (p := ⟨w.heap.size + 1 + 1, 7, none⟩) rfl (.slice a1 t.back.length c1))).trans (only_setCell (S := fun k => k = w.heap.size + 1 + 1) _ (p := ⟨w.heap.size + 1 + 1, 8, none⟩) rfl (.slice none 0 0))).mono (T := fun k => k = OUT ∨ k = w.heap.size + 1 + 1) (fun k _ h => Or.inr h))
  have hszb := hbel.size
  have HST6 := hide (hbk.only hor (fun k hk h => by have h1 := (hbk.lt k hk).1; have h2 := hbne k hk; omega))
  have HBF := hide (hbel.trans (hor.below (by omega) (fun k hk h => by omega)))
  have HFF := hide hrf
  clear hrf hor hos
  go_wp2
  have hrf := unhide HFF
  have f0 := hrf.2.1 0 _ rfl
  have f1 := hrf.2.1 1 _ rfl
  have f2 := hrf.2.1 2 _ rfl
  have f3 := hrf.2.1 3 _ rfl
  have f4 := hrf.2.1 4 _ rfl
  have f5 := hrf.2.1 5 _ rfl
  have f6 := hrf.2.1 6 _ rfl
  have f7 := hrf.2.1 7 _ rfl
  have f8 := hrf.2.1 8 _ rfl
  exact bodyPost_ret (v := movedV 4 0 (-1) t.front t.long (.slice a1 t.back.length c1) (.slice none 0 0)) (by simp [results, Tryz.results27, go_sem, f0, f1, f2, f3, f4, f5, f6, f7, f8, movedV]) rfl ⟨⟨⟨t.front, t.back, 0, []⟩, 4, -1, a1, c1, none, 0, rfl, Or.inr ⟨unhide HS, rfl, rfl, rfl⟩, (unhide HST6).mono (by omega), Row.nil _ _ _ _ _⟩, unhide HBF⟩
 have HS := hide hS
 clear hS
 have hLm0 : LmAt w n zs t F OUT x ca c cc ⟨t.front, t.back, 0, []⟩ a1 c1 none 0 w3 := ⟨.start, hn0, hr9, hout, hbk, hbne, Row.nil _ _ _ _ _, hbel⟩
 clear hn0 hr9 hout hbk hbne hbel
 go_wp2_with fail
 go_loopw [10] (fun _ wr => ∃ (m : Mv) (ba : Option Addr) (bc : Nat) (oa : Option Addr) (oc : Nat), Hid (LmAt w n zs t F OUT x ca c cc m ba bc oa oc wr)) (fun _ wr => mvMeas n F OUT wr)
 case atStart => exact ⟨_, _, _, _, _, hide hLm0⟩
 case round =>
  obtain ⟨m, ba, bc, oa, oc, HLM⟩ := hrel
  have hMq : MvOk n t.long F m := (unhide HLM).goes.ok hG (by omega) (unhide HM0)
  have hfar0 := hMq.far0
  have hfarF := hMq.farF
  have hn0 := (unhide HLM).n0
  have hr9 := (unhide HLM).r9
  have hout := (unhide HLM).out
  have hbk := (unhide HLM).bk
  have hrow := (unhide HLM).row
  have hbel := (unhide HLM).below
  have o1 := hout.2.1 1 _ rfl
  have ol1 := hout.1
  by_cases hlt : m.far < F
  ·have q0 := hn0.2.1 0 _ rfl
   have q1 := hn0.2.1 1 _ rfl
   have o3 := hout.2.1 3 _ rfl
   have o4 := hout.2.1 4 _ rfl
   have o5 := hout.2.1 5 _ rfl
   have nl := hn0.1
   have hlen := hG.len hMq.spot.1.1 hMq.spot.1.2
   have hbe0 := spot_behind hG hMq.spot
   have hbr : behind n m.s = lenOf n m.s.piece - room n m.s := rfl
   have hroom0 : 0 ≤ room n m.s := by have := hMq.spot.2.2; unfold room; split <;> omega
   have hat := hMq.spot.2.2
   have HMQ := hide hMq
   have hbela := hbel
   clear hn0 hr9 hbk hrow hMq
   go_wp2_with fail
   refine (l2room_any _ n m.s _ (hvv.below hbel) (unhide HMQ).spot hlen.2).mono ?_
   rintro e wa ⟨rfl, hba⟩
   have HLA := hide ((unhide HLM).stay hba)
   have HROLL : Hid (rollTo n m.s (F - m.far) = behind n m.s + (if room n m.s > F - m.far then F - m.far else room n m.s)) := by unfold Hid rollTo; split <;> split <;> omega
   have HMEAS := hide (unhide HLM).meas
   obtain ⟨rm, hrm⟩ : ∃ rm, room n m.s = rm := ⟨_, rfl⟩
   rw [hrm] at hbr hroom0 HROLL HMEAS ⊢
   have HRM := hide hrm
   clear hrm q0 q1 o3 o4 o5 nl o1 ol1 hout hbel hbela hba
   by_cases hr : rm = 0
   ·skip
    have hrm0 : room n m.s = 0 := (unhide HRM).trans hr
    have hrb : (rm == 0) = true := by simpa using hr
    have HRM0 := hide hrm0
    obtain ⟨i, kk, hstd⟩ := stands_some (hG.hd (unhide HMQ).spot.1.1 (unhide HMQ).spot.1.2 m.s.way)
    obtain ⟨r, hor⟩ : ∃ r, OverIs n zs i kk r := ⟨_, hstd.1, by rw [(unhide HL).1]; exact hstd.1, rfl⟩
    have hah : Ahead n zs m.s i r := ⟨kk, hstd, hor⟩
    have hfitR : r.2 = 0 → EdFits n.pieces.length r.1 := fun hq => by obtain ⟨g1, g2, g3⟩ := hor; exact overJ_fits hG g1 hstd.2.1 g3 hq
    have hfitE : EdFits n.pieces.length (hd m.s.piece m.s.way) := stands_fits hG hstd
    have HAH := hide hah
    have HFITR := hide hfitR
    have HOR := hide hor
    have HSTD := hide hstd
    clear hah hfitR hor hstd hrm0
    obtain ⟨⟨rp, rs⟩, rc⟩ := r
    obtain ⟨oe, hoe⟩ : ∃ oe, overEnd (hd m.s.piece m.s.way) (⟨rp, rs⟩, rc) = oe := ⟨_, rfl⟩
    have HOE := hide hoe
    clear hoe
    obtain ⟨op, os⟩ := oe
    have hn0 := (unhide HLA).n0
    have hout := (unhide HLA).out
    have hFb : Below wa.heap.size wa (wa.alloc (.cells #[.int .i64 m.s.piece, .int .i64 m.s.at_, .int .i64 m.s.way] 29)) := bw0
    have hFF : Boxed (wa.alloc (.cells #[.int .i64 m.s.piece, .int .i64 m.s.at_, .int .i64 m.s.way] 29)) wa.heap.size [.int .i64 m.s.piece, .int .i64 m.s.at_, .int .i64 m.s.way] := boxed_alloc _ _ _
    have HLF := hide ((unhide HLA).stay hFb)
    have o3 := hout.2.1 3 _ rfl
    have o4 := hout.2.1 4 _ rfl
    have o5 := hout.2.1 5 _ rfl
    have ol := hout.1
    have q0 := hn0.2.1 0 _ rfl
    have q1 := hn0.2.1 1 _ rfl
    have nl := hn0.1
    have hFr := hr
    clear hr
    go_upto_region 9 with fail
    generalize wa.alloc (.cells #[.int .i64 m.s.piece, .int .i64 m.s.at_, .int .i64 m.s.way] 29) = wf at *
    obtain ⟨FB, hFB⟩ : ∃ FB, wa.heap.size = FB := ⟨_, rfl⟩
    rw [hFB] at hFF ⊢
    have hFl := hFF.1
    have hFn : w.heap.size < FB := by omega
    have hFo : OUT < FB := by omega
    clear hFB hFb o3 o4 o5 ol q0 q1 nl hn0 hout
    have hn0 := (unhide HLF).n0
    have q0 := hn0.2.1 0 _ rfl
    have q1 := hn0.2.1 1 _ rfl
    have b0 := hFF.2.1 0 _ rfl
    have b2 := hFF.2.1 2 _ rfl
    have nl := hn0.1
    have ne0 : ¬ wf.heap.size = w.heap.size := by omega
    have ne1 : ¬ w.heap.size = wf.heap.size := by omega
    have ne2 : ¬ wf.heap.size = FB := by omega
    have ne3 : ¬ FB = wf.heap.size := by omega
    go_cut [12, 13, 14] (fun p z y wx => ∃ B, p = .pointer (some ⟨B, 0, none⟩) ∧ z = .int .i64 rc ∧ y = .int .i64 i ∧ wf.heap.size ≤ B ∧ Boxed wx B [.int .i64 op, .int .i64 os] ∧ Below wf.heap.size wf wx)
    case first =>
     go_region_held3 (fun w' => w'.cell? ⟨w.heap.size, 0, none⟩ = some (.slice x n.pieces.length ca) ∧ w'.cell? ⟨w.heap.size, 1, none⟩ = some (.slice c n.joints.length cc) ∧ w'.cell? ⟨FB, 0, none⟩ = some (.int .i64 m.s.piece) ∧ w'.cell? ⟨FB, 2, none⟩ = some (.int .i64 m.s.way))
      (((try dsimp only); (repeat' apply And.intro)) <;> (go_keep; done))
      (first
       | (go_at_call 61; refine (l2head_any _ _ _).mono ?_; rintro e w5 ⟨rfl, hb5⟩; obtain ⟨hc5, hf5⟩ := bcell hb5; have sz5 := hb5.size; (try simp at sz5); (try have lt5 := Nat.lt_of_succ_le sz5); have new10 : ¬ w5.heap.size = FB := (by omega); have mew10 : ¬ FB = w5.heap.size := (by omega); have new11 : ¬ w5.heap.size = w.heap.size := (by omega); have mew11 : ¬ w.heap.size = w5.heap.size := (by omega); have q0 := hc5 (w.heap.size) (0) (by first | (simp; done) | (simp; omega) | omega); have q1 := hc5 (w.heap.size) (1) (by first | (simp; done) | (simp; omega) | omega); have q2 := hc5 (FB) (0) (by first | (simp; done) | (simp; omega) | omega); have q3 := hc5 (FB) (1) (by first | (simp; done) | (simp; omega) | omega); have q4 := hc5 (FB) (2) (by first | (simp; done) | (simp; omega) | omega))
       | (go_at_call 60; refine (l2over_any _ n _ zs _ (hd m.s.piece m.s.way) i kk (⟨rp, rs⟩, rc) _ (hvv.below (below_then (unhide HLF).below ?_)) (hz.below (below_then (unhide HLF).below ?_)) hG (unhide HL) hfitE (unhide HSTD) (unhide HOR)).mono ?_; (first | exact below_then bw0 hb5 | exact below_then (below_then bw0 hb5) bw0); (first | exact below_then bw0 hb5 | exact below_then (below_then bw0 hb5) bw0); rw [unhide HOE]; rintro e w6 ⟨rfl, hb6⟩; obtain ⟨hc6, hf6⟩ := bcell hb6; have sz6 := hb6.size; (try simp at sz6); (try have lt6 := Nat.lt_of_succ_le sz6); have new20 : ¬ w6.heap.size = FB := (by omega); have mew20 : ¬ FB = w6.heap.size := (by omega); have new21 : ¬ w6.heap.size = w.heap.size := (by omega); have mew21 : ¬ w.heap.size = w6.heap.size := (by omega); have r0 := hc6 (w.heap.size) (0) (by first | (have := hb5.size; omega) | (have := hb5.size; simp at this ⊢; omega) | (simp; omega)); have r1 := hc6 (w.heap.size) (1) (by first | (have := hb5.size; omega) | (have := hb5.size; simp at this ⊢; omega) | (simp; omega)); have r2 := hc6 (FB) (0) (by first | (have := hb5.size; omega) | (have := hb5.size; simp at this ⊢; omega) | (simp; omega)); have r3 := hc6 (FB) (1) (by first | (have := hb5.size; omega) | (have := hb5.size; simp at this ⊢; omega) | (simp; omega)); have r4 := hc6 (FB) (2) (by first | (have := hb5.size; omega) | (have := hb5.size; simp at this ⊢; omega) | (simp; omega))))
     all_goals go_wp2_with fail
     all_goals go_meet
     ·refine ⟨_, rfl, rfl, rfl, by omega, boxed_alloc _ _ _, below_then (below_then (below_then bw0 hb5) hb6) bw0⟩
     ·have hZ : Boxed w6 w5.heap.size [.int .i64 0, .int .i64 0] := (boxed_alloc _ _ _).below hb6
      refine ⟨_, rfl, rfl, rfl, by omega, hZ.put2 _ _, ?_⟩
      have hbw6 := below_then (below_then (below_then (bw0 : Below wf.heap.size wf _) hb5) bw0) hb6
      exact (bw1 hbw6)
     ·have hZ : Boxed w6 wf.heap.size [.int .i64 0, .int .i64 0] := (((boxed_alloc _ _ _).drew).below hb5).below hb6
      refine ⟨_, rfl, rfl, rfl, by omega, hZ.put2 _ _, ?_⟩
      have hbw6 := below_then (below_then (bw0 : Below wf.heap.size wf _) hb5) hb6
      exact (bw1 hbw6)
    case rest =>
     obtain ⟨B, rfl, rfl, rfl, hBl, hBe, hbc⟩ := hcut
     have HLC := hide ((unhide HLF).stay hbc)
     have hFc := hFF.below hbc
     have hszc := hbc.size
     have hnc := (unhide HLC).n0
     have hoc := (unhide HLC).out
     clear q0 q1 b0 b2 nl ne0 ne1 ne2 ne3 hn0
     have q0 := hnc.2.1 0 _ rfl
     have q1 := hnc.2.1 1 _ rfl
     have o0 := hoc.2.1 0 _ rfl
     have o2 := hoc.2.1 2 _ rfl
     have o3 := hoc.2.1 3 _ rfl
     have o4 := hoc.2.1 4 _ rfl
     have o5 := hoc.2.1 5 _ rfl
     have o6 := hoc.2.1 6 _ rfl
     have o7 := hoc.2.1 7 _ rfl
     have oz := hoc.2.2
     have ol := hoc.1
     have nl := hnc.1
     have no1 : ¬ w.heap.size = OUT := by omega
     have no2 : ¬ OUT = w.heap.size := by omega
     by_cases hq : rc = 0
     rotate_left
     ·have hqb := ne_beq hq
      have hqn : (rc != 0) = true := by simp [bne, hqb]
      have hO8 := (only_setCell (S := fun k => k = OUT) wc (p := ⟨OUT, 0, none⟩) rfl (.int .i64 rc)).trans (only_setCell (S := fun k => k = OUT) _ (p := ⟨OUT, 2, none⟩) rfl (.int .i64 i))
      have HN8 := hide (hnc.onlyS hO8 (show ¬ w.heap.size = OUT by omega))
      have HR8 := hide ((unhide HLC).r9.onlyS hO8 (show ¬ w.heap.size + 1 + 1 = OUT by omega))
      have HO8 := hide ((hoc.setAt (i := 0) (by simp) (.int .i64 rc)).setAt (i := 2) (by simp) (.int .i64 i))
      have HB8 := hide ((unhide HLC).bk.only hO8 (fun k hk (he : k = OUT) => (unhide HLC).bne k hk he))
      have HRW8 := hide ((unhide HLC).row.only hO8 (fun k hk (he : k = OUT) => by have := ((unhide HLC).row.lt k hk).1; omega))
      have HBL8 := hide ((unhide HLC).below.trans (hO8.below (unhide HLC).below.size (fun k hk (he : k = OUT) => by omega)))
      have HRIS : Hid (RunIs n zs t.long F ⟨t.front, t.back, 0, []⟩ m rc i) := Or.inl ⟨unhide HS, (unhide HLM).goes, Or.inr ⟨hlt, unhide HRM0, i, (⟨rp, rs⟩, rc), unhide HAH, Or.inl ⟨hq, rfl, rfl⟩⟩⟩
      clear hO8 hq hqb
      go_wp2_with fail
      clear q0 q1 o0 o2 o3 o4 o5 o6 o7 oz ol nl hnc hoc
      have hn0 := unhide HN8
      have hr9 := unhide HR8
      have hout := unhide HO8
      have hbk := unhide HB8
      have hrow := unhide HRW8
      have hbel := unhide HBL8
      have hMq := unhide HMQ
      refine (l3trim_any _ _ n ⟨m.s, t.long, m.xs⟩ _ (hvv.below hbel) ⟨ba, bc, rfl, stRow_sts hbk⟩ hG hMq.spot hMq.steps (by have := hMq.len; show m.xs.length ≤ 1000; omega)).mono ?_
      have htrim : takeLen n t.long (behind n m.s) m.xs = m.xs := hMq.trimmed
      dsimp only
      rw [htrim]
      rintro e wt ⟨ta, tc, rfl, hrowt, hbt⟩
      have hout2 := ((((((hout.below hbt).setAt (i := 3) (by simp) (.int .i64 m.s.piece)).setAt (i := 4) (by simp) (.int .i64 m.s.at_)).setAt (i := 5) (by simp) (.int .i64 m.s.way)).setAt (i := 6) (by simp) (.int .i64 t.long)).setAt (i := 7) (by simp) (.slice ta m.xs.length tc))
      have hoo := (((((only_setCell (S := fun k => k = OUT) wt (p := ⟨OUT, 3, none⟩) rfl (.int .i64 m.s.piece)).trans (only_setCell (S := fun k => k = OUT) _ (p := ⟨OUT, 4, none⟩) rfl (.int .i64 m.s.at_))).trans (only_setCell (S := fun k => k = OUT) _ (p := ⟨OUT, 5, none⟩) rfl (.int .i64 m.s.way))).trans (only_setCell (S := fun k => k = OUT) _ (p := ⟨OUT, 6, none⟩) rfl (.int .i64 t.long))).trans (only_setCell (S := fun k => k = OUT) _ (p := ⟨OUT, 7, none⟩) rfl (.slice ta m.xs.length tc)))
      have hrf := (((((((((((hr9.below hbt).onlyS hoo (show ¬ w.heap.size + 1 + 1 = OUT by omega)).setAt (i := 0) (by simp) (.int .i64 rc)).setAt (i := 1) (by simp) (.int .i64 m.far)).setAt (i := 2) (by simp) (.int .i64 (i : Int))).setAt (i := 3) (by simp) (.int .i64 m.s.piece)).setAt (i := 4) (by simp) (.int .i64 m.s.at_)).setAt (i := 5) (by simp) (.int .i64 m.s.way)).setAt (i := 6) (by simp) (.int .i64 t.long)).setAt (i := 7) (by simp) (.slice ta m.xs.length tc)).setAt (i := 8) (by simp) (.slice oa m.over.length oc))
      have hor := (hoo.mono (T := fun k => k = OUT ∨ k = w.heap.size + 1 + 1) (fun k _ h => Or.inl h)).trans ((((((((((only_setCell (S := fun k => k = w.heap.size + 1 + 1) _ (p := ⟨w.heap.size + 1 + 1, 0, none⟩) rfl (.int .i64 rc)).trans (only_setCell (S := fun k => k = w.heap.size + 1 + 1) _ (p := ⟨w.heap.size + 1 + 1, 1, none⟩) rfl (.int .i64 m.far))).trans (only_setCell (S := fun k => k = w.heap.size + 1 + 1) _ (p := ⟨w.heap.size + 1 + 1, 2, none⟩) rfl (.int .i64 (i : Int)))).trans (only_setCell (S := fun k => k = w.heap.size + 1 + 1) _ (p := ⟨w.heap.size + 1 + 1, 3, none⟩) rfl (.int .i64 m.s.piece))).trans (only_setCell (S := fun k => k = w.heap.size + 1 + 1) _ (p := ⟨w.heap.size + 1 + 1, 4, none⟩) rfl (.int .i64 m.s.at_))).trans (only_setCell (S := fun k => k = w.heap.size + 1 + 1) _ (p := ⟨w.heap.size + 1 + 1, 5, none⟩) rfl (.int .i64 m.s.way))).trans (only_setCell (S := fun k => k = w.heap.size + 1 + 1) _ (p := ⟨w.heap.size + 1 + 1, 6, none⟩) rfl (.int .i64 t.long))).trans (only_setCell (S := fun k => k = w.heap.size + 1 + 1) _ (p := ⟨w.heap.size + 1 + 1, 7, none⟩) rfl (.slice ta m.xs.length tc))).trans (only_setCell (S := fun k => k = w.heap.size + 1 + 1) _ (p := ⟨w.heap.size + 1 + 1, 8, none⟩) rfl (.slice oa m.over.length oc))).mono (T := fun k => k = OUT ∨ k = w.heap.size + 1 + 1) (fun k _ h => Or.inr h))
      have hbelt := below_then hbel hbt
      have hszt := hbt.size
      have hszb := hbel.size
      have hol9 := hout.1
      have hrl9 := hr9.1
      have hst6 := hrowt.only hor (fun k hk h => by have h1 := (hrowt.lt k hk).1; omega)
      have hpt6 := (hrow.below hbt).only hor (fun k hk h => by have h1 := (hrow.lt k hk).1; omega)
      have hbf := hbelt.trans (hor.below (by omega) (fun k hk h => by omega))
      have f0 := hrf.2.1 0 _ rfl
      have f1 := hrf.2.1 1 _ rfl
      have f2 := hrf.2.1 2 _ rfl
      have f3 := hrf.2.1 3 _ rfl
      have f4 := hrf.2.1 4 _ rfl
      have f5 := hrf.2.1 5 _ rfl
      have f6 := hrf.2.1 6 _ rfl
      have f7 := hrf.2.1 7 _ rfl
      have f8 := hrf.2.1 8 _ rfl
      have HF := hide (And.intro f0 (And.intro f1 (And.intro f2 (And.intro f3 (And.intro f4 (And.intro f5 (And.intro f6 (And.intro f7 f8))))))))
      have HST6 := hide hst6
      have HPT6 := hide hpt6
      have HBF := hide hbf
      have houtt := hout.below hbt
      have hr9t := hr9.below hbt
      clear f0 f1 f2 f3 f4 f5 f6 f7 f8 hst6 hpt6 hbf hrf hor hoo hout2 htrim
      have o0 := houtt.2.1 0 _ rfl
      have o1 := houtt.2.1 1 _ rfl
      have o2 := houtt.2.1 2 _ rfl
      have o3 := houtt.2.1 3 _ rfl
      have o4 := houtt.2.1 4 _ rfl
      have o5 := houtt.2.1 5 _ rfl
      have o6 := houtt.2.1 6 _ rfl
      have o7 := houtt.2.1 7 _ rfl
      have o8 := houtt.2.1 8 _ rfl
      have oz := houtt.2.2
      have ol := houtt.1
      have r0 := hr9t.2.1 0 _ rfl
      have r1 := hr9t.2.1 1 _ rfl
      have r2 := hr9t.2.1 2 _ rfl
      have r3 := hr9t.2.1 3 _ rfl
      have r4 := hr9t.2.1 4 _ rfl
      have r5 := hr9t.2.1 5 _ rfl
      have r6 := hr9t.2.1 6 _ rfl
      have r7 := hr9t.2.1 7 _ rfl
      have r8 := hr9t.2.1 8 _ rfl
      have rz := hr9t.2.2
      have nro : ¬ w.heap.size + 1 + 1 = OUT := by omega
      have nor : ¬ OUT = w.heap.size + 1 + 1 := by omega
      go_wp2
      obtain ⟨f0, f1, f2, f3, f4, f5, f6, f7, f8⟩ := unhide HF
      exact bodyPost_ret (v := movedV rc m.far (i : Int) m.s t.long (.slice ta m.xs.length tc) (.slice oa m.over.length oc)) (by simp [results, Tryz.results27, go_sem, f0, f1, f2, f3, f4, f5, f6, f7, f8, movedV]) rfl ⟨⟨m, rc, (i : Int), ta, tc, oa, oc, rfl, unhide HRIS, (unhide HST6).mono (by omega), (unhide HPT6).mono (by omega)⟩, unhide HBF⟩
     subst hq
     obtain ⟨e1, e2⟩ : op = rp ∧ os = rs := by
      have := unhide HOE
      simp [overEnd] at this
      exact ⟨this.1.symm, this.2.symm⟩
     subst e1 e2
     have hfit := unhide HFITR rfl
     (try dsimp only at hfit)
     have hah : Ahead n zs m.s i (⟨op, os⟩, 0) := unhide HAH
     have htk := enter_trim hG (show 0 < t.long by omega) (unhide HMQ) (unhide HRM0) hah
     obtain ⟨hen1, hen2, _⟩ := enterSp_ok hG hfit
     have henM : (enterM n m ⟨op, os⟩).s = enterSp n ⟨op, os⟩ := rfl
     obtain ⟨en, hen⟩ : ∃ en, enterSp n ⟨op, os⟩ = en := ⟨_, rfl⟩
     rw [hen] at htk hen1 hen2 henM
     have hrp : 0 < room n en := by
      have h3 := hG.len hen1.1.1 hen1.1.2
      have h4 : behind n en = lenOf n en.piece - room n en := rfl
      omega
     have HAH2 := hide hah
     have HTK := hide htk
     have HFIT := hide hfit
     have HEN := hide hen
     have HEN1 := hide hen1
     have HENM := hide henM
     have HRP := hide hrp
     clear hah htk hen hen1 hen2 henM hrp hfit
     obtain ⟨ep, ea, ey⟩ := en
     have b0 := hBe.2.1 0 _ rfl
     have b1 := hBe.2.1 1 _ rfl
     have bl := hBe.1
     obtain ⟨XB, hXB⟩ : ∃ XB, wc.heap.size = XB := ⟨_, rfl⟩
     have hbX : Below wc.heap.size wc (wc.alloc (.cells #[.int .i64 m.s.piece, .int .i64 m.s.at_, .int .i64 m.s.way, .int .i64 t.long, .slice ba m.xs.length bc] 32)) := bw0
     have hXX : Boxed (wc.alloc (.cells #[.int .i64 m.s.piece, .int .i64 m.s.at_, .int .i64 m.s.way, .int .i64 t.long, .slice ba m.xs.length bc] 32)) XB [.int .i64 m.s.piece, .int .i64 m.s.at_, .int .i64 m.s.way, .int .i64 t.long, .slice ba m.xs.length bc] := by rw [← hXB]; exact boxed_alloc _ _ _
     have HXB := hide hXB
     clear hXB
     go_wp2_with fail
     refine (l2enter_any _ n ⟨op, os⟩ _ (hvv.below (below_then (unhide HLC).below hbX)) (unhide HFIT)).mono ?_
     rw [unhide HEN, unhide HXB]
     rintro e w7 ⟨rfl, hb7⟩
     have hb7c := below_then hbX hb7
     have HL7 := hide ((unhide HLC).stay hb7c)
     have hX7 := hXX.below hb7
     have hF7 := hFc.below hb7c
     have hXl : w.heap.size < XB ∧ OUT < XB ∧ FB < XB := by have := unhide HXB; omega
     have hszX : XB < w7.heap.size := hX7.1
     clear q0 q1 o0 o2 o3 o4 o5 o6 o7 oz ol nl hnc hoc b0 b1 bl hXX
     have f0 := hF7.2.1 0 _ rfl
     have f2 := hF7.2.1 2 _ rfl
     have fl := hF7.1
     have x0 := hX7.2.1 0 _ rfl
     have x1 := hX7.2.1 1 _ rfl
     have x2 := hX7.2.1 2 _ rfl
     have x4 := hX7.2.1 4 _ rfl
     have xz := hX7.2.2
     have nx1 : ¬ FB = XB := by omega
     have nx2 : ¬ XB = FB := by omega
     (try dsimp only)
     go_upto_region 15 with fail
     have hw78 : Only (fun k => k = XB) w7 (((w7.setCell ⟨XB, 0, none⟩ (.int .i64 ep)).setCell ⟨XB, 1, none⟩ (.int .i64 ea)).setCell ⟨XB, 2, none⟩ (.int .i64 ey)) := ((only_setCell (S := fun k => k = XB) w7 (p := ⟨XB, 0, none⟩) rfl _).trans (only_setCell (S := fun k => k = XB) _ (p := ⟨XB, 1, none⟩) rfl _)).trans (only_setCell (S := fun k => k = XB) _ (p := ⟨XB, 2, none⟩) rfl _)
     have hbX1 : ∀ k, (Value.slice ba m.xs.length bc).ownBlock = some k → k ≠ XB := fun k hk => by have := ((unhide HLC).bk.lt k hk).2; have := unhide HXB; omega
     have hrX1 : ∀ k, (Value.slice oa m.over.length oc).ownBlock = some k → k ≠ XB := fun k hk => by have := ((unhide HLC).row.lt k hk).2; have := unhide HXB; omega
     have HL8 := hide ((unhide HL7).onlyX hw78 hXl.2.1 (by omega) hbX1 hrX1)
     have hX8 := ((hX7.setAt (i := 0) (by simp) (.int .i64 ep)).setAt (i := 1) (by simp) (.int .i64 ea)).setAt (i := 2) (by simp) (.int .i64 ey)
     have hF8 := hF7.onlyS hw78 (show ¬ FB = XB by omega)
     have HBX1 := hide hbX1
     have HRX1 := hide hrX1
     clear f0 f2 fl x0 x1 x2 x4 xz hw78 hbX1 hrX1 hX7 hF7
     generalize (((w7.setCell ⟨XB, 0, none⟩ (.int .i64 ep)).setCell ⟨XB, 1, none⟩ (.int .i64 ea)).setCell ⟨XB, 2, none⟩ (.int .i64 ey)) = w8 at *
     have hl8 := hX8.1
     have f0 := hF8.2.1 0 _ rfl
     have f2 := hF8.2.1 2 _ rfl
     have fl := hF8.1
     have x4 := hX8.2.1 4 _ rfl
     have xz := hX8.2.2
     have nx3 : ¬ w8.heap.size = XB := by omega
     have nx4 : ¬ XB = w8.heap.size := by omega
     have hm200 := (unhide HMQ).len
     go_cut [15] (fun p wx => p = .pointer (some ⟨XB, 0, none⟩) ∧ ∃ (va : Option Addr) (vc : Nat), Boxed wx XB [.int .i64 ep, .int .i64 ea, .int .i64 ey, .int .i64 t.long, .slice va (m.xs.length + 1) vc] ∧ StRow wx (XB + 1) (.slice va (m.xs.length + 1) vc) (⟨m.s.piece, m.s.way⟩ :: m.xs) ∧ Hid (LmAt w n zs t F OUT x ca c cc m ba bc oa oc wx))
     case first =>
      obtain ⟨_, ⟨hv, hn⟩ | ⟨g0, cap0, cur0, hv, _⟩⟩ := (unhide HL8).bk
      ·simp at hv
       obtain ⟨hv1, hv2, hv3⟩ := hv
       have hnil : m.xs = [] := hv2
       subst hv1
       subst hv3
       have x4' := x4
       rw [hnil, List.length_nil] at x4'
       have HNIL := hide hnil
       clear x4 hv2 hnil
       have hO9 := only_setCell (S := fun k => k = XB) w8 (p := ⟨XB, 4, none⟩) rfl (.slice (some ⟨w8.heap.size, 0, none⟩) 1 1)
       have hr1 := row_one (w8.setCell ⟨XB, 4, none⟩ (.slice (some ⟨w8.heap.size, 0, none⟩) 1 1)) ⟨m.s.piece, m.s.way⟩
       rw [setCell_size] at hr1
       have HR9' := hide (hr1.mono (show XB + 1 ≤ w8.heap.size by omega))
       have HL9 := hide (((unhide HL8).onlyX hO9 hXl.2.1 (by omega) (unhide HBX1) (unhide HRX1)).stay (bw0 : Below _ _ ((w8.setCell ⟨XB, 4, none⟩ (.slice (some ⟨w8.heap.size, 0, none⟩) 1 1)).alloc (.cells #[.int .i64 m.s.piece, .int .i64 m.s.way] 67))))
       have HX9 := hide ((hX8.setAt (i := 4) (by simp) (.slice (some ⟨w8.heap.size, 0, none⟩) 1 1)).alloc (.cells #[.int .i64 m.s.piece, .int .i64 m.s.way] 67))
       clear hr1 hO9
       go_wp2_with fail
       go_meet
       refine ⟨rfl, some ⟨w8.heap.size, 0, none⟩, 1, ?_, ?_, HL9⟩
       ·rw [unhide HNIL]; exact unhide HX9
       ·rw [unhide HNIL]; exact unhide HR9'
      ·simp at hv
       obtain ⟨hv1, hv2⟩ := hv
       subst hv1
       subst hv2
       go_wp2_with (at_builtin; refine wpList_append_own _ rfl (.tmp 71) (.tmp 73) 30 rfl w8.heap.size 67 i1 (.agg #[.int .i64 0, .int .i64 0]) 2 16 Tryz.underlying30 hi1 hy0 hy1 hy2 rfl (by decide) _ _ _ rfl (row_one w8 ⟨m.s.piece, m.s.way⟩) ⟨g0, 0, none⟩ m.xs.length bc (m.xs.flatMap stF) rfl ?d0 ?d1 (st_all _) ?d3 ?d4 ?d5 ?_)
       case d0 => rw [flat_len stF_len]
       case d1 => exact ((unhide HL8).bk.below bw0).news
       case d3 => simp only [List.length_singleton]; unfold maxLen; omega
       case d4 => simp only [List.length_singleton]; omega
       case d5 => simp
       intro v' w9 hown' hgrow _
       have hb89 : Below w8.heap.size w8 w9 := Below.grown bw0 hgrow (by simp) (fun k hk => by simp [Value.ownBlock] at hk; omega)
       have hrow' : StRow w9 w8.heap.size v' (⟨m.s.piece, m.s.way⟩ :: m.xs) := row_cons hown'
       obtain ⟨va, vc, hva, _, _⟩ := stRow_at hrow'
       rw [List.length_cons] at hva
       subst hva
       have hX9 := hX8.below hb89
       have y4 := hX9.2.1 4 _ rfl
       have yz := hX9.2.2
       have hO9 := only_setCell (S := fun k => k = XB) w9 (p := ⟨XB, 4, none⟩) rfl (.slice va (m.xs.length + 1) vc)
       have HR9' := hide ((hrow'.only hO9 (fun k hk (he : k = XB) => by have := (hrow'.lt k hk).1; omega)).mono (show XB + 1 ≤ w8.heap.size by omega))
       have HL9 := hide (((unhide HL8).stay hb89).onlyX hO9 hXl.2.1 (by omega) (unhide HBX1) (unhide HRX1))
       have HX9 := hide (hX9.setAt (i := 4) (by simp) (.slice va (m.xs.length + 1) vc))
       clear hown' hgrow hrow' hO9 hX9
       go_wp2_with fail
       go_meet
       exact ⟨rfl, va, vc, unhide HX9, unhide HR9', HL9⟩
     case rest =>
      obtain ⟨rfl, va, vc, hXc, hrowc, HLc⟩ := hcut
      clear f0 f2 fl x4 xz nx3 nx4
      have hnc := (unhide HLc).n0
      have q0 := hnc.2.1 0 _ rfl
      have q1 := hnc.2.1 1 _ rfl
      have nl := hnc.1
      have x0 := hXc.2.1 0 _ rfl
      have x1 := hXc.2.1 1 _ rfl
      have x2 := hXc.2.1 2 _ rfl
      have x3 := hXc.2.1 3 _ rfl
      have x4 := hXc.2.1 4 _ rfl
      have xl := hXc.1
      have HROWC := hide hrowc
      clear hrowc
      go_wp2_with fail
      refine (l3count_any _ _ n ⟨⟨ep, ea, ey⟩, t.long, ⟨m.s.piece, m.s.way⟩ :: m.xs⟩ _ (hvv.below (unhide HLc).below) ⟨va, vc, rfl, stRow_sts (unhide HROWC)⟩ hG (unhide HEN1) ?hst (by simp; omega)).mono ?_
      case hst =>
       intro y hy
       rcases List.mem_cons.1 hy with rfl | hy
       ·exact ⟨(unhide HMQ).spot.1, (unhide HMQ).spot.2.1⟩
       ·exact (unhide HMQ).steps y hy
      dsimp only
      rw [unhide HTK, List.length_cons]
      obtain ⟨cnt, hcnt⟩ : ∃ cnt : Int, ((m.xs.length + 1 : Nat) : Int) = cnt := ⟨_, rfl⟩
      rw [hcnt]
      have HCNT := hide hcnt
      clear hcnt
      rintro e w9 ⟨rfl, hb9⟩
      have HL9 := hide ((unhide HLc).stay hb9)
      have hX9 := hXc.below hb9
      have hrow9 := (unhide HROWC).below hb9
      have HROW9 := hide hrow9
      clear q0 q1 nl x0 x1 x2 x3 x4 xl hnc hrow9
      have hnc := (unhide HL9).n0
      have hoc := (unhide HL9).out
      have q0 := hnc.2.1 0 _ rfl
      have q1 := hnc.2.1 1 _ rfl
      have o0 := hoc.2.1 0 _ rfl
      have o2 := hoc.2.1 2 _ rfl
      have o3 := hoc.2.1 3 _ rfl
      have o4 := hoc.2.1 4 _ rfl
      have o5 := hoc.2.1 5 _ rfl
      have o6 := hoc.2.1 6 _ rfl
      have o7 := hoc.2.1 7 _ rfl
      have oz := hoc.2.2
      have ol := hoc.1
      have nl := hnc.1
      by_cases hx : m.xs.length = 200
      ·have hgt : (200 : Int) < cnt := by have := unhide HCNT; omega
       have hO8 := (only_setCell (S := fun k => k = OUT) w9 (p := ⟨OUT, 0, none⟩) rfl (.int .i64 6)).trans (only_setCell (S := fun k => k = OUT) _ (p := ⟨OUT, 2, none⟩) rfl (.int .i64 i))
       have HN8 := hide (hnc.onlyS hO8 (show ¬ w.heap.size = OUT by omega))
       have HR8 := hide ((unhide HL9).r9.onlyS hO8 (show ¬ w.heap.size + 1 + 1 = OUT by omega))
       have HO8 := hide ((hoc.setAt (i := 0) (by simp) (.int .i64 6)).setAt (i := 2) (by simp) (.int .i64 i))
       have HB8 := hide ((unhide HL9).bk.only hO8 (fun k hk (he : k = OUT) => (unhide HL9).bne k hk he))
       have HRW8 := hide ((unhide HL9).row.only hO8 (fun k hk (he : k = OUT) => by have := ((unhide HL9).row.lt k hk).1; omega))
       have HBL8 := hide ((unhide HL9).below.trans (hO8.below (unhide HL9).below.size (fun k hk (he : k = OUT) => by omega)))
       have HRIS : Hid (RunIs n zs t.long F ⟨t.front, t.back, 0, []⟩ m 6 i) := Or.inl ⟨unhide HS, (unhide HLM).goes, Or.inr ⟨hlt, unhide HRM0, i, (⟨op, os⟩, 0), unhide HAH2, Or.inr ⟨rfl, hx, rfl, rfl⟩⟩⟩
       clear hO8 hx
       go_wp2_with fail
       clear q0 q1 o0 o2 o3 o4 o5 o6 o7 oz ol nl hnc hoc
       have hn0 := unhide HN8
       have hr9 := unhide HR8
       have hout := unhide HO8
       have hbk := unhide HB8
       have hrow := unhide HRW8
       have hbel := unhide HBL8
       have hMq := unhide HMQ
       refine (l3trim_any _ _ n ⟨m.s, t.long, m.xs⟩ _ (hvv.below hbel) ⟨ba, bc, rfl, stRow_sts hbk⟩ hG hMq.spot hMq.steps (by have := hMq.len; show m.xs.length ≤ 1000; omega)).mono ?_
       have htrim : takeLen n t.long (behind n m.s) m.xs = m.xs := hMq.trimmed
       dsimp only
       rw [htrim]
       rintro e wt ⟨ta, tc, rfl, hrowt, hbt⟩
       have hout2 := ((((((hout.below hbt).setAt (i := 3) (by simp) (.int .i64 m.s.piece)).setAt (i := 4) (by simp) (.int .i64 m.s.at_)).setAt (i := 5) (by simp) (.int .i64 m.s.way)).setAt (i := 6) (by simp) (.int .i64 t.long)).setAt (i := 7) (by simp) (.slice ta m.xs.length tc))
       have hoo := (((((only_setCell (S := fun k => k = OUT) wt (p := ⟨OUT, 3, none⟩) rfl (.int .i64 m.s.piece)).trans (only_setCell (S := fun k => k = OUT) _ (p := ⟨OUT, 4, none⟩) rfl (.int .i64 m.s.at_))).trans (only_setCell (S := fun k => k = OUT) _ (p := ⟨OUT, 5, none⟩) rfl (.int .i64 m.s.way))).trans (only_setCell (S := fun k => k = OUT) _ (p := ⟨OUT, 6, none⟩) rfl (.int .i64 t.long))).trans (only_setCell (S := fun k => k = OUT) _ (p := ⟨OUT, 7, none⟩) rfl (.slice ta m.xs.length tc)))
       have hrf := (((((((((((hr9.below hbt).onlyS hoo (show ¬ w.heap.size + 1 + 1 = OUT by omega)).setAt (i := 0) (by simp) (.int .i64 6)).setAt (i := 1) (by simp) (.int .i64 m.far)).setAt (i := 2) (by simp) (.int .i64 (i : Int))).setAt (i := 3) (by simp) (.int .i64 m.s.piece)).setAt (i := 4) (by simp) (.int .i64 m.s.at_)).setAt (i := 5) (by simp) (.int .i64 m.s.way)).setAt (i := 6) (by simp) (.int .i64 t.long)).setAt (i := 7) (by simp) (.slice ta m.xs.length tc)).setAt (i := 8) (by simp) (.slice oa m.over.length oc))
       have hor := (hoo.mono (T := fun k => k = OUT ∨ k = w.heap.size + 1 + 1) (fun k _ h => Or.inl h)).trans ((((((((((only_setCell (S := fun k => k = w.heap.size + 1 + 1) _ (p := ⟨w.heap.size + 1 + 1, 0, none⟩) rfl (.int .i64 6)).trans (only_setCell (S := fun k => k = w.heap.size + 1 + 1) _ (p := ⟨w.heap.size + 1 + 1, 1, none⟩) rfl (.int .i64 m.far))).trans (only_setCell (S := fun k => k = w.heap.size + 1 + 1) _ (p := ⟨w.heap.size + 1 + 1, 2, none⟩) rfl (.int .i64 (i : Int)))).trans (only_setCell (S := fun k => k = w.heap.size + 1 + 1) _ (p := ⟨w.heap.size + 1 + 1, 3, none⟩) rfl (.int .i64 m.s.piece))).trans (only_setCell (S := fun k => k = w.heap.size + 1 + 1) _ (p := ⟨w.heap.size + 1 + 1, 4, none⟩) rfl (.int .i64 m.s.at_))).trans (only_setCell (S := fun k => k = w.heap.size + 1 + 1) _ (p := ⟨w.heap.size + 1 + 1, 5, none⟩) rfl (.int .i64 m.s.way))).trans (only_setCell (S := fun k => k = w.heap.size + 1 + 1) _ (p := ⟨w.heap.size + 1 + 1, 6, none⟩) rfl (.int .i64 t.long))).trans (only_setCell (S := fun k => k = w.heap.size + 1 + 1) _ (p := ⟨w.heap.size + 1 + 1, 7, none⟩) rfl (.slice ta m.xs.length tc))).trans (only_setCell (S := fun k => k = w.heap.size + 1 + 1) _ (p := ⟨w.heap.size + 1 + 1, 8, none⟩) rfl (.slice oa m.over.length oc))).mono (T := fun k => k = OUT ∨ k = w.heap.size + 1 + 1) (fun k _ h => Or.inr h))
       have hbelt := below_then hbel hbt
       have hszt := hbt.size
       have hszb := hbel.size
       have hol9 := hout.1
       have hrl9 := hr9.1
       have hst6 := hrowt.only hor (fun k hk h => by have h1 := (hrowt.lt k hk).1; omega)
       have hpt6 := (hrow.below hbt).only hor (fun k hk h => by have h1 := (hrow.lt k hk).1; omega)
       have hbf := hbelt.trans (hor.below (by omega) (fun k hk h => by omega))
       have f0 := hrf.2.1 0 _ rfl
       have f1 := hrf.2.1 1 _ rfl
       have f2 := hrf.2.1 2 _ rfl
       have f3 := hrf.2.1 3 _ rfl
       have f4 := hrf.2.1 4 _ rfl
       have f5 := hrf.2.1 5 _ rfl
       have f6 := hrf.2.1 6 _ rfl
       have f7 := hrf.2.1 7 _ rfl
       have f8 := hrf.2.1 8 _ rfl
       have HF := hide (And.intro f0 (And.intro f1 (And.intro f2 (And.intro f3 (And.intro f4 (And.intro f5 (And.intro f6 (And.intro f7 f8))))))))
       have HST6 := hide hst6
       have HPT6 := hide hpt6
       have HBF := hide hbf
       have houtt := hout.below hbt
       have hr9t := hr9.below hbt
       clear f0 f1 f2 f3 f4 f5 f6 f7 f8 hst6 hpt6 hbf hrf hor hoo hout2 htrim
       have o0 := houtt.2.1 0 _ rfl
       have o1 := houtt.2.1 1 _ rfl
       have o2 := houtt.2.1 2 _ rfl
       have o3 := houtt.2.1 3 _ rfl
       have o4 := houtt.2.1 4 _ rfl
       have o5 := houtt.2.1 5 _ rfl
       have o6 := houtt.2.1 6 _ rfl
       have o7 := houtt.2.1 7 _ rfl
       have o8 := houtt.2.1 8 _ rfl
       have oz := houtt.2.2
       have ol := houtt.1
       have r0 := hr9t.2.1 0 _ rfl
       have r1 := hr9t.2.1 1 _ rfl
       have r2 := hr9t.2.1 2 _ rfl
       have r3 := hr9t.2.1 3 _ rfl
       have r4 := hr9t.2.1 4 _ rfl
       have r5 := hr9t.2.1 5 _ rfl
       have r6 := hr9t.2.1 6 _ rfl
       have r7 := hr9t.2.1 7 _ rfl
       have r8 := hr9t.2.1 8 _ rfl
       have rz := hr9t.2.2
       have nro : ¬ w.heap.size + 1 + 1 = OUT := by omega
       have nor : ¬ OUT = w.heap.size + 1 + 1 := by omega
       go_wp2
       obtain ⟨f0, f1, f2, f3, f4, f5, f6, f7, f8⟩ := unhide HF
       exact bodyPost_ret (v := movedV 6 m.far (i : Int) m.s t.long (.slice ta m.xs.length tc) (.slice oa m.over.length oc)) (by simp [results, Tryz.results27, go_sem, f0, f1, f2, f3, f4, f5, f6, f7, f8, movedV]) rfl ⟨⟨m, 6, (i : Int), ta, tc, oa, oc, rfl, unhide HRIS, (unhide HST6).mono (by omega), (unhide HPT6).mono (by omega)⟩, unhide HBF⟩
      ·have hgt : ¬ (200 : Int) < cnt := by have := unhide HCNT; omega
       have hx200 : m.xs.length < 200 := by omega
       have y0 := hX9.2.1 0 _ rfl
       have y1 := hX9.2.1 1 _ rfl
       have y2 := hX9.2.1 2 _ rfl
       have y3 := hX9.2.1 3 _ rfl
       have y4 := hX9.2.1 4 _ rfl
       have yl := hX9.1
       have nx5 : ¬ XB = OUT := by omega
       have nx6 : ¬ OUT = XB := by omega
       have HX200 := hide hx200
       clear hx hx200
       go_wp2_with fail
       have hx200 := unhide HX200
       have hO8 := (((((only_setCell (S := fun k => k = OUT) w9 (p := ⟨OUT, 3, none⟩) rfl (.int .i64 ep)).trans (only_setCell (S := fun k => k = OUT) _ (p := ⟨OUT, 4, none⟩) rfl (.int .i64 ea))).trans (only_setCell (S := fun k => k = OUT) _ (p := ⟨OUT, 5, none⟩) rfl (.int .i64 ey))).trans (only_setCell (S := fun k => k = OUT) _ (p := ⟨OUT, 6, none⟩) rfl (.int .i64 t.long))).trans (only_setCell (S := fun k => k = OUT) _ (p := ⟨OUT, 7, none⟩) rfl (.slice va (m.xs.length + 1) vc)))
       have ho8 := ((((((unhide HL9).out.setAt (i := 3) (by simp) (.int .i64 ep)).setAt (i := 4) (by simp) (.int .i64 ea)).setAt (i := 5) (by simp) (.int .i64 ey)).setAt (i := 6) (by simp) (.int .i64 t.long)).setAt (i := 7) (by simp) (.slice va (m.xs.length + 1) vc))
       obtain ⟨m', hm'⟩ : ∃ m', enterM n m ⟨op, os⟩ = m' := ⟨_, rfl⟩
       have hgo : Goes n zs t.long F ⟨t.front, t.back, 0, []⟩ m' := by rw [← hm']; exact .step (unhide HLM).goes (.enter hlt (unhide HRM0) (unhide HAH2) hx200)
       have hm1 : m'.s = ⟨ep, ea, ey⟩ := by rw [← hm']; exact unhide HENM
       have hm2 : m'.far = m.far := by rw [← hm']; rfl
       have hm3 : m'.over = m.over := by rw [← hm']; rfl
       have hm4 : m'.xs = ⟨m.s.piece, m.s.way⟩ :: m.xs := by rw [← hm']; rfl
       have hLm : LmAt w n zs t F OUT x ca c cc m' va vc oa oc _ := ⟨hgo, (unhide HL9).n0.onlyS hO8 (show ¬ w.heap.size = OUT by omega), (unhide HL9).r9.onlyS hO8 (show ¬ w.heap.size + 1 + 1 = OUT by omega), by rw [hm1, hm2, hm3, hm4]; exact ho8,
        by rw [hm4]; exact ((unhide HROW9).only hO8 (fun k hk (he : k = OUT) => by have := ((unhide HROW9).lt k hk).1; omega)).mono (by omega), fun k hk => by rw [hm4] at hk; have := ((unhide HROW9).lt k hk).1; omega, by rw [hm3]; exact (unhide HL9).row.only hO8 (fun k hk (he : k = OUT) => by have := ((unhide HL9).row.lt k hk).1; omega), (unhide HL9).below.trans (hO8.below (unhide HL9).below.size (fun k hk (he : k = OUT) => by omega))⟩
       have hms := hLm.meas
       rw [hm1, hm2] at hms
       have HLMX := hide hLm
       clear hm1 hm2 hm3 hm4 hgo hm'
       have HMS := hide hms
       refine ⟨⟨_, va, vc, _, _, HLMX⟩, ?_⟩
       rw [unhide HMS, unhide HMEAS, if_pos hFr, if_neg (by have := unhide HRP; omega)]
       omega
   ·have hrb : (rm == 0) = false := by simpa using hr
    have hrpos : 0 < rm := by omega
    have o1 := (unhide HLA).out.2.1 1 _ rfl
    have ol1 := (unhide HLA).out.1
    go_upto_if 90 with fail
    go_cut [10] (fun y wx => ∃ d, y = .int .i64 d ∧ wa = wx ∧ Hid (rollTo n m.s (F - m.far) = behind n m.s + d) ∧ (0 < d ∧ d ≤ 10000 ∧ d ≤ rm ∧ d ≤ F - m.far))
    case first =>
     by_cases hgt : rm > F - m.far
     ·have HRE : Hid (rollTo n m.s (F - m.far) = behind n m.s + (F - m.far)) := by have := unhide HROLL; rw [if_pos hgt] at this; exact this
      have hRE : 0 < F - m.far ∧ F - m.far ≤ 10000 ∧ F - m.far ≤ rm ∧ F - m.far ≤ F - m.far := ⟨by omega, by omega, by omega, by omega⟩
      go_wp2_with fail
      go_meet
      exact ⟨_, rfl, rfl, HRE, hRE⟩
     ·have HRE : Hid (rollTo n m.s (F - m.far) = behind n m.s + rm) := by have := unhide HROLL; rw [if_neg hgt] at this; exact this
      have hRE : 0 < rm ∧ rm ≤ 10000 ∧ rm ≤ rm ∧ rm ≤ F - m.far := ⟨by omega, by omega, by omega, by omega⟩
      go_wp2_with fail
      go_meet
      exact ⟨_, rfl, rfl, HRE, hRE⟩
    case rest =>
     obtain ⟨d, rfl, rfl, HRE, hRE⟩ := hcut
     have q0 := (unhide HLA).n0.2.1 0 _ rfl
     have q1 := (unhide HLA).n0.2.1 1 _ rfl
     have o3 := (unhide HLA).out.2.1 3 _ rfl
     have o4 := (unhide HLA).out.2.1 4 _ rfl
     have o5 := (unhide HLA).out.2.1 5 _ rfl
     have nl := (unhide HLA).n0.1
     go_wp2_with fail
     refine (l2behind_any _ n m.s _ (hvv.below (unhide HLA).below) (unhide HMQ).spot hlen.2).mono ?_
     rintro e wb ⟨rfl, hbb⟩
     have HLB := hide ((unhide HLA).stay hbb)
     have hwy : m.s.way = 1 ∨ m.s.way = -1 := (unhide HMQ).spot.2.1
     have hw1 : IntKind.i64.wrap (d * m.s.way) = d * m.s.way := wrap_small (by rcases hwy with h | h <;> rw [h] <;> omega) (by rcases hwy with h | h <;> rw [h] <;> omega)
     have hw2 : IntKind.i64.wrap (m.s.at_ + d * m.s.way) = m.s.at_ + d * m.s.way := wrap_small (by rcases hwy with h | h <;> rw [h] <;> omega) (by rcases hwy with h | h <;> rw [h] <;> omega)
     have hrs : rolledSp n m.s (F - m.far) = ⟨m.s.piece, m.s.at_ + d * m.s.way, m.s.way⟩ := by
      unfold rolledSp
      rw [unhide HRE]
      congr 1
      rw [show behind n m.s + d - behind n m.s = d by omega, Int.mul_comm]
     obtain ⟨pp, hpp⟩ : ∃ pp, partOf n ⟨m.s.piece, m.s.way⟩ (behind n m.s) (behind n m.s + d) = pp := ⟨_, rfl⟩
     obtain ⟨m', hm'⟩ : ∃ m', rollM n t.long F m = m' := ⟨_, rfl⟩
     have hroomp : 0 < room n m.s := by rw [unhide HRM]; exact hrpos
     have hgo : Goes n zs t.long F ⟨t.front, t.back, 0, []⟩ m' := by rw [← hm']; exact .step (unhide HLM).goes (.roll hlt hroomp)
     have hm1 : m'.s = ⟨m.s.piece, m.s.at_ + d * m.s.way, m.s.way⟩ := by rw [← hm', ← hrs]; rfl
     have hm2 : m'.far = m.far + d := by rw [← hm']; show m.far + (rollTo n m.s (F - m.far) - behind n m.s) = _; rw [unhide HRE]; omega
     have hm3 : m'.over = m.over ++ [pp] := by rw [← hm', ← hpp, ← unhide HRE]; rfl
     have hm4 : m'.xs = takeLen n t.long (behind n ⟨m.s.piece, m.s.at_ + d * m.s.way, m.s.way⟩) m.xs := by rw [← hm', ← hrs]; rfl
     have hsp' : SpotOk n ⟨m.s.piece, m.s.at_ + d * m.s.way, m.s.way⟩ := by rw [← hrs]; exact (rolled_ok hG (unhide HMQ).spot (by omega)).1
     have hom : (m.over.length : Int) ≤ 10000 := by have := (unhide HMQ).over; omega
     have HPP := hide hpp
     have HGO := hide hgo
     have HM1 := hide hm1
     have HM2 := hide hm2
     have HM3 := hide hm3
     have HM4 := hide hm4
     have HSP' := hide hsp'
     obtain ⟨beh, hbe⟩ : ∃ beh, behind n m.s = beh := ⟨_, rfl⟩
     rw [hbe] at hbe0 hbr HPP ⊢
     clear hpp hgo hm1 hm2 hm3 hm4 hsp' hrs hm' hroomp hbe o1 ol1 q0 q1 o3 o4 o5 nl
     have hbl : beh + d ≤ 10000000 := by omega
     have hws : IntKind.i64.wrap (beh + d) = beh + d := wrap_small (by omega) (by omega)
     clear hbr
     have hn0 := (unhide HLB).n0
     have hout := (unhide HLB).out
     have hsO : OUT < wb.heap.size := hout.1
     have hON : w.heap.size < OUT := by omega
     have q0 := hn0.2.1 0 _ rfl
     have q1 := hn0.2.1 1 _ rfl
     have o3 := hout.2.1 3 _ rfl
     have o5 := hout.2.1 5 _ rfl
     have o8 := hout.2.1 8 _ rfl
     have oz := hout.2.2
     have nl := hn0.1
     go_upto_region 23 with fail
     go_cut [16] (fun _ wx => ∃ (g : Nat) (gcap : Nat), Boxed wx w.heap.size [.slice x n.pieces.length ca, .slice c n.joints.length cc] ∧ Boxed wx (w.heap.size + 1 + 1) [.int .i64 0, .int .i64 0, .int .i64 0, .int .i64 0, .int .i64 0, .int .i64 0, .int .i64 0, .slice none 0 0, .slice none 0 0] ∧ Boxed wx OUT [.int .i64 0, .int .i64 m.far, .int .i64 (-1), .int .i64 m.s.piece, .int .i64 m.s.at_, .int .i64 m.s.way, .int .i64 t.long, .slice ba m.xs.length bc, .slice (some ⟨g, 0, none⟩) (m.over.length + 1) gcap]
       ∧ PtRow wx (OUT + 1) (.slice (some ⟨g, 0, none⟩) (m.over.length + 1) gcap) (m.over ++ [pp]) ∧ StRow wx (w.heap.size + 1 + 1 + 1) (.slice ba m.xs.length bc) m.xs ∧ Below w.heap.size w wx)
     case first =>
      refine wp_region_held_drew (S := fun w' => w'.cell? ⟨w.heap.size, 0, none⟩ = some (.slice x n.pieces.length ca) ∧ w'.cell? ⟨w.heap.size, 1, none⟩ = some (.slice c n.joints.length cc) ∧ w'.cell? ⟨OUT, 3, none⟩ = some (.int .i64 m.s.piece) ∧ w'.cell? ⟨OUT, 5, none⟩ = some (.int .i64 m.s.way)) (by kernel_rfl) ?_ (fun hHeld => ?_)
      ·exact ⟨by simpa using q0, by simpa using q1, by simpa using o3, by simpa using o5⟩
      refine tkH 0 ?_
      refine tkH 2 ?_
      refine tkH 3 ?_
      refine tkH 4 ?_
      refine tkH 5 ?_
      refine tkH 6 ?_
      refine tkH 7 ?_
      refine tkH 8 ?_
      refine tkH 9 ?_
      refine tkH 10 ?_
      refine tkH 11 ?_
      refine tkH 12 ?_
      refine tkH 13 ?_
      refine tkH 14 ?_
      refine wpAnyH_ready (rs := [1, 15]) (by kernel_rfl) (by simp) ?_
      refine AllReadyH.cons rfl (fun K hK => ?_) (AllReadyH.cons rfl (fun K hK => ?_) AllReadyH.nil)
      ·go_simp
       refine hK.out _ _ ?_ (fun hHeld => ?_)
       ·exact hHeld
       clear hK K
       (try simp only [sA])
       refine wpAnyH_ready (rs := [15]) (by kernel_rfl) (by simp) ?_
       refine AllReadyH.cons rfl (fun K hK => ?_) AllReadyH.nil
       go_simp
       refine (l2part_any _ n ⟨m.s.piece, m.s.way⟩ beh (beh + d) _ (hvv.below (below_then (unhide HLB).below bw0)) ⟨(unhide HMQ).spot.1, (unhide HMQ).spot.2.1⟩ hlen.2 (show (0 : Int) ≤ lenOf n m.s.piece by omega) ⟨by omega, by omega⟩ ⟨by omega, by omega⟩).mono ?_
       rw [unhide HPP]
       rintro e wc ⟨rfl, hbc⟩
       dsimp only
       have hbk1 : Below wb.heap.size wb wc := below_then bw0 hbc
       have hnc := hn0.below hbk1
       have hoc := hout.below hbk1
       have hrc := (unhide HLB).r9.below hbk1
       have d8 := hoc.2.1 8 _ rfl
       have dl := hoc.1
       have dn := hnc.1
       refine hK.out _ _ ⟨hnc.2.1 0 _ rfl, hnc.2.1 1 _ rfl, hoc.2.1 3 _ rfl, hoc.2.1 5 _ rfl⟩ (fun hHeld => ?_)
       clear hK K
       (try simp only [sA])
       refine wpAnyH_ready (rs := [16]) (by kernel_rfl) (by simp) ?_
       refine AllReadyH.cons rfl (fun K hK => ?_) AllReadyH.nil
       go_simp
       have hnB := hnc.alloc (.cells #[.int .i64 pp.piece, .int .i64 pp.fr, .int .i64 pp.to] 148)
       have hoB := hoc.alloc (.cells #[.int .i64 pp.piece, .int .i64 pp.fr, .int .i64 pp.to] 148)
       have b8 := hoB.2.1 8 _ rfl
       have blt := hoB.1
       refine hK.out _ _ ⟨hnB.2.1 0 _ rfl, hnB.2.1 1 _ rfl, hoB.2.1 3 _ rfl, hoB.2.1 5 _ rfl⟩ (fun hHeld => ?_)
       clear hK K
       (try simp only [sA])
       refine wpAnyH_ready (rs := [17]) (by kernel_rfl) (by simp) ?_
       refine AllReadyH.cons rfl (fun K hK => ?_) AllReadyH.nil
       refine step_append_lies _ rfl (.tmp 101) (.tmp 116) 44 rfl (OUT + 1) 148 i0 (.agg #[.int .i64 0, .int .i64 0, .int .i64 0]) 3 24 Tryz.underlying44 hi0 hz0 hz1 hz2 rfl (by decide) (.slice oa m.over.length oc) m.over.length (m.over.flatMap ptF) (by simp [Act.eval]) (((unhide HLB).row.below hbk1).below bw0) _ 1 1 (ptF pp) (by simp [Act.eval]) rfl (pt_news (x := pp) (boxed_alloc _ _ _)) (pt_one _) (by omega) (by unfold maxLen; omega) (by omega) (by simp; omega) _ rfl ?_
       intro g gcap w2 hown2 hgrow hat2 hlt2
       have hrlt := (unhide HLB).row.lt
       have hn2 := hnB.grownE hgrow (fun hc => by have := (hrlt _ hc).1; omega)
       have ho2 := hoB.grownE hgrow (fun hc => by have := (hrlt _ hc).1; omega)
       have hr2 := (hrc.alloc (.cells #[.int .i64 pp.piece, .int .i64 pp.fr, .int .i64 pp.to] 148)).grownE hgrow (fun hc => by have := (hrlt _ hc).1; omega)
       have hbk2 := ((((unhide HLB).bk.below hbk1).below (bw0 : Below wc.heap.size wc (wc.alloc (.cells #[.int .i64 pp.piece, .int .i64 pp.fr, .int .i64 pp.to] 148)))).kept hgrow (fun k hk hc => Row.apart (unhide HLB).bk (unhide HLB).row (by decide) k hk hc))
       have hbl2 : Below w.heap.size w w2 := Below.grown (below_then (below_then (unhide HLB).below hbk1) bw0) hgrow (by have := (unhide HLB).below.size; have := hbk1.size; simp; omega) (fun k hk => by have := (hrlt _ hk).1; omega)
       have hrow2 : PtRow w2 (OUT + 1) (.slice (some ⟨g, 0, none⟩) (m.over.length + 1) gcap) (m.over ++ [pp]) := Row.snoc (f := ptF) hown2
       refine hK.out _ _ ⟨hn2.2.1 0 _ rfl, hn2.2.1 1 _ rfl, ho2.2.1 3 _ rfl, ho2.2.1 5 _ rfl⟩ (fun hHeld => ?_)
       clear hK K
       (try simp only [sA])
       refine wpAnyH_ready (rs := [18]) (by kernel_rfl) (by simp) ?_
       refine AllReadyH.cons rfl (fun K hK => ?_) AllReadyH.nil
       go_simp
       refine hK.out _ _ hHeld (fun hHeld => ?_)
       clear hK K
       (try simp only [sA])
       refine wpAnyH_ready (rs := [19]) (by kernel_rfl) (by simp) ?_
       refine AllReadyH.cons rfl (fun K hK => ?_) AllReadyH.nil
       have e8 := ho2.2.1 8 _ rfl
       have ez := ho2.2.2
       have hn3 := hn2.apart (p := ⟨OUT, 8, none⟩) (show w.heap.size ≠ OUT by omega) (.slice (some ⟨g, 0, none⟩) (m.over.length + 1) gcap)
       have hr3 := hr2.apart (p := ⟨OUT, 8, none⟩) (show w.heap.size + 1 + 1 ≠ OUT by omega) (.slice (some ⟨g, 0, none⟩) (m.over.length + 1) gcap)
       have ho3 := ho2.setAt (i := 8) (by simp) (.slice (some ⟨g, 0, none⟩) (m.over.length + 1) gcap)
       go_simp
       refine hK.out _ _ ⟨hn3.2.1 0 _ rfl, hn3.2.1 1 _ rfl, ho3.2.1 3 _ rfl, ho3.2.1 5 _ rfl⟩ (fun hHeld => ?_)
       clear hK K
       (try simp only [sA])
       refine wpAnyH_done (by kernel_rfl) ?_ _
       go_wp2_with fail
       go_meet
       exact ⟨g, gcap, hn3, hr3, ho3, hrow2.setCell (show OUT < OUT + 1 by omega) _, hbk2.only (only_setCell (S := fun k => k = OUT) w2 (p := ⟨OUT, 8, none⟩) rfl _) (fun k hk he => (unhide HLB).bne k hk he), hbl2.setCell (p := ⟨OUT, 8, none⟩) (show w.heap.size ≤ OUT by omega) _⟩
      ·go_simp
       refine (l2part_any _ n ⟨m.s.piece, m.s.way⟩ beh (beh + d) _ (hvv.below (below_then (unhide HLB).below bw0)) ⟨(unhide HMQ).spot.1, (unhide HMQ).spot.2.1⟩ hlen.2 (show (0 : Int) ≤ lenOf n m.s.piece by omega) ⟨by omega, by omega⟩ ⟨by omega, by omega⟩).mono ?_
       rw [unhide HPP]
       rintro e wc ⟨rfl, hbc⟩
       dsimp only
       have hbk1 : Below wb.heap.size wb wc := below_then bw0 hbc
       have hnc := hn0.below hbk1
       have hoc := hout.below hbk1
       have hrc := (unhide HLB).r9.below hbk1
       have d8 := hoc.2.1 8 _ rfl
       have dl := hoc.1
       have dn := hnc.1
       refine hK.out _ _ ⟨hnc.2.1 0 _ rfl, hnc.2.1 1 _ rfl, hoc.2.1 3 _ rfl, hoc.2.1 5 _ rfl⟩ (fun hHeld => ?_)
       clear hK K
       (try simp only [sA])
       refine wpAnyH_ready (rs := [1, 16]) (by kernel_rfl) (by simp) ?_
       refine AllReadyH.cons rfl (fun K hK => ?_) (AllReadyH.cons rfl (fun K hK => ?_) AllReadyH.nil)
       ·go_simp
        refine hK.out _ _ ?_ (fun hHeld => ?_)
        ·exact ⟨hnc.2.1 0 _ rfl, hnc.2.1 1 _ rfl, hoc.2.1 3 _ rfl, hoc.2.1 5 _ rfl⟩
        clear hK K
        (try simp only [sA])
        refine wpAnyH_ready (rs := [16]) (by kernel_rfl) (by simp) ?_
        refine AllReadyH.cons rfl (fun K hK => ?_) AllReadyH.nil
        go_simp
        have hnB := hnc.alloc (.cells #[.int .i64 pp.piece, .int .i64 pp.fr, .int .i64 pp.to] 148)
        have hoB := hoc.alloc (.cells #[.int .i64 pp.piece, .int .i64 pp.fr, .int .i64 pp.to] 148)
        have b8 := hoB.2.1 8 _ rfl
        have blt := hoB.1
        refine hK.out _ _ ⟨hnB.2.1 0 _ rfl, hnB.2.1 1 _ rfl, hoB.2.1 3 _ rfl, hoB.2.1 5 _ rfl⟩ (fun hHeld => ?_)
        clear hK K
        (try simp only [sA])
        refine wpAnyH_ready (rs := [17]) (by kernel_rfl) (by simp) ?_
        refine AllReadyH.cons rfl (fun K hK => ?_) AllReadyH.nil
        refine step_append_lies _ rfl (.tmp 101) (.tmp 116) 44 rfl (OUT + 1) 148 i0 (.agg #[.int .i64 0, .int .i64 0, .int .i64 0]) 3 24 Tryz.underlying44 hi0 hz0 hz1 hz2 rfl (by decide) (.slice oa m.over.length oc) m.over.length (m.over.flatMap ptF) (by simp [Act.eval]) (((unhide HLB).row.below hbk1).below bw0) _ 1 1 (ptF pp) (by simp [Act.eval]) rfl (pt_news (x := pp) (boxed_alloc _ _ _)) (pt_one _) (by omega) (by unfold maxLen; omega) (by omega) (by simp; omega) _ rfl ?_
        intro g gcap w2 hown2 hgrow hat2 hlt2
        have hrlt := (unhide HLB).row.lt
        have hn2 := hnB.grownE hgrow (fun hc => by have := (hrlt _ hc).1; omega)
        have ho2 := hoB.grownE hgrow (fun hc => by have := (hrlt _ hc).1; omega)
        have hr2 := (hrc.alloc (.cells #[.int .i64 pp.piece, .int .i64 pp.fr, .int .i64 pp.to] 148)).grownE hgrow (fun hc => by have := (hrlt _ hc).1; omega)
        have hbk2 := ((((unhide HLB).bk.below hbk1).below (bw0 : Below wc.heap.size wc (wc.alloc (.cells #[.int .i64 pp.piece, .int .i64 pp.fr, .int .i64 pp.to] 148)))).kept hgrow (fun k hk hc => Row.apart (unhide HLB).bk (unhide HLB).row (by decide) k hk hc))
        have hbl2 : Below w.heap.size w w2 := Below.grown (below_then (below_then (unhide HLB).below hbk1) bw0) hgrow (by have := (unhide HLB).below.size; have := hbk1.size; simp; omega) (fun k hk => by have := (hrlt _ hk).1; omega)
        have hrow2 : PtRow w2 (OUT + 1) (.slice (some ⟨g, 0, none⟩) (m.over.length + 1) gcap) (m.over ++ [pp]) := Row.snoc (f := ptF) hown2
        refine hK.out _ _ ⟨hn2.2.1 0 _ rfl, hn2.2.1 1 _ rfl, ho2.2.1 3 _ rfl, ho2.2.1 5 _ rfl⟩ (fun hHeld => ?_)
        clear hK K
        (try simp only [sA])
        refine wpAnyH_ready (rs := [18]) (by kernel_rfl) (by simp) ?_
        refine AllReadyH.cons rfl (fun K hK => ?_) AllReadyH.nil
        go_simp
        refine hK.out _ _ hHeld (fun hHeld => ?_)
        clear hK K
        (try simp only [sA])
        refine wpAnyH_ready (rs := [19]) (by kernel_rfl) (by simp) ?_
        refine AllReadyH.cons rfl (fun K hK => ?_) AllReadyH.nil
        have e8 := ho2.2.1 8 _ rfl
        have ez := ho2.2.2
        have hn3 := hn2.apart (p := ⟨OUT, 8, none⟩) (show w.heap.size ≠ OUT by omega) (.slice (some ⟨g, 0, none⟩) (m.over.length + 1) gcap)
        have hr3 := hr2.apart (p := ⟨OUT, 8, none⟩) (show w.heap.size + 1 + 1 ≠ OUT by omega) (.slice (some ⟨g, 0, none⟩) (m.over.length + 1) gcap)
        have ho3 := ho2.setAt (i := 8) (by simp) (.slice (some ⟨g, 0, none⟩) (m.over.length + 1) gcap)
        go_simp
        refine hK.out _ _ ⟨hn3.2.1 0 _ rfl, hn3.2.1 1 _ rfl, ho3.2.1 3 _ rfl, ho3.2.1 5 _ rfl⟩ (fun hHeld => ?_)
        clear hK K
        (try simp only [sA])
        refine wpAnyH_done (by kernel_rfl) ?_ _
        go_wp2_with fail
        go_meet
        exact ⟨g, gcap, hn3, hr3, ho3, hrow2.setCell (show OUT < OUT + 1 by omega) _, hbk2.only (only_setCell (S := fun k => k = OUT) w2 (p := ⟨OUT, 8, none⟩) rfl _) (fun k hk he => (unhide HLB).bne k hk he), hbl2.setCell (p := ⟨OUT, 8, none⟩) (show w.heap.size ≤ OUT by omega) _⟩
       ·go_simp
        have hnB := hnc.alloc (.cells #[.int .i64 pp.piece, .int .i64 pp.fr, .int .i64 pp.to] 148)
        have hoB := hoc.alloc (.cells #[.int .i64 pp.piece, .int .i64 pp.fr, .int .i64 pp.to] 148)
        have b8 := hoB.2.1 8 _ rfl
        have blt := hoB.1
        refine hK.out _ _ ⟨hnB.2.1 0 _ rfl, hnB.2.1 1 _ rfl, hoB.2.1 3 _ rfl, hoB.2.1 5 _ rfl⟩ (fun hHeld => ?_)
        clear hK K
        (try simp only [sA])
        refine wpAnyH_ready (rs := [1]) (by kernel_rfl) (by simp) ?_
        refine AllReadyH.cons rfl (fun K hK => ?_) AllReadyH.nil
        go_simp
        refine hK.out _ _ ?_ (fun hHeld => ?_)
        ·exact ⟨hnB.2.1 0 _ rfl, hnB.2.1 1 _ rfl, hoB.2.1 3 _ rfl, hoB.2.1 5 _ rfl⟩
        clear hK K
        (try simp only [sA])
        refine wpAnyH_ready (rs := [17]) (by kernel_rfl) (by simp) ?_
        refine AllReadyH.cons rfl (fun K hK => ?_) AllReadyH.nil
        refine step_append_lies _ rfl (.tmp 101) (.tmp 116) 44 rfl (OUT + 1) 148 i0 (.agg #[.int .i64 0, .int .i64 0, .int .i64 0]) 3 24 Tryz.underlying44 hi0 hz0 hz1 hz2 rfl (by decide) (.slice oa m.over.length oc) m.over.length (m.over.flatMap ptF) (by simp [Act.eval]) (((unhide HLB).row.below hbk1).below bw0) _ 1 1 (ptF pp) (by simp [Act.eval]) rfl (pt_news (x := pp) (boxed_alloc _ _ _)) (pt_one _) (by omega) (by unfold maxLen; omega) (by omega) (by simp; omega) _ rfl ?_
        intro g gcap w2 hown2 hgrow hat2 hlt2
        have hrlt := (unhide HLB).row.lt
        have hn2 := hnB.grownE hgrow (fun hc => by have := (hrlt _ hc).1; omega)
        have ho2 := hoB.grownE hgrow (fun hc => by have := (hrlt _ hc).1; omega)
        have hr2 := (hrc.alloc (.cells #[.int .i64 pp.piece, .int .i64 pp.fr, .int .i64 pp.to] 148)).grownE hgrow (fun hc => by have := (hrlt _ hc).1; omega)
        have hbk2 := ((((unhide HLB).bk.below hbk1).below (bw0 : Below wc.heap.size wc (wc.alloc (.cells #[.int .i64 pp.piece, .int .i64 pp.fr, .int .i64 pp.to] 148)))).kept hgrow (fun k hk hc => Row.apart (unhide HLB).bk (unhide HLB).row (by decide) k hk hc))
        have hbl2 : Below w.heap.size w w2 := Below.grown (below_then (below_then (unhide HLB).below hbk1) bw0) hgrow (by have := (unhide HLB).below.size; have := hbk1.size; simp; omega) (fun k hk => by have := (hrlt _ hk).1; omega)
        have hrow2 : PtRow w2 (OUT + 1) (.slice (some ⟨g, 0, none⟩) (m.over.length + 1) gcap) (m.over ++ [pp]) := Row.snoc (f := ptF) hown2
        refine hK.out _ _ ⟨hn2.2.1 0 _ rfl, hn2.2.1 1 _ rfl, ho2.2.1 3 _ rfl, ho2.2.1 5 _ rfl⟩ (fun hHeld => ?_)
        clear hK K
        (try simp only [sA])
        refine wpAnyH_ready (rs := [18]) (by kernel_rfl) (by simp) ?_
        refine AllReadyH.cons rfl (fun K hK => ?_) AllReadyH.nil
        go_simp
        refine hK.out _ _ hHeld (fun hHeld => ?_)
        clear hK K
        (try simp only [sA])
        refine wpAnyH_ready (rs := [19]) (by kernel_rfl) (by simp) ?_
        refine AllReadyH.cons rfl (fun K hK => ?_) AllReadyH.nil
        have e8 := ho2.2.1 8 _ rfl
        have ez := ho2.2.2
        have hn3 := hn2.apart (p := ⟨OUT, 8, none⟩) (show w.heap.size ≠ OUT by omega) (.slice (some ⟨g, 0, none⟩) (m.over.length + 1) gcap)
        have hr3 := hr2.apart (p := ⟨OUT, 8, none⟩) (show w.heap.size + 1 + 1 ≠ OUT by omega) (.slice (some ⟨g, 0, none⟩) (m.over.length + 1) gcap)
        have ho3 := ho2.setAt (i := 8) (by simp) (.slice (some ⟨g, 0, none⟩) (m.over.length + 1) gcap)
        go_simp
        refine hK.out _ _ ⟨hn3.2.1 0 _ rfl, hn3.2.1 1 _ rfl, ho3.2.1 3 _ rfl, ho3.2.1 5 _ rfl⟩ (fun hHeld => ?_)
        clear hK K
        (try simp only [sA])
        refine wpAnyH_done (by kernel_rfl) ?_ _
        go_wp2_with fail
        go_meet
        exact ⟨g, gcap, hn3, hr3, ho3, hrow2.setCell (show OUT < OUT + 1 by omega) _, hbk2.only (only_setCell (S := fun k => k = OUT) w2 (p := ⟨OUT, 8, none⟩) rfl _) (fun k hk he => (unhide HLB).bne k hk he), hbl2.setCell (p := ⟨OUT, 8, none⟩) (show w.heap.size ≤ OUT by omega) _⟩
     case rest =>
      obtain ⟨g, gcap, hn5, hr5, ho5, hrow5, hbk5, hbel5⟩ := hcut
      have hO6 := (only_setCell (S := fun k => k = OUT) wc (p := ⟨OUT, 4, none⟩) rfl (.int .i64 (m.s.at_ + d * m.s.way))).trans (only_setCell (S := fun k => k = OUT) _ (p := ⟨OUT, 1, none⟩) rfl (.int .i64 (m.far + d)))
      have hn6 := hn5.onlyS hO6 (show ¬ w.heap.size = OUT by omega)
      have hr6 := hr5.onlyS hO6 (show ¬ w.heap.size + 1 + 1 = OUT by omega)
      have ho6 := (ho5.setAt (i := 4) (by simp) (.int .i64 (m.s.at_ + d * m.s.way))).setAt (i := 1) (by simp) (.int .i64 (m.far + d))
      have hrow6 := hrow5.only hO6 (fun k hk (he : k = OUT) => by have := (hrow5.lt k hk).1; omega)
      have hbk6 := hbk5.only hO6 (fun k hk (he : k = OUT) => (unhide HLB).bne k hk he)
      have hbel6 := hbel5.trans (hO6.below hbel5.size (fun k hk (he : k = OUT) => by omega))
      have o1 := ho5.2.1 1 _ rfl
      have o3 := ho5.2.1 3 _ rfl
      have o4 := ho5.2.1 4 _ rfl
      have o5 := ho5.2.1 5 _ rfl
      have o6 := ho5.2.1 6 _ rfl
      have o7 := ho5.2.1 7 _ rfl
      have oz := ho5.2.2
      have ol := ho5.1
      have q0 := hn5.2.1 0 _ rfl
      have q1 := hn5.2.1 1 _ rfl
      have nl := hn5.1
      have no1 : ¬ w.heap.size = OUT := by omega
      have no2 : ¬ OUT = w.heap.size := by omega
      have HN6 := hide hn6
      have HR6 := hide hr6
      have HO6 := hide ho6
      have HROW6 := hide hrow6
      have HBK6 := hide hbk6
      have HBEL6 := hide hbel6
      have hsz6 : ((wc.setCell ⟨OUT, 4, none⟩ (.int .i64 (m.s.at_ + d * m.s.way))).setCell ⟨OUT, 1, none⟩ (.int .i64 (m.far + d))).heap.size = wc.heap.size := by simp [World.setCell]
      have HSZ6 := hide hsz6
      clear hO6 hn6 hr6 ho6 hrow6 hbk6 hbel6 hsz6 hrow5 hbk5 hr5 hws
      go_wp2_with fail
      refine (l3trim_any _ _ n ⟨⟨m.s.piece, m.s.at_ + d * m.s.way, m.s.way⟩, t.long, m.xs⟩ _ (hvv.below (unhide HBEL6)) ⟨ba, bc, rfl, stRow_sts (unhide HBK6)⟩ hG (unhide HSP') (unhide HMQ).steps (by have := (unhide HMQ).len; show m.xs.length ≤ 1000; omega)).mono ?_
      dsimp only
      rw [← unhide HM4]
      rintro e wd ⟨ta, tc, rfl, hrowd, hbd⟩
      have ho6 := unhide HO6
      have hO7 := (((((only_setCell (S := fun k => k = OUT) wd (p := ⟨OUT, 3, none⟩) rfl (.int .i64 m.s.piece)).trans (only_setCell (S := fun k => k = OUT) _ (p := ⟨OUT, 4, none⟩) rfl (.int .i64 (m.s.at_ + d * m.s.way)))).trans (only_setCell (S := fun k => k = OUT) _ (p := ⟨OUT, 5, none⟩) rfl (.int .i64 m.s.way))).trans (only_setCell (S := fun k => k = OUT) _ (p := ⟨OUT, 6, none⟩) rfl (.int .i64 t.long))).trans (only_setCell (S := fun k => k = OUT) _ (p := ⟨OUT, 7, none⟩) rfl (.slice ta m'.xs.length tc)))
      have ho7 := ((((((ho6.below hbd).setAt (i := 3) (by simp) (.int .i64 m.s.piece)).setAt (i := 4) (by simp) (.int .i64 (m.s.at_ + d * m.s.way))).setAt (i := 5) (by simp) (.int .i64 m.s.way)).setAt (i := 6) (by simp) (.int .i64 t.long)).setAt (i := 7) (by simp) (.slice ta m'.xs.length tc))
      have hn7 := ((unhide HN6).below hbd).onlyS hO7 (show ¬ w.heap.size = OUT by omega)
      have hr7 := ((unhide HR6).below hbd).onlyS hO7 (show ¬ w.heap.size + 1 + 1 = OUT by omega)
      have hlen' : m'.over.length = m.over.length + 1 := by rw [unhide HM3]; simp
      have hszd := hbd.size
      have hsz6 := unhide HSZ6
      have hLm : LmAt w n zs t F OUT x ca c cc m' ta tc (some ⟨g, 0, none⟩) gcap _ := ⟨unhide HGO, hn7, hr7, by rw [unhide HM1, unhide HM2, hlen']; exact ho7, (hrowd.only hO7 (fun k hk (he : k = OUT) => by have := (hrowd.lt k hk).1; omega)).mono (by have := (unhide HBEL6).size; omega), fun k hk => by have := (hrowd.lt k hk).1; omega,
       by rw [unhide HM3, List.length_append]; exact ((unhide HROW6).below hbd).only hO7 (fun k hk (he : k = OUT) => by have := ((unhide HROW6).lt k hk).1; omega), (below_then (unhide HBEL6) hbd).trans (hO7.below (by have := (below_then (unhide HBEL6) hbd).size; omega) (fun k hk (he : k = OUT) => by omega))⟩
      have hms := hLm.meas
      have HLMX := hide hLm
      have HMS := hide hms
      have p3 := (ho6.below hbd).2.1 3 _ rfl
      have p4 := (ho6.below hbd).2.1 4 _ rfl
      have p5 := (ho6.below hbd).2.1 5 _ rfl
      have p6 := (ho6.below hbd).2.1 6 _ rfl
      have p7 := (ho6.below hbd).2.1 7 _ rfl
      have pz := (ho6.below hbd).2.2
      have pl := (ho6.below hbd).1
      clear hLm hms hn7 hr7 ho7 hO7 ho6 o1 o3 o4 o5 o6 o7 oz ol q0 q1 nl hlen' hsz6 hszd
      go_wp2
      refine ⟨⟨m', ta, tc, _, _, HLMX⟩, ?_⟩
      rw [unhide HMS, unhide HMEAS, unhide HM2]
      (repeat' split) <;> omega
  ·have hfe : m.far = F := by omega
   have HRIS : Hid (RunIs n zs t.long F ⟨t.front, t.back, 0, []⟩ m 0 (-1)) := Or.inl ⟨unhide HS, (unhide HLM).goes, Or.inl ⟨hfe, rfl, rfl⟩⟩
   have HFE := hide hfe
   clear hfe
   have q0 := hn0.2.1 0 _ rfl
   have q1 := hn0.2.1 1 _ rfl
   have o3 := hout.2.1 3 _ rfl
   have o4 := hout.2.1 4 _ rfl
   have o5 := hout.2.1 5 _ rfl
   have o6 := hout.2.1 6 _ rfl
   have o7 := hout.2.1 7 _ rfl
   have ol := hout.1
   have nl := hn0.1
   go_wp2_with fail
   clear q0 q1 o3 o4 o5 o6 o7 ol nl

   refine (l3trim_any _ _ n ⟨m.s, t.long, m.xs⟩ _ (hvv.below hbel) ⟨ba, bc, rfl, stRow_sts hbk⟩ hG hMq.spot hMq.steps (by have := hMq.len; show m.xs.length ≤ 1000; omega)).mono ?_
   have htrim : takeLen n t.long (behind n m.s) m.xs = m.xs := hMq.trimmed
   dsimp only
   rw [htrim]
   rintro e wt ⟨ta, tc, rfl, hrowt, hbt⟩
   have hout2 := ((((((hout.below hbt).setAt (i := 3) (by simp) (.int .i64 m.s.piece)).setAt (i := 4) (by simp) (.int .i64 m.s.at_)).setAt (i := 5) (by simp) (.int .i64 m.s.way)).setAt (i := 6) (by simp) (.int .i64 t.long)).setAt (i := 7) (by simp) (.slice ta m.xs.length tc))
   have hoo := (((((only_setCell (S := fun k => k = OUT) wt (p := ⟨OUT, 3, none⟩) rfl (.int .i64 m.s.piece)).trans (only_setCell (S := fun k => k = OUT) _ (p := ⟨OUT, 4, none⟩) rfl (.int .i64 m.s.at_))).trans (only_setCell (S := fun k => k = OUT) _ (p := ⟨OUT, 5, none⟩) rfl (.int .i64 m.s.way))).trans (only_setCell (S := fun k => k = OUT) _ (p := ⟨OUT, 6, none⟩) rfl (.int .i64 t.long))).trans (only_setCell (S := fun k => k = OUT) _ (p := ⟨OUT, 7, none⟩) rfl (.slice ta m.xs.length tc)))
   have hrf := (((((((((((hr9.below hbt).onlyS hoo (show ¬ w.heap.size + 1 + 1 = OUT by omega)).setAt (i := 0) (by simp) (.int .i64 0)).setAt (i := 1) (by simp) (.int .i64 m.far)).setAt (i := 2) (by simp) (.int .i64 (-1))).setAt (i := 3) (by simp) (.int .i64 m.s.piece)).setAt (i := 4) (by simp) (.int .i64 m.s.at_)).setAt (i := 5) (by simp) (.int .i64 m.s.way)).setAt (i := 6) (by simp) (.int .i64 t.long)).setAt (i := 7) (by simp) (.slice ta m.xs.length tc)).setAt (i := 8) (by simp) (.slice oa m.over.length oc))
   have hor := (hoo.mono (T := fun k => k = OUT ∨ k = w.heap.size + 1 + 1) (fun k _ h => Or.inl h)).trans ((((((((((only_setCell (S := fun k => k = w.heap.size + 1 + 1) _ (p := ⟨w.heap.size + 1 + 1, 0, none⟩) rfl (.int .i64 0)).trans (only_setCell (S := fun k => k = w.heap.size + 1 + 1) _ (p := ⟨w.heap.size + 1 + 1, 1, none⟩) rfl (.int .i64 m.far))).trans (only_setCell (S := fun k => k = w.heap.size + 1 + 1) _ (p := ⟨w.heap.size + 1 + 1, 2, none⟩) rfl (.int .i64 (-1)))).trans (only_setCell (S := fun k => k = w.heap.size + 1 + 1) _ (p := ⟨w.heap.size + 1 + 1, 3, none⟩) rfl (.int .i64 m.s.piece))).trans (only_setCell (S := fun k => k = w.heap.size + 1 + 1) _ (p := ⟨w.heap.size + 1 + 1, 4, none⟩) rfl (.int .i64 m.s.at_))).trans (only_setCell (S := fun k => k = w.heap.size + 1 + 1) _ (p := ⟨w.heap.size + 1 + 1, 5, none⟩) rfl (.int .i64 m.s.way))).trans (only_setCell (S := fun k => k = w.heap.size + 1 + 1) _ (p := ⟨w.heap.size + 1 + 1, 6, none⟩) rfl (.int .i64 t.long))).trans (only_setCell (S := fun k => k = w.heap.size + 1 + 1) _ (p := ⟨w.heap.size + 1 + 1, 7, none⟩) rfl (.slice ta m.xs.length tc))).trans (only_setCell (S := fun k => k = w.heap.size + 1 + 1) _ (p := ⟨w.heap.size + 1 + 1, 8, none⟩) rfl (.slice oa m.over.length oc))).mono (T := fun k => k = OUT ∨ k = w.heap.size + 1 + 1) (fun k _ h => Or.inr h))
   have hbelt := below_then hbel hbt
   have hszt := hbt.size
   have hszb := hbel.size
   have hol9 := hout.1
   have hrl9 := hr9.1
   have hst6 := hrowt.only hor (fun k hk h => by have h1 := (hrowt.lt k hk).1; omega)
   have hpt6 := (hrow.below hbt).only hor (fun k hk h => by have h1 := (hrow.lt k hk).1; omega)
   have hbf := hbelt.trans (hor.below (by omega) (fun k hk h => by omega))
   have f0 := hrf.2.1 0 _ rfl
   have f1 := hrf.2.1 1 _ rfl
   have f2 := hrf.2.1 2 _ rfl
   have f3 := hrf.2.1 3 _ rfl
   have f4 := hrf.2.1 4 _ rfl
   have f5 := hrf.2.1 5 _ rfl
   have f6 := hrf.2.1 6 _ rfl
   have f7 := hrf.2.1 7 _ rfl
   have f8 := hrf.2.1 8 _ rfl
   have HF := hide (And.intro f0 (And.intro f1 (And.intro f2 (And.intro f3 (And.intro f4 (And.intro f5 (And.intro f6 (And.intro f7 f8))))))))
   have HST6 := hide hst6
   have HPT6 := hide hpt6
   have HBF := hide hbf
   have houtt := hout.below hbt
   have hr9t := hr9.below hbt
   clear f0 f1 f2 f3 f4 f5 f6 f7 f8 hst6 hpt6 hbf hrf hor hoo hout2 htrim
   have o0 := houtt.2.1 0 _ rfl
   have o1 := houtt.2.1 1 _ rfl
   have o2 := houtt.2.1 2 _ rfl
   have o3 := houtt.2.1 3 _ rfl
   have o4 := houtt.2.1 4 _ rfl
   have o5 := houtt.2.1 5 _ rfl
   have o6 := houtt.2.1 6 _ rfl
   have o7 := houtt.2.1 7 _ rfl
   have o8 := houtt.2.1 8 _ rfl
   have oz := houtt.2.2
   have ol := houtt.1
   have r0 := hr9t.2.1 0 _ rfl
   have r1 := hr9t.2.1 1 _ rfl
   have r2 := hr9t.2.1 2 _ rfl
   have r3 := hr9t.2.1 3 _ rfl
   have r4 := hr9t.2.1 4 _ rfl
   have r5 := hr9t.2.1 5 _ rfl
   have r6 := hr9t.2.1 6 _ rfl
   have r7 := hr9t.2.1 7 _ rfl
   have r8 := hr9t.2.1 8 _ rfl
   have rz := hr9t.2.2
   have nro : ¬ w.heap.size + 1 + 1 = OUT := by omega
   have nor : ¬ OUT = w.heap.size + 1 + 1 := by omega
   go_wp2
   obtain ⟨f0, f1, f2, f3, f4, f5, f6, f7, f8⟩ := unhide HF
   exact bodyPost_ret (v := movedV 0 m.far (-1) m.s t.long (.slice ta m.xs.length tc) (.slice oa m.over.length oc)) (by simp [results, Tryz.results27, go_sem, f0, f1, f2, f3, f4, f5, f6, f7, f8, movedV]) rfl ⟨⟨m, 0, (-1), ta, tc, oa, oc, rfl, unhide HRIS, (unhide HST6).mono (by omega), (unhide HPT6).mono (by omega)⟩, unhide HBF⟩
end Go.Proofs.YtjacbppeebnjfaaGreat

