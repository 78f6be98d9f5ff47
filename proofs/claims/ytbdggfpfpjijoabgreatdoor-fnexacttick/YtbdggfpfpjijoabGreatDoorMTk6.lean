import Derived.Test.YtbdggfpfpjijoabGreatDoorMKw5
import Derived.Test.YtbdggfpfpjijoabGreatDoorMTk7
import Derived.Test.YtbdggfpfpjijoabGreatDoorMKt17
import Derived.Test.YtbdggfpfpjijoabGreatDoorMPlain2
import Derived.Lib.AppendZeros
namespace Go.Proofs.YtbdggfpfpjijoabGreatDoor
open Go.RowKit Go.Maps

set_option maxRecDepth 100000 in
set_option maxHeartbeats 8000000 in
theorem touched2_any (I : List Nat → World → Prop) (fid : Nat) (cp cq : Value) (W Mp N base : Nat) (av : Nat → Prop) (ls : Int → List Nat) (ms : List Nat) (cv : Nat → List Pt) (a : Option Addr) (ca : Nat) (ps : List Pt) (w : World) {L : Nat}
  (hcW : w.cell? ⟨W, 4, none⟩ = some (.map (some Mp))) (hWl : W < w.heap.size) (hL : Lying w base Mp N ls av) (hls : ∀ p, (ls p).length ≤ 1000) (hin : ∀ p, ∀ q ∈ ls p, q ∈ ms) (hout : ∀ i (h : i < ms.length), ∀ x ∈ cv i, ms[i] ∈ ls x.piece)
  (hms : MvsAt w ms cv) (hnd : ms.Nodup) (h20 : ms.length ≤ 20) (hps : PtsAt L w a ps) (hpl : ps.length ≤ 1048576) (hpp : ∀ x ∈ ps, 0 ≤ x.piece ∧ x.piece < 1000)
  (hcf : ∀ (x : Value) (W : World), (callFunc fid #[x, cp, cq]).run Tryz.prog W = .ok (.enter fid #[x, cp, cq]) W)
  (hI0 : ∀ wb, Below w.heap.size w wb → I [] wb)
  (htell : ∀ (tl : List Nat) i (h : i < ms.length) wa, tl.length ≤ 20 → I tl wa → Calls Tryz.prog fid #[.pointer (some ⟨ms[i], 0, none⟩), cp, cq] wa fun e w' => (∃ v, e = .returned v) ∧ I (tl ++ [i]) w') :
  Calls Tryz.prog 68 #[.pointer (some ⟨W, 0, none⟩), .slice a ps.length ca, .func (.func fid) #[] #[cp, cq]] w fun e w' => (∃ v, e = .returned v) ∧ I ((List.range ms.length).filter fun i => hits ps (cv i)) w' := by
 have HT := hide htell
 have HI0 := hide hI0
 have HL := hide hL
 have HMS := hide hms
 have HIN := hide hin
 have HOUT := hide hout
 clear htell hI0 hL hms hin hout
 go_enter Tryz.func68, Tryz.ntmps68
 go_wp2_with fail
 have hF0 := fnd_new w ms
 go_loopw [15] (fun z wr => ∃ (k : Nat) (fnd : Nat → Bool), k ≤ ps.length ∧ z = .int .i64 k ∧ OwnC wr w.heap.size 0 20 (fndF ms fnd) ∧ Hid (∀ i, fnd i = (decide (i < ms.length) && hits (ps.take k) (cv i))) ∧ Below w.heap.size w wr) (fun z _ => ps.length - (intOf z).toNat)
 case atStart => exact ⟨0, _, Nat.zero_le _, rfl, hF0, hide fun i => by simp [hits_nil], bw0⟩
 case round =>
  obtain ⟨k, fnd, hk, rfl, hfn, HFN, hb⟩ := hrel
  have hszr := hb.size
  have hfl := hfn.1
  have d4 := (hb.cell (p := ⟨W, 4, none⟩) hWl).trans hcW
  have hWr : W < wr.heap.size := by omega
  have nW : ¬ W = wr.heap.size := by omega
  by_cases hlt : k < ps.length
  ·obtain ⟨pb, poff, hpa, hpb, c0, c1, c2⟩ := hps.below hb k hlt
   have hpb2 := hpb.2
   have hx := hpp ps[k] (List.getElem_mem hlt)
   have htk : ps.take (k + 1) = ps.take k ++ [ps[k]] := List.take_succ_eq_append_getElem hlt
   have HTK : Hid (∀ y, ps[k] = y → ps.take (k + 1) = ps.take k ++ [y]) := fun y e => by rw [htk, e]
   clear htk
   generalize hX : ps[k] = X at *
   have HTK2 := hide (unhide HTK X rfl)
   obtain ⟨Xp, Xf, Xt⟩ := X
   dsimp only at hx c0 c1 c2
   clear HTK hX
   obtain ⟨f, hmap, hrows, hdis, havd⟩ := unhide HL
   obtain ⟨fa, fcap, hfv, hfc, hptrs⟩ := prRow_at (hrows Xp)
   have hlenX := hls Xp
   obtain ⟨qs, hqs⟩ : ∃ qs, ls Xp = qs := ⟨_, rfl⟩
   rw [hqs] at hfv hptrs hfc hlenX
   have HQS := hide hqs
   have hwf := wf_small (v := Xp) (by omega) (by omega)
   have hA : Below wr.heap.size wr (wr.alloc (.cells #[.int .i64 Xp, .int .i64 Xf, .int .i64 Xt] 138)) := bw0
   have hlk : ∀ g : GrW (wr.alloc (.cells #[.int .i64 Xp, .int .i64 Xf, .int .i64 Xt] 138)), (Instr.lookup 125 (.map (some Mp)) (.int .i64 Xp) false).run Tryz.prog g.w = .ok (.slice fa qs.length fcap) g.w := fun g => by
    rw [← hfv]
    exact (((hmap.below hb).below hA).below g.below).look hwf
   subst hpa
   clear hfv hqs
   go_wp2_with fail
   refine wp_region_grown (by kernel_rfl) (by kernel_rfl) (fun hgn hgc => ?_)
   repeat (go_big_quiet_step (fail))
   refine wpQuiet_nil ?_
   intro wq hwq
   have hbqA : Below (wr.alloc (.cells #[.int .i64 Xp, .int .i64 Xf, .int .i64 Xt] 138)).heap.size (wr.alloc (.cells #[.int .i64 Xp, .int .i64 Xf, .int .i64 Xt] 138)) wq := by obtain ⟨g, rfl⟩ := hwq; exact g.below
   have hbq : Below wr.heap.size wr wq := below_then hA hbqA
   have hX : Boxed wq wr.heap.size [.int .i64 Xp, .int .i64 Xf, .int .i64 Xt] := (boxed_alloc _ _ _).below hbqA
   have hbwq := below_then hb hbq
   have hfnq := hfn.below hbq
   clear hrows hdis havd hmap
   clear hwq hgc hgn hlk c0 c1 c2 d4
   go_wp2_with fail
   go_loopw [27] (fun z wx => ∃ (j : Nat) (fn2 : Nat → Bool), j ≤ qs.length ∧ z = .int .i64 j ∧ OwnC wx w.heap.size 0 20 (fndF ms fn2) ∧ Hid (∀ i, fn2 i = (fnd i || (decide (i < ms.length) && (decide (ms.getD i 0 ∈ qs.take j) && (cv i).any fun x => decide (Touch x ⟨Xp, Xf, Xt⟩)))))
     ∧ Boxed wx wr.heap.size [.int .i64 Xp, .int .i64 Xf, .int .i64 Xt] ∧ Below w.heap.size w wx) (fun z _ => qs.length - (intOf z).toNat)
   case atStart => exact ⟨0, fnd, Nat.zero_le _, rfl, hfnq, hide fun i => by simp, hX, hbwq⟩
   case round =>
    obtain ⟨j, fn2, hj, rfl, hf2, HF2, hX2, hb2⟩ := hrel
    have hsz2 := hb2.size
    have hfl2 := hf2.1
    by_cases hlt2 : j < qs.length
    ·obtain ⟨qb, qoff, hqa, hqb, cq⟩ := hptrs.below hb2 j hlt2
     have hqm : qs[j] ∈ ms := unhide HIN Xp _ (by rw [unhide HQS]; exact List.getElem_mem hlt2)
     have htq : qs.take (j + 1) = qs.take j ++ [qs[j]] := List.take_succ_eq_append_getElem hlt2
     obtain ⟨m, hm, hme⟩ := List.getElem_of_mem hqm
     obtain ⟨hty, h412, ma, mc, h413, hpts, hcl⟩ := (unhide HMS).below hb2 m hm
     have hget : ms.getD m 0 = ms[m] := by simp [List.getElem?_eq_getElem hm]
     have hinj : ∀ i, i < ms.length → ms.getD i 0 = ms[m] → i = m := fun i hi e => (List.getElem_inj (h₀ := hi) (h₁ := hm) hnd).1 (by rw [← e]; simp [List.getElem?_eq_getElem hi])
     have hinj2 : ∀ i, i < ms.length → ms.getD i 0 = ms.getD m 0 → i = m := fun i hi e => hinj i hi (by rw [e, hget])
     have htq2 : qs.take (j + 1) = qs.take j ++ [ms.getD m 0] := by rw [htq, hget, hme]
     have HSTEP := hide (fnd_step (unhide HF2) hm htq2 hinj2)
     have cf := (hf2.2 m (by omega)).1
     have cz := (hf2.2 m (by omega)).2
     rw [Nat.zero_add] at cf cz
     rw [← hme] at cq
     have hgetH := hide hget
     generalize ms[m] = mb at *
     have hmbl := hty.lt
     have hm20 : m < 20 := by omega
     have hm20i : (m : Int) < 20 := by omega
     subst hqa
     clear hget hinj hinj2 htq htq2 hme
     have x0 := hX2.2.1 0 _ rfl
     have x1 := hX2.2.1 1 _ rfl
     have x2 := hX2.2.1 2 _ rfl
     have xl := hX2.1
     by_cases hfm : fn2 m = true
     ·have cf' : wr.cell? ⟨w.heap.size, m, none⟩ = some (.pointer (some ⟨ms.getD m 0, 0, none⟩)) := by rw [cf]; simp [fndF, hfm]
      have he := mv_eql_sn wr ⟨ms.getD m 0, 0, none⟩
      have HFM := hide hfm
      clear cf hfm
      go_wp2
      refine ⟨⟨j + 1, fn2, by omega, by go_num, hf2, hide fun i => ?_, hX2, hb2⟩, by simp [intOf]; omega⟩
      rw [← unhide HSTEP i]
      by_cases e : i = m
      ·rw [if_pos e, e, unhide HFM]; rfl
      ·rw [if_neg e]
     ·have cf' : wr.cell? ⟨w.heap.size, m, none⟩ = some (.pointer none) := by rw [cf]; simp [fndF, hfm]
      have he := mv_eql_nn wr
      have HFM : Hid (fn2 m = false) := by unfold Hid; simpa using hfm
      clear cf hfm
      go_wp2_with fail
      refine (touches_any mb ma mc (cv m) ⟨Xp, Xf, Xt⟩ _ hmbl h413 hpts hcl).mono ?_
      rintro e w3 ⟨⟨rfl, ht⟩ | ⟨rfl, ht⟩, hb3⟩
      ·have HTT : Hid (((cv m).any fun x => decide (Touch x ⟨Xp, Xf, Xt⟩)) = true) := by unfold Hid; simpa using ht
       have hb23 := below_then hb2 hb3
       have g412 := (hb3.cell (p := ⟨mb, 412, none⟩) hmbl).trans h412
       have hf3 := hf2.below hb3
       have cf3 := (hb3.cell (p := ⟨w.heap.size, m, none⟩) hfl2).trans cf'
       have cz3 := (hb3.frozen (p := ⟨w.heap.size, m, none⟩) hfl2).trans cz
       have hX3 := hX2.below hb3
       have hmbl3 : mb < w3.heap.size := by have := hb3.size; omega
       have hfl3 := hf3.1
       clear ht x0 x1 x2 cf' cz h412 cq
       go_wp2
       have hb4 : Below w.heap.size w (w3.setCell ⟨w.heap.size, m, none⟩ (.pointer (some ⟨mb, 0, none⟩))) := hb23.setCell (p := ⟨w.heap.size, m, none⟩) (Nat.le_refl _) _
       refine ⟨⟨j + 1, _, by omega, by go_num, ?_, hide fun i => (unhide HSTEP i), hX3.apart (p := ⟨w.heap.size, m, none⟩) (show _ ≠ w.heap.size by omega) _, hb4⟩, by simp [intOf]; omega⟩
       have h5 := fnd_set hf3 hm20
       rw [unhide hgetH] at h5
       refine h5.congr fun i hi => ?_
       unfold fndF
       by_cases e : i = m
       ·simp only [if_pos e, unhide HTT, Bool.or_true]
       ·simp only [if_neg e]
      ·have HTT : Hid (((cv m).any fun x => decide (Touch x ⟨Xp, Xf, Xt⟩)) = false) := by unfold Hid; simpa using ht
       clear ht
       go_wp2
       refine ⟨⟨j + 1, fn2, by omega, by go_num, hf2.below hb3, hide fun i => ?_, hX2.below hb3, below_then hb2 hb3⟩, by simp [intOf]; omega⟩
       rw [← unhide HSTEP i]
       by_cases e : i = m
       ·rw [if_pos e, e, unhide HTT, Bool.or_false]
       ·rw [if_neg e]
    ·have hjl : j = qs.length := by omega
     have HQ : Hid (qs.take j = qs) := by unfold Hid; rw [hjl]; simp
     clear hjl
     go_wp2
     refine ⟨⟨k + 1, fn2, by omega, by go_num, hf2, hide fun i => ?_, hb2⟩, by simp [intOf]; omega⟩
     rw [unhide HTK2, unhide HF2 i, unhide HQ]
     refine fnd_last (unhide HFN) (fun i hi ⟨x, hx, ht⟩ => ?_) i
     have := unhide HOUT i hi x hx
     rw [ht.1] at this
     rw [← unhide HQS]
     simpa [List.getElem?_eq_getElem hi] using this
  ·have hkl : k = ps.length := by omega
   have HK : Hid (ps.take k = ps) := by unfold Hid; rw [hkl]; simp
   clear hkl d4
   go_upto_region 11 with fail
   refine wp_region_lit ?_
   refine wpList_load_mid rfl 204 (.tmp 6) rfl w.heap.size 0 rfl (fndL ms fnd) _ (fnd_range hfn) Tryz.underlying204 rfl (by rw [info_fnd, fndL_len]) ?_
   go_wp2_with fail
   have HFK : Hid (∀ i, fnd i = (decide (i < ms.length) && hits ps (cv i))) := fun i => by rw [unhide HFN i, unhide HK]
   go_loopw [52] (fun z wx => ∃ j : Nat, j ≤ 20 ∧ z = .int .i64 j ∧ Hid (I ((List.range j).filter fun i => decide (i < ms.length) && hits ps (cv i)) wx)) (fun z _ => 20 - (intOf z).toNat)
   case atStart => exact ⟨0, by omega, rfl, hide (unhide HI0 wr hb)⟩
   case round =>
    obtain ⟨j, hj, rfl, HI⟩ := hrel
    by_cases hlt3 : j < 20
    ·have hidx : ∀ W, (Instr.index 204 (.agg (fndL ms fnd).toArray) (.int .i64 (j : Int))).run Tryz.prog W = .ok (fndF ms fnd j) W := fun W => idx20 _ W j hlt3
     have hj20 : (j : Int) < 20 := by omega
     have HSUC := hide (told_succ ms.length j fun i => hits ps (cv i))
     by_cases hfj : fnd j = true
     ·have hval : fndF ms fnd j = .pointer (some ⟨ms.getD j 0, 0, none⟩) := by simp [fndF, hfj]
      have hjt : (decide (j < ms.length) && hits ps (cv j)) = true := by rw [← unhide HFK j]; exact hfj
      have hjl : j < ms.length := by simp at hjt; exact hjt.1
      have hget : ms.getD j 0 = ms[j] := by simp [List.getElem?_eq_getElem hjl]
      rw [hval] at hidx
      have HC := hide (unhide HT _ j hjl wr (Nat.le_trans (List.length_filter_le _ _) (by simp; omega)) (unhide HI))
      have HJT := hide hjt
      rw [← hget] at HC
      have he := fun W => mv_neq_sn W ⟨ms.getD j 0, 0, none⟩
      generalize ms.getD j 0 = mb at *
      clear hjt hval hget hfj
      go_wp2_with fail
      refine (unhide HC).mono ?_
      rintro e w3 ⟨⟨v3, rfl⟩, hI3⟩
      have HI3 := hide hI3
      clear hI3
      go_wp2
      refine ⟨⟨j + 1, by omega, by go_num, ?_⟩, by simp [intOf]; omega⟩
      rw [unhide HSUC, if_pos (unhide HJT)]
      exact HI3
     ·have hval : fndF ms fnd j = .pointer none := by simp [fndF, hfj]
      have hjt : ¬ (decide (j < ms.length) && hits ps (cv j)) = true := by rw [← unhide HFK j]; exact hfj
      rw [hval] at hidx
      have HJT := hide hjt
      have he := fun W => mv_neq_nn W
      clear hjt hval hfj
      go_wp2
      refine ⟨⟨j + 1, by omega, by go_num, ?_⟩, by simp [intOf]; omega⟩
      rw [unhide HSUC, if_neg (unhide HJT), List.append_nil]
      exact HI
    ·have hj2 : j = 20 := by omega
     have HFIN : Hid (((List.range j).filter fun i => decide (i < ms.length) && hits ps (cv i)) = (List.range ms.length).filter fun i => hits ps (cv i)) := by unfold Hid; rw [hj2]; exact told_all _ _ h20
     clear hj2
     go_wp2
     go_end0
     refine ⟨⟨_, rfl⟩, ?_⟩
     rw [← unhide HFIN]
     exact unhide HI

end Go.Proofs.YtbdggfpfpjijoabGreatDoor

set_option linter.unusedSimpArgs false
namespace Go.Proofs.YtbdggfpfpjijoabGreatDoor
open Go.RowKit

theorem MvG.touch {w : World} {base : Nat} {n : Nt} {k0 k1 k2 : Value} {M i : Nat} {t : Tr} (h : MvG w base n k0 k1 k2 M i t) (hl : (bodyParts n t).length ≤ 1048576) : IsTy w M 133 ∧ w.cell? ⟨M, 412, none⟩ = some (.int .i64 i) ∧ ∃ a c, w.cell? ⟨M, 413, none⟩ = some (.slice a (bodyParts n t).length c) ∧ PtsAt 0 w a (bodyParts n t) ∧ (bodyParts n t).length ≤ 1048576 := by
 obtain ⟨v, h5, h6⟩ := h.cov
 obtain ⟨a, cap, rfl, _, hx⟩ := ptRow_at (h6.mono (Nat.zero_le _))
 exact ⟨h.ty, h.num, a, cap, h5, hx, hl⟩
theorem partsL_piece {n : Nt} {sx : List Sx} (h : ∀ x ∈ sx, SxOk n x) : ∀ p ∈ partsL n sx, 0 ≤ p.piece ∧ p.piece < n.pieces.length := by
 intro p hp
 unfold partsL at hp
 obtain ⟨x, hx, hm⟩ := List.mem_flatMap.1 hp
 split at hm
 ·simp at hm
  subst hm
  have hs := (h x hx).1.1
  unfold partOf
  split <;> exact hs
 ·simp at hm
theorem sxRow_at0 {w : World} {base : Nat} {a : Option Addr} {m cap : Nat} {xs : List Sx} (h : SxRow w base (.slice a m cap) xs) : SxsAt 0 w a xs := by
 obtain ⟨a', cap', hv, _, hx⟩ := sxRow_at (h.mono (Nat.zero_le _))
 simp at hv
 rw [hv.1]
 exact hx
theorem take_set_succ {ts : List Tr} {i : Nat} {t : Tr} (h : i < ts.length) : (ts.set i t).take (i + 1) = ts.take i ++ [t] := by
 rw [List.take_succ_eq_append_getElem (by simpa using h)]
 simp [List.take_set_of_le]
theorem strikesOf_eq {n : Nt} {i : Nat} {ts : List Tr} {t : Tr} {over bp : List Pt} {m : Nat} (hi : i < ts.length) (hb : bodyParts n t = bp) (hm : m = ts.length) : strikesOf n i over (ts.set i t) = strL i ((List.range m).filter fun k => hits (bp ++ over) (bodyParts n (trAt (ts.set i t) k))) := by
 unfold strikesOf
 rw [show trAt (ts.set i t) i = t by rw [trAt_set hi, if_pos rfl], hb, List.length_set, hm]
def StrS (A : Nat) (w : World) (k : Nat) : Prop := k = A ∨ (A < k ∧ IsTy w k 120)
theorem TkW.struck {w w' w1 : World} {W : Nat} {n : Nt} {ka ksh kst : Option Addr} {kca kcsh kcst Mp N : Nat} {mvv : Value} {ms : List Nat} {ts : List Tr} {i K A : Nat} (h : TkW w w1 W n ka ksh kst kca kcsh kcst Mp N mvv ms ts i K) (hT : Turn (StrS A w) w w') (hA : IsTy w A 63) (hlo : w1.heap.size ≤ A) : TkW w' w1 W n ka ksh kst kca kcsh kcst Mp N mvv ms ts i K := by
 obtain ⟨ls, hL, _⟩ := h.lying
 refine h.kept (hT.below h.bel.size (fun k hk => ?_)) (hT.block Mp hL.lt ?_) fun k T hk hR => hT.block k hk.lt ?_
 ·rintro (e | ⟨e, _⟩) <;> omega
 ·rintro (e | ⟨_, e⟩)
  ·exact hL.notCells hA.cells e.symm
  ·exact hL.notCells e.cells rfl
 ·rintro (e | ⟨_, e⟩)
  ·subst e
   have := hk.unique hA
   rcases hR with rfl | rfl | rfl | rfl <;> exact absurd this (by decide)
  ·have := hk.unique e
   rcases hR with rfl | rfl | rfl | rfl <;> exact absurd this (by decide)
theorem TkR.struck {d : Prop} {w w' : World} {A : Nat} {ts : List Tr} {codes fars : List Int} {sks sks' : List (Int × Int)} {vt vc vf vk u : Value} (h : TkR d w A ts codes fars sks vt vc vf vk) (hT : Turn (StrS A w) w w') (hB : Boxed w' A [.bool true, vt, vc, vf, u]) (hty : IsTy w' A 63) (hrow : SkRow w' (A + 1) u sks') : TkR d w' A ts codes fars sks' vt vc vf u := by
 have hk : ∀ k T, IsTy w k T → T ≠ 63 → T ≠ 120 → w'.heap[k]? = w.heap[k]? := fun k T hk h1 h2 => hT.block k hk.lt (by
  rintro (e | ⟨_, e⟩)
  ·subst e
   exact h1 (hk.unique h.ty)
  ·exact h2 (hk.unique e))
 exact ⟨hty, hB, h.rt.typed (fun k h1 => hk k _ h1 (by decide) (by decide)) (fun k h1 => hk k _ h1 (by decide) (by decide)), h.rc.block fun k h1 => hk k _ (h.rc.ty h1) (by decide) (by decide), h.rf.block fun k h1 => hk k _ (h.rf.ty h1) (by decide) (by decide), h.dis, hrow⟩
theorem TkZ.struck {w w' w0 w1 : World} {W : Nat} {n : Nt} {ka ksh kst : Option Addr} {kca kcsh kcst Mp N : Nat} {mvv : Value} {ms : List Nat} {ts : List Tr} {i K C M Q R8 B0 A : Nat} {oa : Option Addr} {oc : Nat} {sx : List Sx} {far : Int} (h : TkZ w0 w1 W n ka ksh kst kca kcsh kcst Mp N mvv ms ts i K C M Q R8 B0 oa oc sx far w) (hT : Turn (StrS A w) w w') (hA : IsTy w A 63) (hlo : w1.heap.size ≤ A) (hAR : A ≠ R8) : TkZ w0 w1 W n ka ksh kst kca kcsh kcst Mp N mvv ms ts i K C M Q R8 B0 oa oc sx far w' := by
 have hk : ∀ k T, IsTy w k T → k ≠ A → T ≠ 120 → w'.heap[k]? = w.heap[k]? := fun k T hk h1 h2 => hT.block k hk.lt (by
  rintro (e | ⟨_, e⟩)
  ·exact h1 e
  ·exact h2 (hk.unique e))
 have hne : ∀ {k T}, IsTy w k T → T ≠ 63 → k ≠ A := fun {k T} h1 h2 e => by subst e; exact h2 (h1.unique hA)
 have hC := hk C _ h.ct (hne h.ct (by decide)) (by decide)
 have hQ := hk Q _ h.qt (hne h.qt (by decide)) (by decide)
 have hR := hk R8 _ h.r8t (fun e => hAR e.symm) (by decide)
 have hs := hT.size
 exact ⟨h.tw.struck hT hA hlo, boxed_kept h.cb hC hs, h.ct.same hC, boxed_kept h.qb hQ hs, h.qt.same hQ, h.row.block fun k h1 => hk k _ (h.row.ty h1) (hne (h.row.ty h1) (by decide)) (by decide), boxed_kept h.r8 hR hs, h.r8t.same hR, h.lo, h.bel.trans (hT.below h.bel.size (fun k hk => by have := h.lo; rintro (e | ⟨e, _⟩) <;> omega))⟩

theorem strikes_any (w w1 : World) (W : Nat) (n : Nt) (ka ksh kst : Option Addr) (kca kcsh kcst Mp N : Nat) (mvv : Value) (ms : List Nat) (ts : List Tr) (i K A C M : Nat) (tt : List Tr) (cs fs : List Int) (ss : List (Int × Int)) (vt vc vf vk : Value) (a : Option Addr) (ca : Nat) (ps : List Pt) {B : Nat}
  (hTW : TkW w w1 W n ka ksh kst kca kcsh kcst Mp N mvv ms ts (i + 1) K) (hTR : TkR True w A tt cs fs ss vt vc vf vk) (hC : Boxed w C [.pointer (some ⟨M, 0, none⟩)]) (hCt : IsTy w C 130) (hi : i < ms.length) (hM : ms[i] = M) (hG : NetGood n) (hfit : ∀ t ∈ ts, TrainFits n t) (h20 : ms.length ≤ 20) (hK : K ≤ 1000) (hss : ss.length ≤ 1000)
  (hrow : PtRow w B (.slice a ps.length ca) ps) (hpl : ps.length ≤ 1048576) (hpp : ∀ x ∈ ps, 0 ≤ x.piece ∧ x.piece < n.pieces.length) :
  Calls Tryz.prog 68 #[.pointer (some ⟨W, 0, none⟩), .slice a ps.length ca, .func (.func 67) #[] #[.pointer (some ⟨C, 0, none⟩), .pointer (some ⟨A, 0, none⟩)]] w fun e w' => (∃ v, e = .returned v) ∧ StrI w A vt vc vf ss i ((List.range ms.length).filter fun k => hits ps (bodyParts n (trAt ts k))) w' := by
 subst hM
 obtain ⟨ls, hL, hls⟩ := hTW.lying
 have hnp := hG.np
 have hlen := hTW.len
 refine touched2_any (fun tl wx => StrI w A vt vc vf ss i tl wx) 67 (.pointer (some ⟨C, 0, none⟩)) (.pointer (some ⟨A, 0, none⟩)) W Mp N w1.heap.size (fun k => mvv.ownBlock = some k) ls ms (fun k => bodyParts n (trAt ts k)) a ca ps w hTW.c4 hTW.ty.lt hL (fun p => Nat.le_trans (hls.few p) hK) hls.sub (fun j hj x hx => (hls.just _ j hj).2 ⟨x, hx, rfl⟩)
  (fun j hj => (hTW.mvs j hj).touch (by have := bodyParts_len hG (hfit _ (trAt_mem (show j < ts.length by omega))); omega)) hTW.nodup h20 (ptRow_at0 hrow) hpl (fun x hx => by have := hpp x hx; omega) (fun x W' => by kernel_rfl)
  (fun wb hb => ⟨vk, hTR.box.below hb, hTR.ty.below hb, by rw [show strL i [] = [] from rfl, List.append_nil]; exact hTR.rk.below hb, Turn.of_below hb⟩)
  (fun tl j hj wa htl hI => strike1_any w A C ms[i] i ms[j] j vt vc vf ss tl wa hTR.ty hCt (hC.2.1 0 _ rfl) (hTW.mvs i hi).ty (hTW.mvs i hi).num (hTW.mvs j hj).ty (hTW.mvs j hj).num ⟨fun e => nodup_inj hTW.nodup hj hi e, fun e => by subst e; rfl⟩ hss htl hI)

end Go.Proofs.YtbdggfpfpjijoabGreatDoor

set_option linter.unusedSimpArgs false
namespace Go.Proofs.YtbdggfpfpjijoabGreatDoor
open Go.RowKit

theorem uPart : Tryz.prog.underlying 38 = some (.slice 138) := by kernel_rfl
theorem uIntG : Tryz.prog.underlying 3 = some (.int .i64) := by kernel_rfl

set_option maxRecDepth 100000 in
set_option maxHeartbeats 2000000 in
theorem growP_any (m : Nat) (w : World) (hm : m ≤ 100000) :
  Calls Tryz.prog 120 #[.slice none 0 0, .int .i64 m] w fun e w' => ∃ v, e = .returned v ∧ PtRow w' w.heap.size v [] ∧ Below w.heap.size w w' := by
 obtain ⟨i0, hi, hz0, hz1, hz2⟩ := info_parts info_Part
 by_cases h0 : m = 0
 ·subst h0
  go_enter Tryz.func120, Tryz.ntmps120
  go_wp2_with fail
  go_ret
  exact ⟨_, rfl, Row.nil _ _ _ _ _, Below.refl _ _⟩
 ·have hrz := fun ty => Lib.run_append_nil_zeros (P := Tryz.prog) w 38 3 ty 138 i0 (.agg #[.int .i64 0, .int .i64 0, .int .i64 0]) .i64 .i64 uPart uIntG hi hz0 m (by omega) (by omega) (by omega) (by rw [hz2]; omega)
  have hcge := grownCap_ge w m 0 138
  have hcle := grownCap_le_maxLen w m 0 138 (by unfold maxLen; omega)
  obtain ⟨G, hG⟩ : ∃ G, grownCap w m 0 138 = G := ⟨_, rfl⟩
  rw [hG] at hrz hcge hcle
  clear hG
  obtain ⟨cur, hcur⟩ : ∃ cur, Builtin.zeroCells (Value.agg #[.int .i64 0, .int .i64 0, .int .i64 0]).cells m ++ Builtin.zeroCells (Value.agg #[.int .i64 0, .int .i64 0, .int .i64 0]).cells (G - m) = cur := ⟨_, rfl⟩
  have hcs : cur.size = G * 3 := by rw [← hcur]; simp [size_zeroCells, Value.cells]; omega
  rw [hcur] at hrz
  clear hcur
  have hm' : (0 : Int) < (m : Int) := by omega
  have hGm : G ≤ 9223372036854775807 := by unfold maxLen at hcle; omega
  go_enter Tryz.func120, Tryz.ntmps120
  go_wp2_with (at_builtin; refine Lib.wpList_append_run _ rfl _ _ _ _ rfl _ _ rfl rfl _ _ (hrz _) ?_)
  all_goals go_ret
  exact ⟨_, rfl, ⟨rfl, Or.inr ⟨w.heap.size, G, cur, rfl, Nat.le_refl _, Deep.blk_alloc_new w (.cells cur 138), by simp, hcle, hcs, by simp⟩⟩, bw0⟩

theorem Row.news2 {α : Type} {w : World} {base g cap : Nat} {e : TypeId} {sz m : Nat} {f : α → List Value} {xs : List α} (h : Row w base e sz f (.slice (some ⟨g, 0, none⟩) m cap) xs) : ∀ j u, (xs.flatMap f)[j]? = some u → w.cell? ((⟨g, 0, none⟩ : Addr).add j) = some u := by
 intro j u hj
 obtain ⟨h0, ⟨h1, _⟩ | ⟨g', cap', cur, h1, _, hh, _, _, _, h5⟩⟩ := h
 ·simp at h1
 ·simp at h1
  obtain ⟨rfl, rfl, rfl⟩ := h1
  rw [← h5, List.getElem?_take] at hj
  split at hj
  ·have hadd : (⟨g, 0, none⟩ : Addr).add j = ⟨g, j, none⟩ := by unfold Addr.add; split <;> simp_all
   rw [hadd]
   unfold World.cell?
   rw [hh]
   simpa using hj
  ·simp at hj
def catN (xs ys : List Pt) (i : Nat) : Nat := if i = 0 then 0 else if i = 1 then xs.length else xs.length + ys.length
def catL (xs ys : List Pt) (i : Nat) : List Pt := if i = 0 then [] else if i = 1 then xs else xs ++ ys
theorem pt_all (xs : List Pt) : ∀ u ∈ xs.flatMap ptF, u.oneCell' = true := by
 intro u hu
 obtain ⟨x, _, hx⟩ := List.mem_flatMap.1 hu
 simp [ptF] at hx
 rcases hx with rfl | rfl | rfl <;> rfl

set_option maxRecDepth 100000 in
set_option maxHeartbeats 4000000 in
theorem concatP_any (S : Nat) (pa qa : Option Addr) (pc qc : Nat) (xs ys : List Pt) (w : World) {B1 B2 : Nat} (hS : Boxed w S [.slice pa xs.length pc, .slice qa ys.length qc]) (hx : PtRow w B1 (.slice pa xs.length pc) xs) (hy : PtRow w B2 (.slice qa ys.length qc) ys) (hl : xs.length + ys.length ≤ 50000) :
  Calls Tryz.prog 69 #[.slice (some ⟨S, 0, none⟩) 2 2] w fun e w' => ∃ v, e = .returned v ∧ PtRow w' w.heap.size v (xs ++ ys) ∧ Below w.heap.size w w' := by
 obtain ⟨i0, hi0, hz0, hz1, hz2⟩ := info_parts info_Part
 have HS := hide hS
 have HX := hide hx
 have HY := hide hy
 have hSl := hS.1
 have s0 := hS.2.1 0 _ rfl
 have s1 := hS.2.1 1 _ rfl
 clear hS hx hy
 go_enter Tryz.func69, Tryz.ntmps69
 go_wp2_with fail
 go_loopw [3, 11] (fun y z wr => ∃ i : Nat, i ≤ 2 ∧ z = .int .i64 i ∧ y = .int .i64 (catN xs ys i : Nat) ∧ wr = w) (fun _ z _ => 2 - (intOf z).toNat)
 case atStart => exact ⟨0, by omega, rfl, rfl, rfl⟩
 case round =>
  obtain ⟨i, hi, rfl, rfl, rfl⟩ := hrel
  obtain rfl | rfl | rfl : i = 0 ∨ i = 1 ∨ i = 2 := by omega
  ·rw [show catN xs ys 0 = 0 from rfl]
   have e1 : IntKind.i64.wrap ((xs.length : Nat) : Int) = (xs.length : Int) := wrap_small (by omega) (by omega)
   have e2 : ¬ (xs.length : Int) < 0 := by omega
   go_wp2_with fail
   exact ⟨⟨1, by omega, rfl, rfl, by first | rfl | trivial⟩, by simp [intOf]⟩
  ·rw [show catN xs ys 1 = xs.length from rfl]
   have e1 : IntKind.i64.wrap ((xs.length : Int) + (ys.length : Int)) = ((xs.length + ys.length : Nat) : Int) := (wrap_small (by omega) (by omega)).trans (by omega)
   have e2 : ¬ ((xs.length + ys.length : Nat) : Int) < 0 := by omega
   go_wp2_with fail
   exact ⟨⟨2, by omega, rfl, by first | rfl | simp [catN], by first | rfl | trivial⟩, by simp [intOf]⟩
  ·obtain ⟨w0, rfl⟩ : ∃ w0, w0 = wr := ⟨_, rfl⟩
   rw [show catN xs ys 2 = xs.length + ys.length from rfl]
   go_wp2_with fail
   refine (growP_any (xs.length + ys.length) _ (by omega)).mono ?_
   rintro e w1 ⟨v, rfl, hrow1, hb1⟩
   have HROW1 := hide hrow1
   have HB1 := hide hb1
   clear hrow1 hb1
   go_wp2_with fail
   go_loopw [6, 27] (fun u z wx => ∃ i : Nat, i ≤ 2 ∧ z = .int .i64 i ∧ Hid (PtRow wx w0.heap.size u (catL xs ys i)) ∧ Below w0.heap.size w0 wx) (fun _ z _ => 2 - (intOf z).toNat)
   case atStart => exact ⟨0, by omega, rfl, HROW1, unhide HB1⟩
   case round =>
    obtain ⟨i, hi, rfl, HU, hbr⟩ := hrel
    obtain rfl | rfl | rfl : i = 0 ∨ i = 1 ∨ i = 2 := by omega
    ·obtain ⟨ua, ucap, hu, huc, _⟩ := ptRow_at (unhide HU)
     subst hu
     rw [show catL xs ys 0 = ([] : List Pt) from rfl] at huc
     have sc := (hbr.cell (p := ⟨S, 0, none⟩) hSl).trans s0
     have hSr : S < wr.heap.size := Nat.lt_of_lt_of_le hSl hbr.size
     have HUr : Hid (PtRow wr w0.heap.size (.slice ua 0 ucap) ([] : List Pt)) := HU
     rw [show (catL xs ys 0).length = 0 from rfl]
     obtain ⟨_, ⟨hv, hn⟩ | ⟨g0, cap0, cur0, hv, _⟩⟩ := unhide HX
     ·simp only [Value.slice.injEq] at hv
      obtain ⟨hv1, hv2, hv3⟩ := hv
      have hnil : xs = [] := List.eq_nil_of_length_eq_zero hv2
      subst hv1
      subst hv3
      have sc' := sc
      rw [hnil, List.length_nil] at sc'
      have HN := hide hnil
      clear sc hnil hv2 hn
      have huc' : 0 ≤ ucap := huc
      clear huc
      obtain ⟨_, ⟨hd, hdn⟩ | ⟨gd, capd, curd, hd, _⟩⟩ := unhide HUr
      all_goals
       simp only [Value.slice.injEq] at hd
       obtain ⟨hd1, hd2, hd3⟩ := hd
       subst hd1
       subst hd3
       clear hd2
       go_wp2_with fail
      all_goals exact ⟨⟨1, by omega, rfl, hide (by rw [show catL xs ys 1 = xs from rfl, unhide HN]; exact unhide HUr), hbr⟩, by simp [intOf]⟩
     ·simp only [Value.slice.injEq] at hv
      obtain ⟨hv1, _, hv3⟩ := hv
      subst hv1
      subst hv3
      go_wp2_with (at_builtin; refine wpList_append_own _ rfl (.tmp 31) (.tmp 32) 38 rfl w0.heap.size 138 i0 (.agg #[.int .i64 0, .int .i64 0, .int .i64 0]) 3 24 Tryz.underlying38 hi0 hz0 hz1 hz2 rfl (by decide) _ _ _ rfl (unhide HUr) ⟨g0, 0, none⟩ xs.length pc (xs.flatMap ptF) rfl ?d0 ?d1 (pt_all _) ?d3 ?d4 ?d5 ?_)
      case d0 => rw [flat_len (f := ptF) (sz := 3) (fun _ => rfl)]
      case d1 => exact ((unhide HX).below hbr).news2
      case d3 => (first | (simp only [List.length_nil]; unfold maxLen; omega) | (unfold maxLen; omega))
      case d4 => (first | (simp only [List.length_nil]; omega) | omega)
      case d5 => exact hbr.size
      intro v' w' hown' hgrow _
      have hb' : Below w0.heap.size w0 w' := Below.grown hbr hgrow hbr.size (fun j hj => ((unhide HUr).lt j hj).1)
      have hrow' : PtRow w' w0.heap.size v' (catL xs ys 1) := by
       exact hown'
      have HROWN := hide hrow'
      clear hown' hgrow hrow'
      go_wp2_with fail
      exact ⟨⟨1, by omega, rfl, HROWN, hb'⟩, by simp [intOf]⟩
    ·obtain ⟨ua, ucap, hu, huc, _⟩ := ptRow_at (unhide HU)
     subst hu
     rw [show catL xs ys 1 = xs from rfl] at huc
     have sc := (hbr.cell (p := ⟨S, 1, none⟩) hSl).trans s1
     have hSr : S < wr.heap.size := Nat.lt_of_lt_of_le hSl hbr.size
     have HUr : Hid (PtRow wr w0.heap.size (.slice ua xs.length ucap) xs) := HU
     rw [show (catL xs ys 1).length = xs.length from rfl]
     obtain ⟨_, ⟨hv, hn⟩ | ⟨g0, cap0, cur0, hv, _⟩⟩ := unhide HY
     ·simp only [Value.slice.injEq] at hv
      obtain ⟨hv1, hv2, hv3⟩ := hv
      have hnil : ys = [] := List.eq_nil_of_length_eq_zero hv2
      subst hv1
      subst hv3
      have sc' := sc
      rw [hnil, List.length_nil] at sc'
      have HN := hide hnil
      clear sc hnil hv2 hn
      have huc' : xs.length ≤ ucap := huc
      clear huc
      obtain ⟨_, ⟨hd, hdn⟩ | ⟨gd, capd, curd, hd, _⟩⟩ := unhide HUr
      all_goals
       simp only [Value.slice.injEq] at hd
       obtain ⟨hd1, hd2, hd3⟩ := hd
       subst hd1
       subst hd3
       clear hd2
       go_wp2_with fail
      ·have h := unhide HUr
       rw [hdn] at h
       exact ⟨⟨2, by omega, rfl, hide (by rw [show catL xs ys 2 = xs ++ ys from rfl, unhide HN, List.append_nil]; exact h), hbr⟩, by simp [intOf]⟩
      ·exact ⟨⟨2, by omega, rfl, hide (by rw [show catL xs ys 2 = xs ++ ys from rfl, unhide HN, List.append_nil]; exact unhide HUr), hbr⟩, by simp [intOf]⟩
     ·simp only [Value.slice.injEq] at hv
      obtain ⟨hv1, _, hv3⟩ := hv
      subst hv1
      subst hv3
      go_wp2_with (at_builtin; refine wpList_append_own _ rfl (.tmp 31) (.tmp 32) 38 rfl w0.heap.size 138 i0 (.agg #[.int .i64 0, .int .i64 0, .int .i64 0]) 3 24 Tryz.underlying38 hi0 hz0 hz1 hz2 rfl (by decide) _ _ _ rfl (unhide HUr) ⟨g0, 0, none⟩ ys.length qc (ys.flatMap ptF) rfl ?d0 ?d1 (pt_all _) ?d3 ?d4 ?d5 ?_)
      case d0 => rw [flat_len (f := ptF) (sz := 3) (fun _ => rfl)]
      case d1 => exact ((unhide HY).below hbr).news2
      case d3 => (first | (simp only [List.length_nil]; unfold maxLen; omega) | (unfold maxLen; omega))
      case d4 => (first | (simp only [List.length_nil]; omega) | omega)
      case d5 => exact hbr.size
      intro v' w' hown' hgrow _
      have hb' : Below w0.heap.size w0 w' := Below.grown hbr hgrow hbr.size (fun j hj => ((unhide HUr).lt j hj).1)
      have hrow' : PtRow w' w0.heap.size v' (catL xs ys 2) := by
       show World.ownsRow _ _ _ _ _ (xs ++ ys).length ((xs ++ ys).flatMap ptF)
       rw [List.flatMap_append, List.length_append]
       exact hown'
      have HROWN := hide hrow'
      clear hown' hgrow hrow'
      go_wp2_with fail
      exact ⟨⟨2, by omega, rfl, HROWN, hb'⟩, by simp [intOf]⟩
    ·go_wp2_with fail
     go_ret
     exact ⟨_, rfl, unhide HU, hbr⟩

end Go.Proofs.YtbdggfpfpjijoabGreatDoor

