import Derived.Test.YtbdggfpfpjijoabGreatDoorMKw5
import Derived.Test.YtbdggfpfpjijoabGreatDoorMKw8a
namespace Go.Proofs.YtbdggfpfpjijoabGreatDoor
open Go.RowKit Go.Maps

end Go.Proofs.YtbdggfpfpjijoabGreatDoor

namespace Go.Proofs.YtbdggfpfpjijoabGreatDoor
open Go.RowKit Go.Maps

theorem boxed_grown' {W' w5 : World} {r : Option Nat} (hg : W'.grownBy w5 r) {O : Nat} {vs : List Value} (h : Boxed W' O vs) (hne : some O ≠ r) : Boxed w5 O vs := by
 have hblk := hg.block O h.1 hne
 exact ⟨Nat.lt_of_lt_of_le h.1 hg.size, fun i v hi => by rw [World.cell?_of_block (w := W') (a := ⟨O, i, none⟩) hblk]; exact h.2.1 i v hi, fun i => by rw [World.frozen?_of_block (w := W') (a := ⟨O, i, none⟩) hblk]; exact h.2.2 i⟩

theorem Boxed.same {w w' : World} {N : Nat} {vs : List Value} (h : Boxed w N vs) (hb : w'.heap[N]? = w.heap[N]?) (hs : w.heap.size ≤ w'.heap.size) : Boxed w' N vs :=
 ⟨Nat.lt_of_lt_of_le h.1 hs, fun i v hi => (World.cell?_of_block (w := w) (a := ⟨N, i, none⟩) hb).trans (h.2.1 i v hi), fun i => (World.frozen?_of_block (w := w) (a := ⟨N, i, none⟩) hb).trans (h.2.2 i)⟩
theorem mv_own {w : World} {M : Nat} {k0 k1 k2 : Value} {s : Sp} {long sp : Int} {xs : List St} {k : Int} (h : Boxed w M (mvL (bodyL k0 k1 k2 s long sp xs) k)) : OwnC w M 0 412 (bodyF k0 k1 k2 s long sp xs) := by
 refine ⟨h.1, fun j hj => ⟨?_, by rw [Nat.zero_add]; exact h.2.2 j⟩⟩
 rw [Nat.zero_add]
 refine h.2.1 j _ ?_
 unfold mvL
 rw [List.getElem?_append_left (by rw [bodyL_len]; exact hj)]
 exact bodyL_get hj
theorem mv_num {w : World} {M : Nat} {L : List Value} {k : Int} (hL : L.length = 412) (h : Boxed w M (mvL L k)) : w.cell? ⟨M, 412, none⟩ = some (.int .i64 k) ∧ w.cell? ⟨M, 413, none⟩ = some (.slice none 0 0) := by
 refine ⟨h.2.1 412 _ ?_, h.2.1 413 _ ?_⟩
 ·unfold mvL
  rw [List.getElem?_append_right (by omega), hL]
  rfl
 ·unfold mvL
  rw [List.getElem?_append_right (by omega), hL]
  rfl
theorem Lying.mono {w : World} {base base' Mp N : Nat} {ls : Int → List Nat} {av : Nat → Prop} (h : Lying w base Mp N ls av) (hb : base' ≤ base) : Lying w base' Mp N ls av := by
 obtain ⟨f, h1, h2, h3, h4⟩ := h
 exact ⟨f, h1, fun p => (h2 p).mono hb, h3, h4⟩
theorem WldAt.mono {w : World} {base base' W : Nat} {n : Nt} {ka ksh kst : Option Addr} {kca kcsh kcst Mp N : Nat} {mvv : Value} {ms : List Nat} {ts : List Tr} (h : WldAt w base W n ka ksh kst kca kcsh kcst Mp N mvv ms ts) (hb : base' ≤ base) : WldAt w base' W n ka ksh kst kca kcsh kcst Mp N mvv ms ts :=
 ⟨⟨Nat.le_trans hb h.lo.1, Nat.le_trans hb h.lo.2⟩, h.ty, h.c0, h.c1, h.c2, h.c3, h.c4, h.free, h.row.mono hb, h.len, h.nodup, fun i hi => by
  obtain ⟨m1, m2, m3, m4, ⟨v, m5, m6⟩, m7⟩ := h.mvs i hi
  exact ⟨Nat.le_trans hb m1, m2, m3, m4, ⟨v, m5, m6.mono hb⟩, m7⟩, h.lying.mono hb⟩

def WorldOk (n : Nt) (ts : List Tr) : Prop := NetRes n 0 0 ∧ ts.length ≤ 20 ∧ ∀ t ∈ ts, TrainFits n t

set_option maxRecDepth 100000 in
set_option maxHeartbeats 8000000 in
theorem worldOf_all (v : Value) (n : Nt) (tq : Option Addr) (ts : List Tr) (tk : Nat) (w : World) {L L' : Nat} (hv : NetAt L w v n) (hts : TrsAt L' w tq ts) (htl : ts.length ≤ 1048576) (hbl : ∀ t ∈ ts, t.back.length ≤ 1048576)
  (hl : n.pieces.length ≤ 1048576) (hl' : n.joints.length ≤ 1048576) (hle : ∀ i (h : i < n.joints.length), n.joints[i].name.size ≤ maxLen) (hnm : ∀ i (h : i < n.pieces.length), n.pieces[i].name.size ≤ maxLen) :
  Calls Tryz.prog 63 #[v, .slice tq ts.length tk] w fun e w' =>
   ((WorldOk n ts ∧ ∃ w1 W ka ksh kst kca kcsh kcst Mp N mvv ms, e = .returned (.tuple #[.pointer (some ⟨W, 0, none⟩), .bool true]) ∧ WldAt w' w1.heap.size W n ka ksh kst kca kcsh kcst Mp N mvv ms ts ∧ N ≤ 100000 ∧ TrkAt 0 w1 (.agg #[.slice ka n.pieces.length kca, .slice ksh n.joints.length kcsh, .slice kst n.pieces.length kcst]) n ∧ Below w1.heap.size w1 w' ∧ Below w.heap.size w w1)
    ∨ (¬ WorldOk n ts ∧ e = .returned (.tuple #[.pointer none, .bool false]))) ∧ Below w.heap.size w w' := by
 obtain ⟨a, c, ca, cc, rfl, hp, hj⟩ := hv
 have hmm := @run_makeMap Tryz.prog
 go_enter Tryz.func63, Tryz.ntmps63
 go_wp2_with fail
 refine (trackOf_far a c ca cc n _ (L := L) ?hA ?hB hl hl' hle hnm).mono ?_
 case hA => exact hp.below bw0
 case hB => exact hj.below bw0
 rintro e w1 ⟨hret, hb1⟩
 have hbw1 : Below w.heap.size w w1 := below_then bw0 hb1
 have hsz1 := hbw1.size
 rcases hret with ⟨hR, ksh, kcsh, kst, kcst, rfl, hksh, hkst⟩ | ⟨hR, rfl⟩
 rotate_left
 ·have HR := hide hR
  clear hR
  go_wp2
  go_ret2
  exact ⟨Or.inr ⟨fun h => unhide HR h.1, rfl⟩, (bw1 hbw1)⟩
 by_cases h20 : ts.length ≤ 20
 rotate_left
 ·have h20b : (20 : Int) < (ts.length : Int) := by omega
  go_wp2
  go_ret2
  exact ⟨Or.inr ⟨fun h => h20 h.2.1, rfl⟩, (bw1 hbw1)⟩
 have hG := netGood hR
 have hkk : TrkAt 0 w1 (.agg #[.slice a n.pieces.length ca, .slice ksh n.joints.length kcsh, .slice kst n.pieces.length kcst]) n := ⟨_, _, _, _, _, _, rfl, (hp.below hbw1).mono (Nat.zero_le _), hksh.mono (Nat.zero_le _), hkst.mono (Nat.zero_le _)⟩
 have HR := hide hR
 clear hR hksh hkst
 have h20b : ¬ (20 : Int) < (ts.length : Int) := by omega
 go_wp2_with fail
 clear hmm
 go_loopw [32] (fun z wr => ∃ (k N : Nat) (mvv : Value) (ms : List Nat), k ≤ ts.length ∧ z = .int .i64 k ∧ Hid (∀ t ∈ ts.take k, TrainFits n t) ∧ N ≤ 1000 * k
   ∧ Hid (WldAt wr w1.heap.size (w1.heap.size + 1 + 1) n a ksh kst ca kcsh kcst (w1.heap.size + 1) N mvv ms (ts.take k)) ∧ Boxed wr w1.heap.size [.slice a n.pieces.length ca, .slice ksh n.joints.length kcsh, .slice kst n.pieces.length kcst] ∧ IsTy wr w1.heap.size 84 ∧ Below w1.heap.size w1 wr) (fun z _ => ts.length - (intOf z).toNat)
 case atStart =>
  have hmade := mapIs_made (w1.alloc (.cells #[.slice a n.pieces.length ca, .slice ksh n.joints.length kcsh, .slice kst n.pieces.length kcst] 84))
  rw [World.size_alloc] at hmade
  have hWb := boxedN ((w1.alloc (.cells #[.slice a n.pieces.length ca, .slice ksh n.joints.length kcsh, .slice kst n.pieces.length kcst] 84)).alloc (.map #[] 0)) #[.slice a n.pieces.length ca, .slice ksh n.joints.length kcsh, .slice kst n.pieces.length kcst, .slice none 0 0, .map (some (w1.heap.size + 1))] 127 (N := w1.heap.size + 1 + 1) (by simp)
  have hWt := isTy_alloc ((w1.alloc (.cells #[.slice a n.pieces.length ca, .slice ksh n.joints.length kcsh, .slice kst n.pieces.length kcst] 84)).alloc (.map #[] 0)) #[.slice a n.pieces.length ca, .slice ksh n.joints.length kcsh, .slice kst n.pieces.length kcst, .slice none 0 0, .map (some (w1.heap.size + 1))] 127
  simp only [World.size_alloc] at hWt
  refine ⟨0, 0, .slice none 0 0, [], Nat.zero_le _, rfl, hide fun t ht => by simp at ht, by omega, hide ⟨⟨by omega, by omega⟩, hWt, hWb.2.1 0 _ rfl, hWb.2.1 1 _ rfl, hWb.2.1 2 _ rfl, hWb.2.1 3 _ rfl, hWb.2.1 4 _ rfl, hWb.2.2, Row.nil _ _ _ _ _, by simp, List.nodup_nil, fun i hi => by simp at hi, ?_⟩, ((boxed_alloc _ _ _).alloc _).alloc _, ((isTy_alloc _ _ _).below bw0), bw0⟩
  exact ⟨fun _ => .slice none 0 0, hmade.below bw0, fun p => Row.nil _ _ _ _ _, fun p q _ => Or.inl rfl, fun p k hk => by simp [Value.ownBlock] at hk⟩
 case round =>
  obtain ⟨k, N, mvv, ms, hk, rfl, HFITS, hN, HW, hKb, hKt, hb⟩ := hrel
  have hbw := below_then hbw1 hb
  have kl := hKb.1
  have szr := hb.size
  have q0 := hKb.2.1 0 _ rfl
  have q1 := hKb.2.1 1 _ rfl
  have q2 := hKb.2.1 2 _ rfl
  by_cases hlt : k < ts.length
  ·obtain ⟨tb, toff, ba, bc, hte, htb, c0, c1, c2, c3, c4, hst, hcap⟩ := hts.below hbw k hlt
   have hblk := hbl ts[k] (List.getElem_mem hlt)
   have htk : ts.take (k + 1) = ts.take k ++ [ts[k]] := List.take_succ_eq_append_getElem hlt
   have hmemk : ts[k] ∈ ts := List.getElem_mem hlt
   generalize ts[k] = t at *
   have htb2 := htb.2
   subst hte
   have hA : Below wr.heap.size wr (wr.alloc (.cells #[.int .i64 t.front.piece, .int .i64 t.front.at_, .int .i64 t.front.way, .int .i64 t.long, .slice ba t.back.length bc] 37)) := bw0
   have hkA := (hkk.below hb).below hA
   go_wp2_with fail
   refine (bodyOf_any n t _ _ _ ba bc _ hkA hG ((hst.mono (Nat.zero_le _)).below hA) hcap hblk).mono ?_
   rintro e w2 ⟨hret, hb2⟩
   have hbr2 := below_then hA hb2
   have hzs : Tryz.zeroCells91.size = 412 := by rw [zero_cells, bodyL_size]
   rcases hret with ⟨hfit, rfl⟩ | ⟨hnf, rfl⟩
   rotate_left
   ·have hst5 := store_new w2 _ hzs _ (bodyL_len (.slice none 0 0) (.slice none 0 0) (.slice none 0 0) ⟨0, 0, 0⟩ 0 0 []) (bodyL_one _ _ _ _ rfl rfl rfl)
    have hlB := bodyL_len (.slice none 0 0) (.slice none 0 0) (.slice none 0 0) ⟨0, 0, 0⟩ 0 0 []
    have HNO : Hid (¬ WorldOk n ts) := fun h => hnf (h.2.2 t hmemk)
    clear hnf
    unfold zeroBody bodyV
    go_wp2
    go_ret2
    exact ⟨Or.inr ⟨unhide HNO, rfl⟩, below_then hbw (below_then hbr2 bw0)⟩
   ·have hst5 := store_new w2 _ hzs _ (bodyL_len (.slice a n.pieces.length ca) (.slice ksh n.joints.length kcsh) (.slice kst n.pieces.length kcst) t.front t.long (spare n t) t.back) (bodyL_one _ _ _ _ rfl rfl rfl)
    have hlB := bodyL_len (.slice a n.pieces.length ca) (.slice ksh n.joints.length kcsh) (.slice kst n.pieces.length kcst) t.front t.long (spare n t) t.back
    have hown := own_new w2 (.slice a n.pieces.length ca) (.slice ksh n.joints.length kcsh) (.slice kst n.pieces.length kcst) t.front t.long (spare n t) t.back 91
    have HRG := hide hown.range
    have hbd := mv_build (bodyL (.slice a n.pieces.length ca) (.slice ksh n.joints.length kcsh) (.slice kst n.pieces.length kcst) t.front t.long (spare n t) t.back) hlB (k : Int)
    have hbx := mv_box (mvL (bodyL (.slice a n.pieces.length ca) (.slice ksh n.joints.length kcsh) (.slice kst n.pieces.length kcst) t.front t.long (spare n t) t.back) (k : Int))
    have hWl := (unhide HW).ty.lt
    have wc3 := (hbr2.cell (p := ⟨w1.heap.size + 1 + 1, 3, none⟩) hWl).trans (unhide HW).c3
    have wz3 := (hbr2.frozen (p := ⟨w1.heap.size + 1 + 1, 3, none⟩) hWl).trans ((unhide HW).free 3)
    have sz2 := hbr2.size
    have hWl2 : w1.heap.size + 1 + 1 < w2.heap.size := by omega
    have nW2 : ¬ w1.heap.size + 1 + 1 = w2.heap.size := by omega
    have nW3 : ¬ w1.heap.size + 1 + 1 = w2.heap.size + 1 := by omega
    have hWl3 : w1.heap.size + 1 + 1 < w2.heap.size + 1 := by omega
    clear c0 c1 c2 c3 c4
    unfold bodyV
    go_wp2_with fail
    refine wp_load_mid 91 (.tmp 11) rfl w2.heap.size 0 rfl (bodyL (.slice a n.pieces.length ca) (.slice ksh n.joints.length kcsh) (.slice kst n.pieces.length kcst) t.front t.long (spare n t) t.back) _ (unhide HRG) Tryz.underlying91 rfl (by rw [info_size, bodyL_len]) ?_
    rename_i hKK
    refine hKK _ _ ?_
    simp only [Act.put, List.setIfInBounds_toArray, List.set_cons_zero, List.set_cons_succ]
    clear hKK
    have hrowM := (unhide HW).row.below hbr2
    have HROWM := hide hrowM
    have hml : ms.length ≤ 20 := by have := (unhide HW).len; rw [List.length_take] at this; omega
    have HMK : Hid (ms.length = k) := by have := (unhide HW).len; rw [List.length_take] at this; unfold Hid; omega
    obtain ⟨i0, hi, hz0, hz1, hz2⟩ := info_parts info_Ptr
    refine wpList_plain rfl fun K hK => ?_
    go_simp
    refine hK _ _ ?_
    clear hK
    refine wpList_plain rfl fun K hK => ?_
    refine wp_build_of 133 #[(0, .tmp 45), (1, .tmp 46)] rfl _ _ (by simp [Act.eval]) (hbd _) ?_
    refine hK _ _ ?_
    clear hK
    refine wpList_plain rfl fun K hK => ?_
    refine wp_box_of 133 (.tmp 47) rfl (.agg (mvL (bodyL (.slice a n.pieces.length ca) (.slice ksh n.joints.length kcsh) (.slice kst n.pieces.length kcst) t.front t.long (spare n t) t.back) (k : Int)).toArray) _ (by simp [Act.eval, Act.put]) (hbx _) ?_
    refine hK _ _ ?_
    clear hK hbd hbx
    simp only [Act.put, List.setIfInBounds_toArray, List.set_cons_zero, List.set_cons_succ]
    go_wp2_with (at_builtin; refine wpList_append_own_at _ rfl (.tmp 53) (.tmp 55) 124 rfl w1.heap.size 130 i0 (.pointer none) 1 8 Tryz.underlying124 hi hz0 hz1 hz2 rfl (by decide) _ _ _ rfl ((unhide HROWM).below bw0) _ 1 1 (prF (w2.heap.size + 1)) rfl rfl ?c1 (pr_one _) ?c3 ?c4 ?c5 ?_)
    case c1 => exact pr_news (boxedN _ _ _ (by simp))
    case c3 => unfold maxLen; omega
    case c4 => omega
    case c5 => first | omega | (simp; omega)
    intro v' w5 hown5 hgrow _ hat
    obtain ⟨W1, hW1⟩ : ∃ W1, W1 = (w2.alloc (.cells (bodyL (.slice a n.pieces.length ca) (.slice ksh n.joints.length kcsh) (.slice kst n.pieces.length kcst) t.front t.long (spare n t) t.back).toArray 91)).alloc (.cells (mvL (bodyL (.slice a n.pieces.length ca) (.slice ksh n.joints.length kcsh) (.slice kst n.pieces.length kcst) t.front t.long (spare n t) t.back) (k : Int)).toArray 133) := ⟨_, rfl⟩
    rw [← hW1] at hgrow
    have hb21 : Below w2.heap.size w2 W1 := by rw [hW1]; exact bw0
    have hbr1 := below_then hbr2 hb21
    have hM1 : Boxed W1 (w2.heap.size + 1) (mvL (bodyL (.slice a n.pieces.length ca) (.slice ksh n.joints.length kcsh) (.slice kst n.pieces.length kcst) t.front t.long (spare n t) t.back) (k : Int)) := by rw [hW1]; exact boxedN _ _ _ (by simp)
    have hMt1 : IsTy W1 (w2.heap.size + 1) 133 := by rw [hW1]; exact ⟨_, by have := Deep.blk_alloc_new (w2.alloc (.cells (bodyL (.slice a n.pieces.length ca) (.slice ksh n.joints.length kcsh) (.slice kst n.pieces.length kcst) t.front t.long (spare n t) t.back).toArray 91)) (.cells (mvL (bodyL (.slice a n.pieces.length ca) (.slice ksh n.joints.length kcsh) (.slice kst n.pieces.length kcst) t.front t.long (spare n t) t.back) (k : Int)).toArray 133); rw [World.size_alloc] at this; exact this⟩
    have hsW1 : W1.heap.size = w2.heap.size + 1 + 1 := by rw [hW1]; simp
    clear hW1
    have HW' := unhide HW
    have hrow5 : PrRow w5 w1.heap.size v' (ms ++ [w2.heap.size + 1]) := Row.snoc hown5
    obtain ⟨va, vcap, hv', hvc, _⟩ := prRow_at hrow5
    rw [List.length_append, List.length_singleton] at hv'
    subst hv'
    obtain ⟨hall, hty6, hcs6, hc36, hfr6, hrow6, hL6, hs6⟩ := wld_append HW' hbr1 hgrow hrow5 (hat.imp id fun e => ⟨_, e, by omega⟩)
    have hM5 := boxed_grown' hgrow (hM1.alloc _) (fun e => by have := (hrowM.lt _ e.symm).2; omega)
    have hMt5 : IsTy w5 (w2.heap.size + 1) 133 := ((hMt1.below (show Below W1.heap.size W1 (W1.alloc (.cells #[.pointer (some ⟨w2.heap.size + 1, 0, none⟩)] 130)) from bw0)).same (hgrow.block _ (by rw [World.size_alloc]; omega) (fun e => by have := (hrowM.lt _ e.symm).2; omega)))
    have hMW : w2.heap.size + 1 ≠ w1.heap.size + 1 + 1 := by omega
    have hM6 := hM5.apart (p := ⟨w1.heap.size + 1 + 1, 3, none⟩) hMW (.slice va (ms.length + 1) vcap)
    have hMt6 := isTy_set hMt5 ⟨w1.heap.size + 1 + 1, 3, none⟩ (.slice va (ms.length + 1) vcap)
    have wc3 : w5.cell? ⟨w1.heap.size + 1 + 1, 3, none⟩ = some mvv := by
     have hnW : some (w1.heap.size + 1 + 1) ≠ mvv.ownBlock := fun e => absurd ((HW'.row.ty e.symm).unique HW'.ty) (by decide)
     rw [grown_cell hgrow (by rw [World.size_alloc]; omega) hnW, World.cell?_alloc_past _ _ _ (by first | omega | (simp; omega)), hbr1.cell hWl]
     exact HW'.c3
    have wz3 : w5.frozen? ⟨w1.heap.size + 1 + 1, 3, none⟩ = false := by
     have := hfr6 3
     rwa [World.frozen?_setCell] at this
    have hlm6 : ∀ p, ∀ q ∈ lsOf ms (fun i => bodyParts n ((ts.take k).getD i noTr')) p, IsTy (w5.setCell ⟨w1.heap.size + 1 + 1, 3, none⟩ (.slice va (ms.length + 1) vcap)) q 133 := fun p q hq => by
     obtain ⟨i, hi, rfl⟩ := List.getElem_of_mem (lsOf_mem q hq)
     have hm := (HW'.mvs i hi).ty
     exact hm.same (hall _ hm.lt (fun e => absurd (hm.unique (by rw [e]; exact HW'.ty)) (by decide)) (fun e => absurd (hm.unique (HW'.row.ty e.symm)) (by decide)))
    have hb6 : Below w1.heap.size w1 (w5.setCell ⟨w1.heap.size + 1 + 1, 3, none⟩ (.slice va (ms.length + 1) vcap)) := by
     have h1 : Below w1.heap.size w1 w5 := (below_then hb (below_then hbr1 bw0)).grown hgrow (by rw [World.size_alloc]; omega) (fun j hj => (HW'.row.lt j hj).1)
     exact h1.setCell (p := ⟨w1.heap.size + 1 + 1, 3, none⟩) (by show w1.heap.size ≤ w1.heap.size + 1 + 1; omega) _
    have HL6 := hide hL6
    have HM6 := hide hM6
    have HALL := hide hall
    clear hall hL6 hM6 hM5 hgrow hown5 hrow5 hrowM
    go_wp2_with fail
    obtain ⟨hnum6, hcov6⟩ := mv_num hlB (unhide HM6)
    have hown6 := mv_own (unhide HM6)
    have hgb6 := gb_of hown6 (by have := hfit.2.2.1; omega)
    refine (wlay_any n t (w1.heap.size + 1 + 1) (w2.heap.size + 1) (w1.heap.size + 1) N 20 w1.heap.size (fun k => (Value.slice va (ms.length + 1) vcap).ownBlock = some k) a ksh kst ca kcsh kcst _ _ _ hty6 ((hcs6 4 (by omega)).trans HW'.c4) hMt6 hcov6 ((unhide HM6).2.2 413) hgb6 (hkk.below hb6) hG hfit (unhide HL6) (fun p => Nat.le_trans lsOf_len hml) hlm6 (by omega) (by omega) (by omega) (fun j hj => (hrow6.lt j hj).2)).mono ?_
    rintro e w7 ⟨⟨v7, rfl⟩, ⟨cv, hcv, hcr⟩, hL7, hT7, hcl7, hfr7, hty7⟩
    have hown7 : OwnC w7 (w2.heap.size + 1) 0 412 (bodyF (.slice a n.pieces.length ca) (.slice ksh n.joints.length kcsh) (.slice kst n.pieces.length kcst) t.front t.long (spare n t) t.back) := ⟨hty7.lt, fun j hj => ⟨by rw [hcl7 _ (by omega)]; exact (hown6.2 j hj).1, by rw [hfr7]; exact (hown6.2 j hj).2⟩⟩
    have hMv7 : MvAt w7 w1.heap.size n (.slice a n.pieces.length ca) (.slice ksh n.joints.length kcsh) (.slice kst n.pieces.length kcst) (w2.heap.size + 1) ms.length t := ⟨by omega, hty7, hown7, by rw [hcl7 412 (by omega), hnum6, unhide HMK], ⟨cv, hcv, hcr.mono (by omega)⟩, fun j => by rw [hfr7]; exact (unhide HM6).2.2 j⟩
    have hWld7 := wld_lay HW' (unhide HALL) hty6 hcs6 hc36 hfr6 hrow6 hs6 (by omega) hMt6 HW'.lying.lt hT7 hL7 hMv7
    have hK6 := unhide HALL w1.heap.size hKt.lt (by omega) (fun e => absurd (hKt.unique (HW'.row.ty e.symm)) (by decide))
    have hKt6 := hKt.same hK6
    have hK7 : w7.heap[w1.heap.size]? = wr.heap[w1.heap.size]? := (hT7.block _ hKt6.lt (by
     rintro (e | e | ⟨_, _, e⟩)
     ·omega
     ·omega
     ·exact absurd (hKt6.unique e) (by decide))).trans hK6
    have hs7 := hT7.size
    have hb7 : Below w1.heap.size w1 w7 := hb6.trans (hT7.below hb6.size (fun j hj => by rintro (e | e | ⟨e, _, _⟩) <;> omega))
    have HWLD := hide hWld7
    have HFIT := hide hfit
    clear hWld7 hMv7 hcr hcv hL7 hT7 hown7 hcl7 hfr7 hgb6 hown6 hfit
    go_wp2
    refine ⟨⟨k + 1, N + 1000, .slice va (ms.length + 1) vcap, ms ++ [w2.heap.size + 1], by omega, by go_num, hide fun t' ht' => ?_, by omega, ?_, hKb.same hK7 (by omega), hKt.same hK7, hb7⟩, by simp [intOf]; omega⟩
    ·rw [htk] at ht'
     rcases List.mem_append.1 ht' with h | h
     ·exact unhide HFITS t' h
     ·obtain rfl : t' = t := by simpa using h
      exact unhide HFIT
    ·rw [htk]
     exact HWLD
  ·have hkl : k = ts.length := by omega
   have HTK : Hid (ts.take k = ts) := by unfold Hid; rw [hkl]; simp
   clear hkl q0 q1 q2
   go_wp2
   go_ret2
   have hfits := unhide HFITS
   have hw := unhide HW
   rw [unhide HTK] at hfits hw
   exact ⟨Or.inl ⟨⟨unhide HR, h20, hfits⟩, w1, _, _, _, _, _, _, _, _, _, _, _, rfl, hw, by omega, hkk, hb, hbw1⟩, hbw⟩

end Go.Proofs.YtbdggfpfpjijoabGreatDoor

namespace Go.Proofs.YtbdggfpfpjijoabGreatDoor
open Go.RowKit Go.Maps

def ntF (z : Int) : List Value := [.int .i64 z]
theorem ntF_len (z : Int) : (ntF z).length = 1 := rfl
abbrev NtRow (w : World) (base : Nat) (v : Value) (zs : List Int) : Prop := Row w base 3 1 ntF v zs
theorem ntRow_at {w : World} {base : Nat} {v : Value} {zs : List Int} (h : NtRow w base v zs) : ∃ a cap, v = .slice a zs.length cap ∧ zs.length ≤ cap ∧ IntsAt base w a zs := by
 obtain ⟨a, cap, hv, hc, hx⟩ := h.shape ntF_len
 refine ⟨a, cap, hv, hc, fun i hi => ?_⟩
 obtain ⟨g, ha, hg, hj⟩ := hx i hi
 have e0 := hj 0 (by omega)
 simp only [ntF] at e0
 exact ⟨g, 0, ha, hg, by simpa using e0⟩
theorem nt_news {W : World} {N : Nat} {z : Int} (h : Boxed W N [.int .i64 z]) : ∀ j u, (ntF z)[j]? = some u → W.cell? ((⟨N, 0, none⟩ : Addr).add j) = some u := by
 intro j u hj
 match j, hj with
 | 0, hj => simp [ntF] at hj; subst hj; simpa [Addr.add] using h.2.1 0 _ rfl
theorem nt_one (z : Int) : ∀ u ∈ ntF z, u.oneCell' = true := by
 intro u hu
 simp [ntF] at hu
 subst hu
 rfl

def TakenGood (n : Nt) (ts : List Tr) (ps : List Pt) : Prop := WorldOk n ts ∧ PtsFit n ps
def takenL (n : Nt) (ts : List Tr) (ps : List Pt) : List Int := ((List.range ts.length).filter fun i => hits ps (bodyParts n (ts.getD i noTr'))).map fun (i : Nat) => (i : Int)
def TakenIs (n : Nt) (ts : List Tr) (ps : List Pt) (zs : List Int) : Prop := (TakenGood n ts ps ∧ zs = takenL n ts ps) ∨ (¬ TakenGood n ts ps ∧ zs = [])
theorem TakenIs.unique {n : Nt} {ts : List Tr} {ps : List Pt} {a b : List Int} (h : TakenIs n ts ps a) (g : TakenIs n ts ps b) : a = b := by
 rcases h with ⟨h1, rfl⟩ | ⟨h1, rfl⟩ <;> rcases g with ⟨g1, rfl⟩ | ⟨g1, rfl⟩
 ·rfl
 ·exact absurd h1 g1
 ·exact absurd g1 h1
 ·rfl
theorem TakenIs.len {n : Nt} {ts : List Tr} {ps : List Pt} {zs : List Int} (h : TakenIs n ts ps zs) : zs.length ≤ 20 := by
 rcases h with ⟨h1, rfl⟩ | ⟨h1, rfl⟩
 ·unfold takenL
  rw [List.length_map]
  have := h1.1.2.1
  exact Nat.le_trans (List.length_filter_le _ _) (by simp; omega)
 ·simp
theorem MvAt.touch {w : World} {base : Nat} {n : Nt} {k0 k1 k2 : Value} {M i : Nat} {t : Tr} (h : MvAt w base n k0 k1 k2 M i t) (hl : (bodyParts n t).length ≤ 1048576) : IsTy w M 133 ∧ w.cell? ⟨M, 412, none⟩ = some (.int .i64 i) ∧ ∃ a c, w.cell? ⟨M, 413, none⟩ = some (.slice a (bodyParts n t).length c) ∧ PtsAt 0 w a (bodyParts n t) ∧ (bodyParts n t).length ≤ 1048576 := by
 obtain ⟨v, h5, h6⟩ := h.cov
 obtain ⟨a, cap, rfl, _, hx⟩ := ptRow_at (h6.mono (Nat.zero_le _))
 exact ⟨h.ty, h.num, a, cap, h5, hx, hl⟩

end Go.Proofs.YtbdggfpfpjijoabGreatDoor

