import Derived.Test.YthdioeofdofleaaGreatDoorMKw8a
import Derived.Test.YthdioeofdofleaaGreatDoorMRf
import Derived.Test.YthdioeofdofleaaGreatDoorMPlain7
import Derived.Test.YthdioeofdofleaaGreatDoorMPlain2
import Derived.Test.YthdioeofdofleaaGreatDoorMKt17
import Derived.Test.YthdioeofdofleaaGreatDoorMKw5
namespace Go.Proofs.YthdioeofdofleaaGreatDoor
open Go.RowKit Go.Maps Go.Shelf
variable {W' w w' W w0 : World} {vs : List Value} {N M L base base' Mp L' B U l D : Nat} {k0 k1 k2 ov : Value} {s : Sp} {long sp k F code joint : Int} {xs : List St} {n : Nt} {ts : List Tr} {S T : Nat -> Prop} {zs : List Int} {m0 m : Mv} {sx : List Sx} {ps : List Pt}
theorem boxed_grown' {w5 : World} {r : Option Nat} (hg : W'.grownBy w5 r) {O : Nat} (h : zg W' O vs) (hne : some O ≠ r) : zg w5 O vs := by
 have hblk := hg.block O h.1 hne;exact ⟨Nat.lt_of_lt_of_le h.1 hg.size, fun i v hi => by rw [World.cell?_of_block (w := W') (a := ⟨O, i, none⟩) hblk]; exact h.2.1 i v hi, fun i => by rw [World.frozen?_of_block (w := W') (a := ⟨O, i, none⟩) hblk]; exact h.2.2 i⟩

theorem zg.same (h : zg w N vs) (hb : w'.heap[N]? = w.heap[N]?) (hs : w.heap.size <= w'.heap.size) : zg w' N vs :=
 ⟨Nat.lt_of_lt_of_le h.1 hs, fun i v hi => (World.cell?_of_block (w := w) (a := ⟨N, i, none⟩) hb).trans (h.2.1 i v hi), fun i => (World.frozen?_of_block (w := w) (a := ⟨N, i, none⟩) hb).trans (h.2.2 i)⟩
theorem mv_own (h : zg w M (mvL (Zf k0 k1 k2 s long sp xs) k)) : Zi w M 0 412 (zC k0 k1 k2 s long sp xs) := by
 refine ⟨h.1, fun j hj => ⟨?_, by rw [Nat.zero_add]; exact h.2.2 j⟩⟩;rw [Nat.zero_add];refine h.2.1 j _ ?_;unfold mvL;rw [List.getElem?_append_left (by rw [zw]; exact hj)];exact Vc hj
theorem mv_num {L : List Value} (hL : L.length = 412) (h : zg w M (mvL L k)) : w.cell? ⟨M, 412, none⟩ = some (.int .i64 k) /\ w.cell? ⟨M, 413, none⟩ = some (.slice none 0 0) := by
 refine ⟨h.2.1 412 _ ?_, h.2.1 413 _ ?_⟩
 ·unfold mvL;rw [List.getElem?_append_right (by omega), hL];rfl
 ·unfold mvL;rw [List.getElem?_append_right (by omega), hL];rfl
theorem zZ.mono {ls : Int -> List Nat} {av : Nat -> Prop} (h : zZ w base Mp N ls av) (hb : base' <= base) : zZ w base' Mp N ls av := by
 obtain ⟨f, h1, h2, h3, h4⟩ := h;exact ⟨f, h1, fun p => (h2 p).mono hb, h3, h4⟩
theorem Vp.mono {W : Nat} {ka ksh kst : Option Addr} {kca kcsh kcst : Nat} {mvv : Value} {ms : List Nat} (h : Vp w base W n ka ksh kst kca kcsh kcst Mp N mvv ms ts) (hb : base' <= base) : Vp w base' W n ka ksh kst kca kcsh kcst Mp N mvv ms ts :=
 ⟨⟨Nat.le_trans hb h.lo.1, Nat.le_trans hb h.lo.2⟩, h.ty, h.c0, h.c1, h.c2, h.c3, h.c4, h.free, h.row.mono hb, h.len, h.nodup, fun i hi => by
  obtain ⟨m1, m2, m3, m4, ⟨v, m5, m6⟩, m7⟩ := h.mvs i hi
  exact ⟨Nat.le_trans hb m1, m2, m3, m4, ⟨v, m5, m6.mono hb⟩, m7⟩, h.lying.mono hb⟩

def ye (n : Nt) (ts : List Tr) : Prop := Zz n 0 0 /\ ts.length <= 20 /\ ∀ t ∈ ts, zD n t

set_option maxRecDepth 100000 in
set_option maxHeartbeats 8000000 in
theorem uT (v : Value) (n : Nt) (tq : Option Addr) (ts : List Tr) (tk : Nat) (w : World) (hv : zE L w v n) (hts : XW L' w tq ts) (htl : ts.length <= 1048576) (hbl : ∀ t ∈ ts, t.back.length <= 1048576)
  (hl : n.pieces.length <= 1048576) (hl' : n.joints.length <= 1048576) (hle : ∀ i (h : i < n.joints.length), n.joints[i].name.size <= maxLen) (hnm : ∀ i (h : i < n.pieces.length), n.pieces[i].name.size <= maxLen) :
  Calls Tryz.prog 20 #[v, .slice tq ts.length tk] w fun e w' =>
   ((ye n ts /\ ∃ w1 W ka ksh kst kca kcsh kcst Mp N mvv ms, e = .returned (.tuple #[.pointer (some ⟨W, 0, none⟩), .bool true]) /\ Vp w' w1.heap.size W n ka ksh kst kca kcsh kcst Mp N mvv ms ts /\ N <= 100000 /\ ZD 0 w1 (.agg #[.slice ka n.pieces.length kca, .slice ksh n.joints.length kcsh, .slice kst n.pieces.length kcst]) n /\ Below w1.heap.size w1 w' /\ Below w.heap.size w w1)
    \/ (¬ ye n ts /\ e = .returned (.tuple #[.pointer none, .bool false]))) /\ Below w.heap.size w w' := by
 obtain ⟨a, c, ca, cc, rfl, hp, hj⟩ := hv;have hmm := @run_makeMap Tryz.prog;go_enter Tryz.func20, Tryz.ntmps20;go_wp2_with fail;refine (uV a c ca cc n _ (L := L) ?hA ?hB hl hl' hle hnm).mono ?_
 case hA => exact hp.below bw0
 case hB => exact hj.below bw0
 rintro e w1 ⟨hret, hb1⟩;have hbw1 : Below w.heap.size w w1 := below_then bw0 hb1;have hsz1 := hbw1.size
 rcases hret with ⟨hR, ksh, kcsh, kst, kcst, rfl, hksh, hkst⟩ | ⟨hR, rfl⟩
 rotate_left
 ·have HR := zd hR;clear hR;go_wp2;go_ret2;exact ⟨Or.inr ⟨fun h => za HR h.1, rfl⟩, (ZW hbw1)⟩
 by_cases h20 : ts.length <= 20
 rotate_left
 ·have h20b : (20 : Int) < (ts.length : Int) := by omega
  go_wp2;go_ret2;exact ⟨Or.inr ⟨fun h => h20 h.2.1, rfl⟩, (ZW hbw1)⟩
 have hG := Zu hR;have hkk : ZD 0 w1 (.agg #[.slice a n.pieces.length ca, .slice ksh n.joints.length kcsh, .slice kst n.pieces.length kcst]) n := ⟨_, _, _, _, _, _, rfl, (hp.below hbw1).mono (Nat.zero_le _), hksh.mono (Nat.zero_le _), hkst.mono (Nat.zero_le _)⟩;have HR := zd hR;clear hR hksh hkst
 have h20b : ¬ (20 : Int) < (ts.length : Int) := by omega
 go_wp2_with fail;clear hmm
 go_loopw [32] (fun z wr => ∃ (k N : Nat) (mvv : Value) (ms : List Nat), k <= ts.length /\ z = .int .i64 k /\ Hid (∀ t ∈ ts.take k, zD n t) /\ N <= 1000 * k
   /\ Hid (Vp wr w1.heap.size (w1.heap.size + 1 + 1) n a ksh kst ca kcsh kcst (w1.heap.size + 1) N mvv ms (ts.take k)) /\ zg wr w1.heap.size [.slice a n.pieces.length ca, .slice ksh n.joints.length kcsh, .slice kst n.pieces.length kcst] /\ zx wr w1.heap.size 70 /\ Below w1.heap.size w1 wr) (fun z _ => ts.length - (intOf z).toNat)
 case atStart =>
  have hmade := mapIs_made (w1.alloc (.cells #[.slice a n.pieces.length ca, .slice ksh n.joints.length kcsh, .slice kst n.pieces.length kcst] 70));rw [World.size_alloc] at hmade;have hWb := zp ((w1.alloc (.cells #[.slice a n.pieces.length ca, .slice ksh n.joints.length kcsh, .slice kst n.pieces.length kcst] 70)).alloc (.map #[] 0)) #[.slice a n.pieces.length ca, .slice ksh n.joints.length kcsh, .slice kst n.pieces.length kcst, .slice none 0 0, .map (some (w1.heap.size + 1))] 74 (N := w1.heap.size + 1 + 1) (by simp);have hWt := Zy ((w1.alloc (.cells #[.slice a n.pieces.length ca, .slice ksh n.joints.length kcsh, .slice kst n.pieces.length kcst] 70)).alloc (.map #[] 0)) #[.slice a n.pieces.length ca, .slice ksh n.joints.length kcsh, .slice kst n.pieces.length kcst, .slice none 0 0, .map (some (w1.heap.size + 1))] 74;simp only [World.size_alloc] at hWt;refine ⟨0, 0, .slice none 0 0, [], Nat.zero_le _, rfl, zd fun t ht => by simp at ht, by omega, zd ⟨⟨by omega, by omega⟩, hWt, hWb.2.1 0 _ rfl, hWb.2.1 1 _ rfl, hWb.2.1 2 _ rfl, hWb.2.1 3 _ rfl, hWb.2.1 4 _ rfl, hWb.2.2, zV.nil _ _ _ _ _, by simp, List.nodup_nil, fun i hi => by simp at hi, ?_⟩, ((zf _ _ _).alloc _).alloc _, ((Zy _ _ _).below bw0), bw0⟩;exact ⟨fun _ => .slice none 0 0, hmade.below bw0, fun p => zV.nil _ _ _ _ _, fun p q _ => Or.inl rfl, fun p k hk => by simp [Value.ownBlock] at hk⟩
 case round =>
  obtain ⟨k, N, mvv, ms, hk, rfl, HFITS, hN, HW, hKb, hKt, hb⟩ := hrel;have hbw := below_then hbw1 hb;have kl := hKb.1;have szr := hb.size;have q0 := hKb.2.1 0 _ rfl;have q1 := hKb.2.1 1 _ rfl;have q2 := hKb.2.1 2 _ rfl
  by_cases hlt : k < ts.length
  ·obtain ⟨tb, toff, ba, bc, hte, htb, c0, c1, c2, c3, c4, hst, hcap⟩ := hts.below hbw k hlt;have hblk := hbl ts[k] (List.getElem_mem hlt);have htk : ts.take (k + 1) = ts.take k ++ [ts[k]] := List.take_succ_eq_append_getElem hlt;have hmemk : ts[k] ∈ ts := List.getElem_mem hlt
   generalize ts[k] = t at *
   have htb2 := htb.2;subst hte;have hA : Below wr.heap.size wr (wr.alloc (.cells #[.int .i64 t.front.piece, .int .i64 t.front.at_, .int .i64 t.front.way, .int .i64 t.long, .slice ba t.back.length bc] 32)) := bw0;have hkA := (hkk.below hb).below hA;go_wp2_with fail;refine (VD n t _ _ _ ba bc _ hkA hG ((hst.mono (Nat.zero_le _)).below hA) hcap hblk).mono ?_;rintro e w2 ⟨hret, hb2⟩;have hbr2 := below_then hA hb2
   have hzs : Tryz.zeroCells92.size = 412 := by rw [ZH, yZ]
   rcases hret with ⟨hfit, rfl⟩ | ⟨hnf, rfl⟩
   rotate_left
   ·have hst5 := Yc w2 _ hzs _ (zw (.slice none 0 0) (.slice none 0 0) (.slice none 0 0) ⟨0, 0, 0⟩ 0 0 []) (ZU _ _ _ _ rfl rfl rfl);have hlB := zw (.slice none 0 0) (.slice none 0 0) (.slice none 0 0) ⟨0, 0, 0⟩ 0 0 []
    have HNO : Hid (¬ ye n ts) := fun h => hnf (h.2.2 t hmemk)
    clear hnf;unfold yb xN;go_wp2;go_ret2;exact ⟨Or.inr ⟨za HNO, rfl⟩, below_then hbw (below_then hbr2 bw0)⟩
   ·have hst5 := Yc w2 _ hzs _ (zw (.slice a n.pieces.length ca) (.slice ksh n.joints.length kcsh) (.slice kst n.pieces.length kcst) t.front t.long (zW n t) t.back) (ZU _ _ _ _ rfl rfl rfl);have hlB := zw (.slice a n.pieces.length ca) (.slice ksh n.joints.length kcsh) (.slice kst n.pieces.length kcst) t.front t.long (zW n t) t.back;have hown := vY w2 (.slice a n.pieces.length ca) (.slice ksh n.joints.length kcsh) (.slice kst n.pieces.length kcst) t.front t.long (zW n t) t.back 92;have HRG := zd hown.range;have hbd := mv_build (Zf (.slice a n.pieces.length ca) (.slice ksh n.joints.length kcsh) (.slice kst n.pieces.length kcst) t.front t.long (zW n t) t.back) hlB (k : Int);have hbx := mv_box (mvL (Zf (.slice a n.pieces.length ca) (.slice ksh n.joints.length kcsh) (.slice kst n.pieces.length kcst) t.front t.long (zW n t) t.back) (k : Int));have hWl := (za HW).ty.lt;have wc3 := (hbr2.cell (p := ⟨w1.heap.size + 1 + 1, 3, none⟩) hWl).trans (za HW).c3;have wz3 := (hbr2.frozen (p := ⟨w1.heap.size + 1 + 1, 3, none⟩) hWl).trans ((za HW).free 3);have sz2 := hbr2.size
    have hWl2 : w1.heap.size + 1 + 1 < w2.heap.size := by omega
    have nW2 : ¬ w1.heap.size + 1 + 1 = w2.heap.size := by omega
    have nW3 : ¬ w1.heap.size + 1 + 1 = w2.heap.size + 1 := by omega
    have hWl3 : w1.heap.size + 1 + 1 < w2.heap.size + 1 := by omega
    clear c0 c1 c2 c3 c4;unfold xN;go_wp2_with fail;refine wp_load_mid 92 (.tmp 11) rfl w2.heap.size 0 rfl (Zf (.slice a n.pieces.length ca) (.slice ksh n.joints.length kcsh) (.slice kst n.pieces.length kcst) t.front t.long (zW n t) t.back) _ (za HRG) Tryz.underlying92 rfl (by rw [YN, zw]) ?_;rename_i hKK;refine hKK _ _ ?_;simp only [Act.put, List.setIfInBounds_toArray, List.set_cons_zero, List.set_cons_succ];clear hKK;have hrowM := (za HW).row.below hbr2;have HROWM := zd hrowM
    have hml : ms.length <= 20 := by have := (za HW).len; rw [List.length_take] at this; omega
    have HMK : Hid (ms.length = k) := by have := (za HW).len; rw [List.length_take] at this; unfold Hid; omega
    obtain ⟨i0, hi, hz0, hz1, hz2⟩ := info_parts info_Ptr
    refine wpList_plain rfl fun K hK => ?_
    go_simp;refine hK _ _ ?_;clear hK
    refine wpList_plain rfl fun K hK => ?_
    refine wp_build_of 95 #[(0, .tmp 45), (1, .tmp 46)] rfl _ _ (by simp [Act.eval]) (hbd _) ?_;refine hK _ _ ?_;clear hK
    refine wpList_plain rfl fun K hK => ?_
    refine wp_box_of 95 (.tmp 47) rfl (.agg (mvL (Zf (.slice a n.pieces.length ca) (.slice ksh n.joints.length kcsh) (.slice kst n.pieces.length kcst) t.front t.long (zW n t) t.back) (k : Int)).toArray) _ (by simp [Act.eval, Act.put]) (hbx _) ?_;refine hK _ _ ?_;clear hK hbd hbx;simp only [Act.put, List.setIfInBounds_toArray, List.set_cons_zero, List.set_cons_succ]
    go_wp2_with (at_builtin; refine wpList_append_own_at _ rfl (.tmp 53) (.tmp 55) 71 rfl w1.heap.size 77 i0 (.pointer none) 1 8 Tryz.underlying71 hi hz0 hz1 hz2 rfl (by decide) _ _ _ rfl ((za HROWM).below bw0) _ 1 1 (prF (w2.heap.size + 1)) rfl rfl ?c1 (pr_one _) ?c3 ?c4 ?c5 ?_)
    case c1 => exact pr_news (zp _ _ _ (by simp))
    case c3 => unfold maxLen; omega
    case c4 => omega
    case c5 => first | omega | (simp; omega)
    intro v' w5 hown5 hgrow _ hat;obtain ⟨W1, hW1⟩ : ∃ W1, W1 = (w2.alloc (.cells (Zf (.slice a n.pieces.length ca) (.slice ksh n.joints.length kcsh) (.slice kst n.pieces.length kcst) t.front t.long (zW n t) t.back).toArray 92)).alloc (.cells (mvL (Zf (.slice a n.pieces.length ca) (.slice ksh n.joints.length kcsh) (.slice kst n.pieces.length kcst) t.front t.long (zW n t) t.back) (k : Int)).toArray 95) := ⟨_, rfl⟩;rw [← hW1] at hgrow
    have hb21 : Below w2.heap.size w2 W1 := by rw [hW1]; exact bw0
    have hbr1 := below_then hbr2 hb21
    have hM1 : zg W1 (w2.heap.size + 1) (mvL (Zf (.slice a n.pieces.length ca) (.slice ksh n.joints.length kcsh) (.slice kst n.pieces.length kcst) t.front t.long (zW n t) t.back) (k : Int)) := by rw [hW1]; exact zp _ _ _ (by simp)
    have hMt1 : zx W1 (w2.heap.size + 1) 95 := by rw [hW1]; exact ⟨_, by have := Deep.blk_alloc_new (w2.alloc (.cells (Zf (.slice a n.pieces.length ca) (.slice ksh n.joints.length kcsh) (.slice kst n.pieces.length kcst) t.front t.long (zW n t) t.back).toArray 92)) (.cells (mvL (Zf (.slice a n.pieces.length ca) (.slice ksh n.joints.length kcsh) (.slice kst n.pieces.length kcst) t.front t.long (zW n t) t.back) (k : Int)).toArray 95); rw [World.size_alloc] at this; exact this⟩
    have hsW1 : W1.heap.size = w2.heap.size + 1 + 1 := by rw [hW1]; simp
    clear hW1;have HW' := za HW;have hrow5 : YE w5 w1.heap.size v' (ms ++ [w2.heap.size + 1]) := zV.snoc hown5;obtain ⟨va, vcap, hv', hvc, _⟩ := xF hrow5;rw [List.length_append, List.length_singleton] at hv';subst hv';obtain ⟨hall, hty6, hcs6, hc36, hfr6, hrow6, hL6, hs6⟩ := wld_append HW' hbr1 hgrow hrow5 (hat.imp id fun e => ⟨_, e, by omega⟩);have hM5 := boxed_grown' hgrow (hM1.alloc _) (fun e => by have := (hrowM.lt _ e.symm).2; omega);have hMt5 : zx w5 (w2.heap.size + 1) 95 := ((hMt1.below (show Below W1.heap.size W1 (W1.alloc (.cells #[.pointer (some ⟨w2.heap.size + 1, 0, none⟩)] 77)) from bw0)).same (hgrow.block _ (by rw [World.size_alloc]; omega) (fun e => by have := (hrowM.lt _ e.symm).2; omega)))
    have hMW : w2.heap.size + 1 ≠ w1.heap.size + 1 + 1 := by omega
    have hM6 := hM5.apart (p := ⟨w1.heap.size + 1 + 1, 3, none⟩) hMW (.slice va (ms.length + 1) vcap);have hMt6 := Zq hMt5 ⟨w1.heap.size + 1 + 1, 3, none⟩ (.slice va (ms.length + 1) vcap)
    have wc3 : w5.cell? ⟨w1.heap.size + 1 + 1, 3, none⟩ = some mvv := by
     have hnW : some (w1.heap.size + 1 + 1) ≠ mvv.ownBlock := fun e => absurd ((HW'.row.ty e.symm).unique HW'.ty) (by decide)
     rw [Yu hgrow (by rw [World.size_alloc]; omega) hnW, World.cell?_alloc_past _ _ _ (by first | omega | (simp; omega)), hbr1.cell hWl];exact HW'.c3
    have wz3 : w5.frozen? ⟨w1.heap.size + 1 + 1, 3, none⟩ = false := by
     have := hfr6 3
     rwa [World.frozen?_setCell] at this
    have hlm6 : ∀ p, ∀ q ∈ xU ms (fun i => zi n ((ts.take k).getD i noTr')) p, zx (w5.setCell ⟨w1.heap.size + 1 + 1, 3, none⟩ (.slice va (ms.length + 1) vcap)) q 95 := fun p q hq => by
     obtain ⟨i, hi, rfl⟩ := List.getElem_of_mem (UY q hq);have hm := (HW'.mvs i hi).ty;exact hm.same (hall _ hm.lt (fun e => absurd (hm.unique (by rw [e]; exact HW'.ty)) (by decide)) (fun e => absurd (hm.unique (HW'.row.ty e.symm)) (by decide)))
    have hb6 : Below w1.heap.size w1 (w5.setCell ⟨w1.heap.size + 1 + 1, 3, none⟩ (.slice va (ms.length + 1) vcap)) := by
     have h1 : Below w1.heap.size w1 w5 := (below_then hb (below_then hbr1 bw0)).grown hgrow (by rw [World.size_alloc]; omega) (fun j hj => (HW'.row.lt j hj).1);exact h1.setCell (p := ⟨w1.heap.size + 1 + 1, 3, none⟩) (by show w1.heap.size <= w1.heap.size + 1 + 1; omega) _
    have HL6 := zd hL6;have HM6 := zd hM6;have HALL := zd hall;clear hall hL6 hM6 hM5 hgrow hown5 hrow5 hrowM;go_wp2_with fail;obtain ⟨hnum6, hcov6⟩ := mv_num hlB (za HM6);have hown6 := mv_own (za HM6);have hgb6 := gb_of hown6 (by have := hfit.2.2.1; omega);refine (wlay_any n t (w1.heap.size + 1 + 1) (w2.heap.size + 1) (w1.heap.size + 1) N 20 w1.heap.size (fun k => (Value.slice va (ms.length + 1) vcap).ownBlock = some k) a ksh kst ca kcsh kcst _ _ _ hty6 ((hcs6 4 (by omega)).trans HW'.c4) hMt6 hcov6 ((za HM6).2.2 413) hgb6 (hkk.below hb6) hG hfit (za HL6) (fun p => Nat.le_trans lsOf_len hml) hlm6 (by omega) (by omega) (by omega) (fun j hj => (hrow6.lt j hj).2)).mono ?_;rintro e w7 ⟨⟨v7, rfl⟩, ⟨cv, hcv, hcr⟩, hL7, hT7, hcl7, hfr7, hty7⟩;have hown7 : Zi w7 (w2.heap.size + 1) 0 412 (zC (.slice a n.pieces.length ca) (.slice ksh n.joints.length kcsh) (.slice kst n.pieces.length kcst) t.front t.long (zW n t) t.back) := ⟨hty7.lt, fun j hj => ⟨by rw [hcl7 _ (by omega)]; exact (hown6.2 j hj).1, by rw [hfr7]; exact (hown6.2 j hj).2⟩⟩;have hMv7 : MvAt w7 w1.heap.size n (.slice a n.pieces.length ca) (.slice ksh n.joints.length kcsh) (.slice kst n.pieces.length kcst) (w2.heap.size + 1) ms.length t := ⟨by omega, hty7, hown7, by rw [hcl7 412 (by omega), hnum6, za HMK], ⟨cv, hcv, hcr.mono (by omega)⟩, fun j => by rw [hfr7]; exact (za HM6).2.2 j⟩;have hWld7 := wld_lay HW' (za HALL) hty6 hcs6 hc36 hfr6 hrow6 hs6 (by omega) hMt6 HW'.lying.lt hT7 hL7 hMv7;have hK6 := za HALL w1.heap.size hKt.lt (by omega) (fun e => absurd (hKt.unique (HW'.row.ty e.symm)) (by decide));have hKt6 := hKt.same hK6
    have hK7 : w7.heap[w1.heap.size]? = wr.heap[w1.heap.size]? := (hT7.block _ hKt6.lt (by
     rintro (e | e | ⟨_, _, e⟩)
     ·omega
     ·omega
     ·exact absurd (hKt6.unique e) (by decide))).trans hK6
    have hs7 := hT7.size;have hb7 : Below w1.heap.size w1 w7 := hb6.trans (hT7.below hb6.size (fun j hj => by rintro (e | e | ⟨e, _, _⟩) <;> omega));have HWLD := zd hWld7;have HFIT := zd hfit;clear hWld7 hMv7 hcr hcv hL7 hT7 hown7 hcl7 hfr7 hgb6 hown6 hfit;go_wp2;refine ⟨⟨k + 1, N + 1000, .slice va (ms.length + 1) vcap, ms ++ [w2.heap.size + 1], by omega, by go_num, zd fun t' ht' => ?_, by omega, ?_, hKb.same hK7 (by omega), hKt.same hK7, hb7⟩, by simp [intOf]; omega⟩
    ·rw [htk] at ht'
     rcases List.mem_append.1 ht' with h | h
     ·exact za HFITS t' h
     ·obtain rfl : t' = t := by simpa using h
      exact za HFIT
    ·rw [htk];exact HWLD
  ·have hkl : k = ts.length := by omega
   have HTK : Hid (ts.take k = ts) := by unfold Hid; rw [hkl]; simp
   clear hkl q0 q1 q2;go_wp2;go_ret2;have hfits := za HFITS;have hw := za HW;rw [za HTK] at hfits hw;exact ⟨Or.inl ⟨⟨za HR, h20, hfits⟩, w1, _, _, _, _, _, _, _, _, _, _, _, rfl, hw, by omega, hkk, hb, hbw1⟩, hbw⟩

theorem worldOf_any (v : Value) (n : Nt) (tq : Option Addr) (ts : List Tr) (tk : Nat) (w : World) (hv : zE L w v n) (hts : XW L' w tq ts) (htl : ts.length <= 1048576) (hbl : ∀ t ∈ ts, t.back.length <= 1048576)
  (hl : n.pieces.length <= 1048576) (hl' : n.joints.length <= 1048576) (hle : ∀ i (h : i < n.joints.length), n.joints[i].name.size <= maxLen) (hnm : ∀ i (h : i < n.pieces.length), n.pieces[i].name.size <= maxLen) :
  Calls Tryz.prog 20 #[v, .slice tq ts.length tk] w fun e w' =>
   ((ye n ts /\ ∃ W ka ksh kst kca kcsh kcst Mp N mvv ms, e = .returned (.tuple #[.pointer (some ⟨W, 0, none⟩), .bool true]) /\ Vp w' w.heap.size W n ka ksh kst kca kcsh kcst Mp N mvv ms ts /\ N <= 100000 /\ ZD 0 w' (.agg #[.slice ka n.pieces.length kca, .slice ksh n.joints.length kcsh, .slice kst n.pieces.length kcst]) n)
    \/ (¬ ye n ts /\ e = .returned (.tuple #[.pointer none, .bool false]))) /\ Below w.heap.size w w' :=
 (uT v n tq ts tk w hv hts htl hbl hl hl' hle hnm).mono fun _ _ ⟨h, hb⟩ => ⟨h.imp (fun ⟨h1, _, W, ka, ksh, kst, kca, kcsh, kcst, Mp, N, mvv, ms, h2, h3, h4, h5, h6, h7⟩ => ⟨h1, W, ka, ksh, kst, kca, kcsh, kcst, Mp, N, mvv, ms, h2, h3.mono h7.size, h4, h5.below h6⟩) id, hb⟩

theorem zP.step {a b c : World} (h : zP S a b) (k : zP T b c) (hT : ∀ i, i < a.heap.size -> T i -> S i) : zP S a c := by
 refine ⟨k.os.trans h.os, k.tape.trans h.tape, k.output.trans h.output, Nat.le_trans h.size k.size, fun i hi hs => (k.block i (Nat.lt_of_lt_of_le hi h.size) (fun ht => hs (hT i hi ht))).trans (h.block i hi hs), fun i c t fr hc => ?_⟩;obtain ⟨c1, h1, e1⟩ := h.shape i c t fr hc;obtain ⟨c2, h2, e2⟩ := k.shape i c1 t fr h1;exact ⟨c2, h2, e2.trans e1⟩

theorem GB.onlyS (h : GB w B k0 k1 k2 s long sp xs) (ho : zP S w w') (hB : ¬ S B) : GB w' B k0 k1 k2 s long sp xs := by
 obtain ⟨f, fs, h1, h2⟩ := h;exact ⟨f, fs, h1.of_block (ho.block B h1.1 hB) ho.size, h2⟩

structure xP (w0 : World) (n : Nt) (zs : List Int) (long F : Int) (m0 : Mv) (B base : Nat) (k0 k1 k2 : Value) (m : Mv) (ov : Value) (sx : List Sx) (W : World) : Prop where
 goes : xu n zs long F m0 m
 gb : GB W B k0 k1 k2 m.s long (Zg n long m.s m.xs) m.xs
 x0 : zg W w0.heap.size [.pointer (some ⟨B, 0, none⟩)]
 x1 : zg W (w0.heap.size + 1) [.int .i64 F]
 x2 : zg W (w0.heap.size + 1 + 1) [.slice none 0 0, .int .i64 0]
 x3 : zg W (w0.heap.size + 1 + 1 + 1) [.nilIface]
 x4 : zg W (w0.heap.size + 1 + 1 + 1 + 1) [ov, .int .i64 m.far]
 row : Yz W base ov sx
 over : Zw n sx = m.over
 oks : ∀ x ∈ sx, Us n x
 only : XX B w0 W

theorem xP.keep 
  (h : xP w0 n zs long F m0 B base k0 k1 k2 m ov sx W) (ho : zP T W W') (hB : B < w0.heap.size) (hT : ∀ k, T k -> w0.heap.size + 5 <= k /\ k < base) : xP w0 n zs long F m0 B base k0 k1 k2 m ov sx W' := by
 have hn : ∀ k, k < w0.heap.size + 5 -> ¬ T k := fun k hk ht => by have := (hT k ht).1; omega
 exact ⟨h.goes, h.gb.onlyS ho (hn B (by omega)), h.x0.onlyS ho (hn _ (by omega)), h.x1.onlyS ho (hn _ (by omega)), h.x2.onlyS ho (hn _ (by omega)), h.x3.onlyS ho (hn _ (by omega)), h.x4.onlyS ho (hn _ (by omega)),
  h.row.only ho (fun k hk ht => by have h1 := (h.row.lt k hk).1; have h2 := (hT k ht).2; omega), h.over, h.oks, h.only.step ho (fun i hi ht => absurd ht (hn i (by omega)))⟩

theorem xP.below 
  (h : xP w0 n zs long F m0 B base k0 k1 k2 m ov sx W) (ho : Below W.heap.size W W') (hB : B < w0.heap.size) : xP w0 n zs long F m0 B base k0 k1 k2 m ov sx W' :=
 h.keep (T := fun _ => False) (zu ho) hB (fun _ h => h.elim)

def XJ (n : Nt) (zs : List Int) (long F : Int) (m0 : Mv) (m : Mv) (code joint : Int) : Prop :=
 (YW n zs m0.s m0.xs /\ xu n zs long F m0 m /\ MEnd n zs F m code joint) \/ (¬ YW n zs m0.s m0.xs /\ m = m0 /\ code = 4 /\ joint = -1)

def uh (code joint : Int) : Value := if code = 0 then .nilIface else .iface 97 (.agg #[.int .i64 code, .int .i64 joint])
structure uP (w0 : World) (n : Nt) (zs : List Int) (long F : Int) (m0 : Mv) (B base : Nat) (k0 k1 k2 : Value) (m : Mv) (ov : Value) (sx : List Sx) (code joint : Int) (W : World) : Prop where
 goes : xu n zs long F m0 m
 mend : MEnd n zs F m code joint
 gb : GB W B k0 k1 k2 m.s long (Zg n long m.s m.xs) m.xs
 x2 : zg W (w0.heap.size + 1 + 1) [ov, .int .i64 m.far]
 x3 : zg W (w0.heap.size + 1 + 1 + 1) [uh code joint]
 row : Yz W base ov sx
 over : Zw n sx = m.over
 oks : ∀ x ∈ sx, Us n x
 few : sx.length <= 10001
 only : XX B w0 W

theorem uP.keep 
  (h : uP w0 n zs long F m0 B base k0 k1 k2 m ov sx code joint W) (ho : zP T W W') (hB : B < w0.heap.size) (hT : ∀ k, T k -> w0.heap.size + 5 <= k /\ k < base) : uP w0 n zs long F m0 B base k0 k1 k2 m ov sx code joint W' := by
 have hn : ∀ k, k < w0.heap.size + 5 -> ¬ T k := fun k hk ht => by have := (hT k ht).1; omega
 exact ⟨h.goes, h.mend, h.gb.onlyS ho (hn B (by omega)), h.x2.onlyS ho (hn _ (by omega)), h.x3.onlyS ho (hn _ (by omega)),
  h.row.only ho (fun k hk ht => by have h1 := (h.row.lt k hk).1; have h2 := (hT k ht).2; omega), h.over, h.oks, h.few, h.only.step ho (fun i hi ht => absurd ht (hn i (by omega)))⟩

theorem xP.finish 
  (h : xP w0 n zs long F m0 B base k0 k1 k2 m ov sx W) (he : MEnd n zs F m code joint) (hB : B < w0.heap.size) (hbase : w0.heap.size + 5 <= base) (hf : sx.length <= 10001) {ev : Value} (hev : ev = uh code joint) :
  uP w0 n zs long F m0 B base k0 k1 k2 m ov sx code joint (((W.setCell ⟨w0.heap.size + 1 + 1, 0, none⟩ ov).setCell ⟨w0.heap.size + 1 + 1, 1, none⟩ (.int .i64 m.far)).setCell ⟨w0.heap.size + 1 + 1 + 1, 0, none⟩ ev) := by
 have ho : zP (fun k => k = w0.heap.size + 1 + 1 \/ k = w0.heap.size + 1 + 1 + 1) W (((W.setCell ⟨w0.heap.size + 1 + 1, 0, none⟩ ov).setCell ⟨w0.heap.size + 1 + 1, 1, none⟩ (.int .i64 m.far)).setCell ⟨w0.heap.size + 1 + 1 + 1, 0, none⟩ ev) :=
  ((ze W (p := ⟨w0.heap.size + 1 + 1, 0, none⟩) (Or.inl rfl) _).trans (ze _ (p := ⟨w0.heap.size + 1 + 1, 1, none⟩) (Or.inl rfl) _)).trans (ze _ (p := ⟨w0.heap.size + 1 + 1 + 1, 0, none⟩) (Or.inr rfl) _)
 have hx2 := ((h.x2.setAt (i := 0) (by simp) ov).setAt (i := 1) (by simp) (.int .i64 m.far)).onlyS (ze (S := fun k => k = w0.heap.size + 1 + 1 + 1) _ (p := ⟨w0.heap.size + 1 + 1 + 1, 0, none⟩) rfl ev) (show ¬ w0.heap.size + 1 + 1 = w0.heap.size + 1 + 1 + 1 by omega);have hx3 := (h.x3.onlyS (((ze (S := fun k => k = w0.heap.size + 1 + 1) W (p := ⟨w0.heap.size + 1 + 1, 0, none⟩) rfl ov)).trans (ze (S := fun k => k = w0.heap.size + 1 + 1) _ (p := ⟨w0.heap.size + 1 + 1, 1, none⟩) rfl (.int .i64 m.far))) (show ¬ w0.heap.size + 1 + 1 + 1 = w0.heap.size + 1 + 1 by omega)).setAt (i := 0) (by simp) ev;exact ⟨h.goes, he, h.gb.onlyS ho (by omega), by simpa using hx2, by rw [← hev]; simpa using hx3, h.row.only ho (fun k hk ht => by have h1 := (h.row.lt k hk).1; omega), h.over, h.oks, hf, h.only.step ho (fun i hi ht => by omega)⟩

theorem roll_next (hG : zr n) (hM : xQ n long F m) (hg : xu n zs long F m0 m) :
  ∃ m2 : Mv, xu n zs long F m0 m2 /\ m2.s = Zo n m.s (F - m.far) /\ m2.xs = zB n long (zm n (Zo n m.s (F - m.far))) m.xs /\ m2.far = m.far + (Zb n m.s (F - m.far) - zm n m.s)
   /\ m2.over = m.over ++ (if zm n m.s < Zb n m.s (F - m.far) then [Zs n ⟨m.s.piece, m.s.way⟩ (zm n m.s) (Zb n m.s (F - m.far))] else []) /\ (m2.far ≠ F -> Zl n m2.s = 0) /\ (0 < Zl n m.s -> m.far < F -> m.far + 1 <= m2.far) := by
 have hf := hM.farF;have hlen := hG.len hM.spot.1.1 hM.spot.1.2;have hb : zm n m.s = lenOf n m.s.piece - Zl n m.s := rfl
 have hr : 0 <= Zl n m.s := by have := hM.spot.2.2; unfold Zl; split <;> omega
 obtain ⟨g1, g2, g3, g4⟩ := vU hG hM.spot (show (0 : Int) <= F - m.far by omega)
 by_cases hlt : zm n m.s < Zb n m.s (F - m.far)
 ·have hroom : 0 < Zl n m.s := by omega
  have hfar : m.far < F := by omega
  refine ⟨rollM n long F m, .step hg (.roll hfar hroom), rfl, rfl, rfl, ?_, fun hne => ?_, fun _ _ => ?_⟩
  ·rw [if_pos hlt]; rfl
  ·exact roll_end hG hM.spot hf hne
  ·show m.far + 1 <= m.far + (Zb n m.s (F - m.far) - zm n m.s)
   omega
 ·have he : Zb n m.s (F - m.far) = zm n m.s := by omega
  have h0 : Zl n m.s = 0 \/ m.far = F := by
   by_cases h1 : Zl n m.s = 0
   ·exact Or.inl h1
   ·refine Or.inr ?_
    by_cases h2 : m.far = F
    ·exact h2
    ·exact absurd (g4 (by omega) (by omega)) hlt
  obtain ⟨e1, e2, e3⟩ := roll_none hG hM h0;refine ⟨m, hg, e2.symm, e3.symm, by omega, ?_, fun hne => ?_, fun h1 h2 => ?_⟩
  ·rw [if_neg hlt, List.append_nil]
  ·rcases h0 with h0 | h0
   ·exact h0
   ·exact absurd h0 hne
  ·rcases h0 with h0 | h0 <;> omega

theorem spare_le (hG : zr n) (hl : 0 < long) (hM : xQ n long F m) : 0 <= Zg n long m.s m.xs /\ Zg n long m.s m.xs <= 10000000 := by
 have he := hM.enough;have hb := ZY hG hM.spot;refine ⟨by unfold Zg; omega, ?_⟩
 rcases List.eq_nil_or_concat m.xs with hx | ⟨ys, y, hx⟩
 ·unfold Zg;rw [hx, zM];omega
 ·have ht := hM.trim ys.length (by rw [hx]; simp);have hy := hM.steps y (by rw [hx]; simp);have hlen := hG.len hy.1.1 hy.1.2;unfold Zg;rw [hx] at ht ⊢;simp only [List.concat_eq_append] at ht ⊢;rw [List.take_left'] at ht
  ·rw [yP, zH, zM];omega
  ·rfl

theorem zg.belowU (h : zg w N vs) (hb : Below U w w') (hN : N < U) : zg w' N vs :=
 ⟨Nat.lt_of_lt_of_le h.1 hb.size, fun i v hi => by rw [World.cell?_of_block (w := w) (a := ⟨N, i, none⟩) (hb.block N hN)]; exact h.2.1 i v hi, fun i => by rw [World.frozen?_of_block (w := w) (a := ⟨N, i, none⟩) (hb.block N hN)]; exact h.2.2 i⟩
theorem GB.belowU (h : GB w B k0 k1 k2 s long sp xs) (hb : Below U w w') (hB : B < U) : GB w' B k0 k1 k2 s long sp xs := by
 obtain ⟨f, fs, h1, h2⟩ := h;exact ⟨f, fs, h1.of_block (hb.block B hB) hb.size, h2⟩
theorem ZA.belowU {r : Loop} (h : ZA l D r w) (hb : Below U w w') (h1 : l < U) (h2 : D < U) : ZA l D r w' := ⟨(hb.block l h1).trans h.1, (hb.block D h2).trans h.2⟩

theorem UM {m2 : Mv} {v' : Value} {x : Sx} {fr : Int} {W1 w3 : World} (hB : B < w0.heap.size) (hbase : w0.heap.size + 5 <= base)
  (hg2 : xu n zs long F m0 m2) (hgb : GB W1 B k0 k1 k2 m2.s long (Zg n long m2.s m2.xs) m2.xs) (y0 : zg W1 w0.heap.size [.pointer (some ⟨B, 0, none⟩)]) (y1 : zg W1 (w0.heap.size + 1) [.int .i64 F]) (y2 : zg W1 (w0.heap.size + 1 + 1) [.slice none 0 0, .int .i64 0])
  (y3 : zg W1 (w0.heap.size + 1 + 1 + 1) [.nilIface]) (y4 : zg W1 (w0.heap.size + 1 + 1 + 1 + 1) [ov, .int .i64 fr]) (hrow3 : Yz w3 base v' (sx ++ [x])) (hb3 : Below base W1 w3) (hov : Zw n (sx ++ [x]) = m2.over) (hoks : ∀ y ∈ sx ++ [x], Us n y) (ho : XX B w0 W1) :
  xP w0 n zs long F m0 B base k0 k1 k2 m2 v' (sx ++ [x]) ((w3.setCell ⟨w0.heap.size + 1 + 1 + 1 + 1, 0, none⟩ v').setCell ⟨w0.heap.size + 1 + 1 + 1 + 1, 1, none⟩ (.int .i64 m2.far)) := by
 have ho4 : zP (fun k => k = w0.heap.size + 1 + 1 + 1 + 1) w3 ((w3.setCell ⟨w0.heap.size + 1 + 1 + 1 + 1, 0, none⟩ v').setCell ⟨w0.heap.size + 1 + 1 + 1 + 1, 1, none⟩ (.int .i64 m2.far)) :=
  (ze (S := fun k => k = w0.heap.size + 1 + 1 + 1 + 1) w3 (p := ⟨w0.heap.size + 1 + 1 + 1 + 1, 0, none⟩) rfl v').trans (ze (S := fun k => k = w0.heap.size + 1 + 1 + 1 + 1) _ (p := ⟨w0.heap.size + 1 + 1 + 1 + 1, 1, none⟩) rfl _)
 have hx4 := ((y4.belowU hb3 (by omega)).setAt (i := 0) (by simp) v').setAt (i := 1) (by simp) (.int .i64 m2.far)
 exact ⟨hg2, (hgb.belowU hb3 (by omega)).onlyS ho4 (by omega), (y0.belowU hb3 (by omega)).onlyS ho4 (by omega), (y1.belowU hb3 (by omega)).onlyS ho4 (by omega), (y2.belowU hb3 (by omega)).onlyS ho4 (by omega), (y3.belowU hb3 (by omega)).onlyS ho4 (by omega),
  by simpa using hx4, hrow3.only ho4 (fun k hk ht => by have h1 := (hrow3.lt k hk).1; omega), hov, hoks, (ho.on (hb3.mono (by omega))).step ho4 (fun i hi ht => by omega)⟩

theorem Vm {fn : Func} {p q : Tmp} {ty tz : TypeId} (h : fn.results = #[.cell p ty, .cell q tz]) (tmps : Array Value) (P : Program) (w : World) :
  (results fn tmps).run P w =
   ((asAddr (tmps.getD p undef)).run P w).andThen fun a w₁ => ((loadVar ty a).run P w₁).andThen fun v w₂ => ((asAddr (tmps.getD q undef)).run P w₂).andThen fun b w₃ => ((loadVar tz b).run P w₃).andThen fun u w₄ => .ok (.tuple #[v, u]) w₄ := by
 simp only [results, h]
 simp [Sem.run_bind, Result.andThen]

theorem VX (W : World) (X : Nat) (u v : Value) (h0 : W.cell? ⟨X, 0, none⟩ = some u) (h1 : W.cell? ⟨X, 1, none⟩ = some v) : (loadVar 80 ⟨X, 0, none⟩).run Tryz.prog W = .ok (.agg #[u, v]) W := by
 have hz : (sizeOf 80).run Tryz.prog W = .ok 2 W := by kernel_rfl
 simp [loadVar, isAgg, underlying, Tryz.underlying80, loadCells, loadCellsFrom, h0, h1, hz, Addr.add, Result.andThen]

theorem load_err (W : World) (X : Nat) (u : Value) (h0 : W.cell? ⟨X, 0, none⟩ = some u) : (loadVar 82 ⟨X, 0, none⟩).run Tryz.prog W = .ok u W := by
 simp [loadVar, isAgg, underlying, Tryz.underlying82, h0, Result.andThen]

theorem only_putObjD {ds : Option (List Deferred)} (h : w.heap[l]? = some (.deferred ds)) (hS : S l) (o : Obj) : zP S w (w.putObj l o) := by
 refine ⟨rfl, rfl, rfl, by simp, fun k _ hs => World.putObj_heap_other (fun e => hs (e ▸ hS)), fun k c t fr hc => ?_⟩
 have hne : k ≠ l := fun e => by
  rw [e, h] at hc
  cases hc
 exact ⟨c, (World.putObj_heap_other hne).trans hc, rfl⟩

theorem loop_new (W : World) (r : Loop) : ZA (W.heap.size + 1) W.heap.size r ((W.alloc (.deferred (some []))).alloc (.loop r)) := by
 constructor
 ·show ((W.heap.push (.deferred (some []))).push (.loop r))[W.heap.size + 1]? = some (.loop r)
  have h : (W.heap.push (.deferred (some []))).size = W.heap.size + 1 := by simp
  rw [← h, Array.getElem?_push_size]
 ·show ((W.heap.push (.deferred (some []))).push (.loop r))[W.heap.size]? = some (.deferred (some []))
  rw [Array.getElem?_push, if_neg (by simp), Array.getElem?_push_size]

def RunRet (w : World) (n : Nt) (zs : List Int) (long F : Int) (m0 : Mv) (B : Nat) (k0 k1 k2 : Value) (e : Ending) (w' : World) : Prop :=
 ∃ m ov sx code joint, e = .returned (.tuple #[.agg #[ov, .int .i64 m.far], uh code joint]) /\ XJ n zs long F m0 m code joint /\ GB w' B k0 k1 k2 m.s long (Zg n long m.s m.xs) m.xs /\ Yz w' w.heap.size ov sx /\ Zw n sx = m.over /\ (∀ x ∈ sx, Us n x) /\ sx.length <= 10001 /\ XX B w w'

theorem run_out {tmps : Array Value} (hs : YW n zs m0.s m0.xs) (hE : uP w n zs long F m0 B base k0 k1 k2 m ov sx code joint W) (hB : B < w.heap.size) (hD1 : w.heap.size + 5 <= D) (hD2 : D < base)
  (hD : W.heap[D]? = some (.deferred (some []))) (h6 : tmps.getD 6 undef = .pointer (some ⟨w.heap.size + 1 + 1, 0, none⟩)) (h7 : tmps.getD 7 undef = .pointer (some ⟨w.heap.size + 1 + 1 + 1, 0, none⟩)) :
  bodyPostM Fence.wide 9 Tryz.prog Tryz.f59 (RunRet w n zs long F m0 B k0 k1 k2) .ret ⟨tmps, [{ target := .collected D, args := #[] }]⟩ W := by
 have hEo := hE.keep (only_putObjD (S := fun k => k = D) hD rfl (.deferred none)) hB (fun k hk => by rw [hk]; omega);refine ⟨by simp, .inl ⟨D, _, rfl, run_takeDeferred hD, ?_⟩⟩;refine ⟨.tuple #[.agg #[ov, .int .i64 m.far], uh code joint], ?_, m, ov, sx, code, joint, rfl, Or.inl ⟨hs, hEo.goes, hEo.mend⟩, hEo.gb, hEo.row.mono (by omega), hEo.over, hEo.oks, hEo.few, hEo.only⟩;rw [Vm rfl, h6, h7]
 simp [asAddr, Result.andThen, VX _ _ _ _ (hEo.x2.2.1 0 _ rfl) (hEo.x2.2.1 1 _ rfl), load_err _ _ _ (hEo.x3.2.1 0 _ rfl)]

def ntF (z : Int) : List Value := [.int .i64 z]
theorem ntF_len (z : Int) : (ntF z).length = 1 := rfl
abbrev Xh (w : World) (base : Nat) (v : Value) (zs : List Int) : Prop := zV w base 3 1 ntF v zs
theorem yN {v : Value} (h : Xh w base v zs) : ∃ a cap, v = .slice a zs.length cap /\ zs.length <= cap /\ zF base w a zs := by
 obtain ⟨a, cap, hv, hc, hx⟩ := h.shape ntF_len;refine ⟨a, cap, hv, hc, fun i hi => ?_⟩;obtain ⟨g, ha, hg, hj⟩ := hx i hi;have e0 := hj 0 (by omega);simp only [ntF] at e0;exact ⟨g, 0, ha, hg, by simpa using e0⟩
theorem Uw {z : Int} (h : zg W N [.int .i64 z]) : ∀ j u, (ntF z)[j]? = some u -> W.cell? ((⟨N, 0, none⟩ : Addr).add j) = some u := by
 intro j u hj
 match j, hj with
 | 0, hj => simp [ntF] at hj; subst hj; simpa [Addr.add] using h.2.1 0 _ rfl
theorem UR (z : Int) : ∀ u ∈ ntF z, u.oneCell' = true := by
 intro u hu
 simp [ntF] at hu
 subst hu;rfl

def TakenGood (n : Nt) (ts : List Tr) (ps : List Pt) : Prop := ye n ts /\ PtsFit n ps
def takenL (n : Nt) (ts : List Tr) (ps : List Pt) : List Int := ((List.range ts.length).filter fun i => yx ps (zi n (ts.getD i noTr'))).map fun (i : Nat) => (i : Int)
def um (n : Nt) (ts : List Tr) (ps : List Pt) (zs : List Int) : Prop := (TakenGood n ts ps /\ zs = takenL n ts ps) \/ (¬ TakenGood n ts ps /\ zs = [])
theorem um.unique {a b : List Int} (h : um n ts ps a) (g : um n ts ps b) : a = b := by
 rcases h with ⟨h1, rfl⟩ | ⟨h1, rfl⟩ <;> rcases g with ⟨g1, rfl⟩ | ⟨g1, rfl⟩
 ·rfl
 ·exact absurd h1 g1
 ·exact absurd g1 h1
 ·rfl
theorem um.len (h : um n ts ps zs) : zs.length <= 20 := by
 rcases h with ⟨h1, rfl⟩ | ⟨h1, rfl⟩
 ·unfold takenL;rw [List.length_map];have := h1.1.2.1;exact Nat.le_trans (List.length_filter_le _ _) (by simp; omega)
 ·simp
theorem MvAt.touch {i : Nat} {t : Tr} (h : MvAt w base n k0 k1 k2 M i t) (hl : (zi n t).length <= 1048576) : zx w M 95 /\ w.cell? ⟨M, 412, none⟩ = some (.int .i64 i) /\ ∃ a c, w.cell? ⟨M, 413, none⟩ = some (.slice a (zi n t).length c) /\ Yb 0 w a (zi n t) /\ (zi n t).length <= 1048576 := by
 obtain ⟨v, h5, h6⟩ := h.cov;obtain ⟨a, cap, rfl, _, hx⟩ := ZB (h6.mono (Nat.zero_le _));exact ⟨h.ty, h.num, a, cap, h5, hx, hl⟩
end Go.Proofs.YthdioeofdofleaaGreatDoor
