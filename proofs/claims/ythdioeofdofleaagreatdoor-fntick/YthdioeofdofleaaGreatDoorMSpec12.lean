import Derived.Test.YthdioeofdofleaaGreatDoorMSpec9
import Derived.Test.YthdioeofdofleaaGreatDoorMKt12
set_option maxRecDepth 100000
namespace Go.Proofs.YthdioeofdofleaaGreatDoor
open Go.RowKit
variable {L L' L'' : Nat}
def vO (n : Nt) (zs : List Int) (i k : Nat) (r : Ed × Int) : Prop := ∃ (h : i < n.joints.length) (h' : i < zs.length), Ze n.joints[i] k zs[i] = r

theorem Vz (v : Value) (n : Nt) (zq : Option Addr) (zs : List Int) (zc : Nat) (e0 : Ed) (i k : Nat) (r : Ed × Int) (w : World) (hv : zE L w v n) (hz : zF L' w zq zs) (hG : zr n) (hL : YG n.joints zs) (hf : zK n.pieces.length e0) (hst : zX n.joints e0 i k) (hr : vO n zs i k r) :
  Calls Tryz.prog 68 #[v, .slice zq zs.length zc, .agg #[.int .i64 e0.piece, .int .i64 e0.side]] w fun e w' =>
   e = .returned (.tuple #[.agg #[.int .i64 (YT e0 r).piece, .int .i64 (YT e0 r).side], .int .i64 r.2, .int .i64 i]) /\ Below w.heap.size w w' := by
 obtain ⟨hi, hi', rfl⟩ := hr;have hK := hG.kind hi;have hF := hL.2 i hi hi';obtain ⟨_, hkl, _⟩ := id hst;obtain ⟨j, hj⟩ : ∃ j, n.joints[i] = j := ⟨_, rfl⟩;obtain ⟨z, hz'⟩ : ∃ z, zs[i] = z := ⟨_, rfl⟩;rw [hj, hz'] at hF;simp only [hj] at hK hkl;rw [hj, hz']
 by_cases h3 : j.kind = 3
 ·obtain ⟨kd, nm, ends⟩ := j;dsimp only at h3 hkl;subst h3
  have hlen : ends.length = 3 := by have := hK.2; dsimp only at this; omega
  match ends, hlen, hkl with
  | [x0, x1, x2], _, hkl =>
   have hz012 : z = 0 \/ z = 1 \/ z = 2 := by unfold LieFit at hF; omega
   have hk012 : k = 0 \/ k = 1 \/ k = 2 := by simp at hkl; omega
   rcases hz012 with rfl | rfl | rfl
   ·have e1 : Ze ⟨3, nm, [x0, x1, x2]⟩ k 0 = (⟨0, 0⟩, 2) := by simp [Ze]
    rw [e1];exact l2over_sw0 v n zq zs zc e0 i k nm x0 x1 x2 0 w hv hz hG hf hst ⟨hi, hj⟩ ⟨hi', hz'⟩ rfl
   ·rcases hk012 with rfl | rfl | rfl
    ·have e1 : Ze ⟨3, nm, [x0, x1, x2]⟩ 0 1 = (x1, 0) := by simp [Ze, Zv]
     rw [e1];exact l2over_tip1 v n zq zs zc e0 i nm x0 x1 x2 1 w hv hz hG hf hst ⟨hi, hj⟩ ⟨hi', hz'⟩ rfl
    ·have e1 : Ze ⟨3, nm, [x0, x1, x2]⟩ 1 1 = (x0, 0) := by simp [Ze, Zv]
     rw [e1];exact Uf v n zq zs zc e0 i 1 nm x0 x1 x2 1 w hv hz hG hf hst ⟨hi, hj⟩ ⟨hi', hz'⟩ rfl rfl rfl
    ·have e1 : Ze ⟨3, nm, [x0, x1, x2]⟩ 2 1 = (⟨0, 0⟩, 3) := by simp [Ze]
     rw [e1];exact VY v n zq zs zc e0 i 2 nm x0 x1 x2 1 w hv hz hG hf hst ⟨hi, hj⟩ ⟨hi', hz'⟩ rfl rfl rfl
   ·rcases hk012 with rfl | rfl | rfl
    ·have e1 : Ze ⟨3, nm, [x0, x1, x2]⟩ 0 2 = (x2, 0) := by simp [Ze, Zv]
     rw [e1];exact l2over_tip2 v n zq zs zc e0 i nm x0 x1 x2 2 w hv hz hG hf hst ⟨hi, hj⟩ ⟨hi', hz'⟩ rfl
    ·have e1 : Ze ⟨3, nm, [x0, x1, x2]⟩ 1 2 = (⟨0, 0⟩, 3) := by simp [Ze]
     rw [e1];exact VY v n zq zs zc e0 i 1 nm x0 x1 x2 2 w hv hz hG hf hst ⟨hi, hj⟩ ⟨hi', hz'⟩ rfl rfl rfl
    ·have e1 : Ze ⟨3, nm, [x0, x1, x2]⟩ 2 2 = (x0, 0) := by simp [Ze, Zv]
     rw [e1];exact Uf v n zq zs zc e0 i 2 nm x0 x1 x2 2 w hv hz hG hf hst ⟨hi, hj⟩ ⟨hi', hz'⟩ rfl rfl rfl
 ·exact l2over_plain v n zq zs zc e0 i k j z w hv hz hG hf hst ⟨hi, hj⟩ ⟨hi', hz'⟩ h3

def yO (n : Nt) (zs : List Int) : St -> List St -> Prop
 | _, [] => True
 | ah, s :: r => Yp n zs s ah /\ yO n zs s r

theorem VO {n : Nt} {zs : List Int} (s : Sp) (xs : List St) : yO n zs ⟨s.piece, s.way⟩ xs ↔ YW n zs s xs := by
 have key : ∀ (ys : List St) (m : Nat), m <= xs.length -> ys = xs.drop m -> (yO n zs (Zr s xs m) ys ↔ ∀ j, m <= j -> j < xs.length -> Yp n zs (Zr s xs (j + 1)) (Zr s xs j)) := by
  intro ys
  induction ys with
  | nil =>
   intro m hm hy
   have : xs.length <= m := by
    have := congrArg List.length hy
    simp at this
    omega
   exact ⟨fun _ j h1 h2 => by omega, fun _ => trivial⟩
  | cons y r ih =>
   intro m hm hy
   have hlt : m < xs.length := by
    have := congrArg List.length hy
    simp at this
    omega
   rw [List.drop_eq_getElem_cons hlt] at hy;simp only [List.cons.injEq] at hy
   have hso : Zr s xs (m + 1) = y := by
    unfold Zr;rw [if_neg (by omega)]
    simp [List.getElem?_eq_getElem hlt, hy.1]
   have := ih (m + 1) (by omega) hy.2;simp only [yO];rw [hso] at this;rw [this]
   constructor
   ·rintro ⟨h1, h2⟩ j hj hjl
    by_cases e : j = m
    ·subst e;rw [hso];exact h1
    ·exact h2 j (by omega) hjl
   ·intro h;refine ⟨?_, fun j hj hjl => h j (by omega) hjl⟩;have := h m (Nat.le_refl _) hlt
    rwa [hso] at this
 have := key xs 0 (Nat.zero_le _) (by simp);unfold YW
 have h0 : Zr s xs 0 = ⟨s.piece, s.way⟩ := by simp [Zr]
 rw [h0] at this;rw [this];exact ⟨fun h j hj => h j (Nat.zero_le _) hj, fun h j _ hj => h j hj⟩

set_option maxHeartbeats 4000000 in
theorem qg (v tv : Value) (n : Nt) (zq : Option Addr) (zs : List Int) (zc : Nat) (t : Tr) (w : World) (hv : zE L w v n) (hz : zF L' w zq zs) (htv : Vh L'' w tv t) (hG : zr n) (hL : YG n.joints zs) (hF : zD n t) :
  Calls Tryz.prog 53 #[v, .slice zq zs.length zc, tv] w fun e w' => yG (YW n zs t.front t.back) e /\ Below w.heap.size w w' := by
 have hvv := hv;obtain ⟨x, c, ca, cc, rfl, hp, hj⟩ := hv;obtain ⟨ba, bc, rfl, hst⟩ := htv;obtain ⟨⟨fp, fa, fy⟩, long, back⟩ := t;obtain ⟨hS, hlong, h200, hback⟩ := hF;dsimp only at hst hlong h200 hback hS ⊢;have hsteps := yM hback;have hok0 : zy n ⟨fp, fy⟩ := ⟨hS.1, hS.2.1⟩;have hiff0 := VO (n := n) (zs := zs) ⟨fp, fa, fy⟩ back;have HSIT := zd hiff0;have HST := zd hsteps;have HL := zd hL;have HOK0 := zd hok0;clear hsteps hback hS hiff0 hL hok0;go_enter Tryz.func53, Tryz.ntmps53;go_wp2_with fail
 go_loopw [23] (fun z wr => ∃ (k : Nat) (ah : St), k <= back.length /\ z = .int .i64 k /\ zy n ah /\ Hid (yO n zs ⟨fp, fy⟩ back ↔ yO n zs ah (back.drop k))
   /\ zg wr w.heap.size [.slice x n.pieces.length ca, .slice c n.joints.length cc] /\ zg wr (w.heap.size + 1 + 1) [.int .i64 ah.piece, .int .i64 ah.way] /\ Below w.heap.size w wr) (fun z _ => back.length - (intOf z).toNat)
 case atStart => exact ⟨0, ⟨fp, fy⟩, Nat.zero_le _, rfl, za HOK0, zd (by simp), ((zf _ _ _).alloc _).alloc _, zp _ _ _ (by simp), bw0⟩
 case round =>
  obtain ⟨k, ah, hk, rfl, hah, HI, hBn, hBa, hb⟩ := hrel;have hsz := hb.size;have HAH := zd hah;clear hah;obtain ⟨ap, ay⟩ := ah;have na := hBa.1;have nn := hBn.1
  by_cases hlt : k < back.length
  ·obtain ⟨sb, soff, rfl, hsb, s0, s1⟩ := hst.below hb k hlt;have hok := za HST back[k] (List.getElem_mem hlt);have hdrop : back.drop k = back[k] :: back.drop (k + 1) := List.drop_eq_getElem_cons hlt
   generalize hx : back[k] = sk at *
   obtain ⟨sp, sy⟩ := sk;dsimp only at s0 s1;obtain ⟨i, kk, hstd⟩ := yk (hG.hd hok.1.1 hok.1.2 sy);obtain ⟨r, hr⟩ : ∃ r, vO n zs i kk r := ⟨_, hstd.1, by rw [(za HL).1]; exact hstd.1, rfl⟩
   have hlead : Yp n zs ⟨sp, sy⟩ ⟨ap, ay⟩ ↔ r.2 = 0 /\ r.1 = hd ap (-ay) := by
    obtain ⟨h1, h2, h3⟩ := hr;rw [Ue hG hok hstd h2]
    constructor
    ·rintro ⟨i', k', h, g1, g2⟩;obtain ⟨rfl, rfl⟩ := zQ (hG.hd hok.1.1 hok.1.2 sy) hstd g1;rw [h3] at g2;rw [g2];exact ⟨rfl, rfl⟩
    ·rintro ⟨e1, e2⟩;exact ⟨i, kk, h1, hstd, by rw [h3]; cases r; simp_all⟩
   have HLEAD := zd hlead;have HD := zd hdrop;have HOK := zd hok;have HR := zd hr;have HSTD := zd hstd;clear hlead hdrop hok hr hstd hx;obtain ⟨⟨rp, rs⟩, rc⟩ := r;obtain ⟨oe, hoe⟩ : ∃ oe, YT (hd sp sy) (⟨rp, rs⟩, rc) = oe := ⟨_, rfl⟩;have HOE := zd hoe;clear hoe;obtain ⟨op, os⟩ := oe;have hsb2 := hsb.2;have a0 := hBn.2.1 0 _ rfl;have a1 := hBn.2.1 1 _ rfl
   have ne0 : ¬ wr.heap.size = w.heap.size := by omega
   have ne1 : ¬ w.heap.size = wr.heap.size := by omega
   have ne2 : ¬ wr.heap.size + 1 = w.heap.size := by omega
   have ne3 : ¬ w.heap.size = wr.heap.size + 1 := by omega
   go_upto_region 5 with fail
   go_cut [10, 11] (fun p z wx => ∃ B, p = .pointer (some ⟨B, 0, none⟩) /\ z = .int .i64 rc /\ zg wx B [.int .i64 op, .int .i64 os] /\ zg wx wr.heap.size [.int .i64 sp, .int .i64 sy] /\ Below wr.heap.size wr wx)
   case first =>
    go_region_held3 (fun w' => w'.cell? ⟨w.heap.size, 0, none⟩ = some (.slice x n.pieces.length ca) /\ w'.cell? ⟨w.heap.size, 1, none⟩ = some (.slice c n.joints.length cc)
      /\ w'.cell? ⟨wr.heap.size, 0, none⟩ = some (.int .i64 sp) /\ w'.cell? ⟨wr.heap.size, 1, none⟩ = some (.int .i64 sy))
     (((try dsimp only); (repeat' apply And.intro)) <;> (go_keep; done))
     (first
      | (go_at_call 69; refine (yW _ _ _).mono ?_; rintro e w1 ⟨rfl, hb1⟩; obtain ⟨hc1, hf1⟩ := yT hb1; have sz1 := hb1.size; (try simp at sz1); have lt1 := Nat.lt_of_succ_le sz1; have new10 : ¬ w1.heap.size = wr.heap.size := (by omega); have mew10 : ¬ wr.heap.size = w1.heap.size := (by omega); have new11 : ¬ w1.heap.size = w.heap.size := (by omega); have mew11 : ¬ w.heap.size = w1.heap.size := (by omega); have q0 := hc1 (w.heap.size) (0) (by first | (simp; done) | (simp; omega) | omega); have q1 := hc1 (w.heap.size) (1) (by first | (simp; done) | (simp; omega) | omega); have q2 := hc1 (wr.heap.size) (0) (by first | (simp; done) | (simp; omega) | omega); have q3 := hc1 (wr.heap.size) (1) (by first | (simp; done) | (simp; omega) | omega))
      | (go_at_call 68; refine (Vz _ n _ zs _ (hd sp sy) i kk (⟨rp, rs⟩, rc) _ (hvv.below (below_then hb ?_)) (hz.below (below_then hb ?_)) hG (za HL) ((za HOK).fits sy) (za HSTD) (za HR)).mono ?_; (first | exact below_then bw0 hb1 | exact below_then (below_then bw0 hb1) bw0); (first | exact below_then bw0 hb1 | exact below_then (below_then bw0 hb1) bw0); rw [za HOE]; rintro e w2 ⟨rfl, hb2⟩; obtain ⟨hc2, hf2⟩ := yT hb2; have sz2 := hb2.size; (try simp at sz2); (try have lt2 := Nat.lt_of_succ_le sz2); have new20 : ¬ w2.heap.size = wr.heap.size := (by omega); have mew20 : ¬ wr.heap.size = w2.heap.size := (by omega); have new21 : ¬ w2.heap.size = w.heap.size := (by omega); have mew21 : ¬ w.heap.size = w2.heap.size := (by omega); have r0 := hc2 (w.heap.size) (0) (by first | (have := hb1.size; omega) | (have := hb1.size; simp at this ⊢; omega) | (simp; omega)); have r1 := hc2 (w.heap.size) (1) (by first | (have := hb1.size; omega) | (have := hb1.size; simp at this ⊢; omega) | (simp; omega)); have r2 := hc2 (wr.heap.size) (0) (by first | (have := hb1.size; omega) | (have := hb1.size; simp at this ⊢; omega) | (simp; omega)); have r3 := hc2 (wr.heap.size) (1) (by first | (have := hb1.size; omega) | (have := hb1.size; simp at this ⊢; omega) | (simp; omega))))
    all_goals go_wp2_with fail
    all_goals go_meet
    ·refine ⟨_, rfl, rfl, zf _ _ _, ((((zf _ _ _).drew).below hb1).below hb2).alloc _, below_then (below_then (below_then bw0 hb1) hb2) bw0⟩
    ·have hZ : zg w2 w1.heap.size [.int .i64 0, .int .i64 0] := (zf _ _ _).below hb2;refine ⟨_, rfl, rfl, hZ.put2 _ _, (((((((zf _ _ _).drew).below hb1).alloc _).below hb2).apart (by simp <;> omega) _).apart (by simp <;> omega) _), ?_⟩;have hbw2 := below_then (below_then (below_then (bw0 : Below wr.heap.size wr _) hb1) bw0) hb2;exact (ZW hbw2)
    ·have hZ : zg w2 (wr.heap.size + 1) [.int .i64 0, .int .i64 0] := (((zp _ _ _ (by simp)).drew).below hb1).below hb2;refine ⟨_, rfl, rfl, hZ.put2 _ _, (((((((zf _ _ _).alloc _).drew).below hb1).below hb2).apart (by simp <;> omega) _).apart (by simp <;> omega) _), ?_⟩;have hbw2 := below_then (below_then (bw0 : Below wr.heap.size wr _) hb1) hb2;exact (ZW hbw2)
   case rest =>
    obtain ⟨B, rfl, rfl, hBe, hBs, hbc⟩ := hcut;have hBa' := hBa.below hbc;have hBn' := hBn.below hbc;have hbwc := below_then hb hbc;have b0 := hBe.2.1 0 _ rfl;have b1 := hBe.2.1 1 _ rfl;have v0 := hBa'.2.1 0 _ rfl;have v1 := hBa'.2.1 1 _ rfl;have vz := hBa'.2.2;have g0 := hBs.2.1 0 _ rfl;have g1 := hBs.2.1 1 _ rfl;have nb := hBe.1;have na' := hBa'.1;have nn' := hBn'.1;have ns' := hBs.1;clear a0 a1;have hay : ay = 1 \/ ay = -1 := (za HAH).2;have hneg : IntKind.i64.wrap (-ay) = -ay := zj (by omega) (by omega);clear hay
    by_cases hq : rc = 0
    ·subst hq
     have HOE2 : Hid (op = rp /\ os = rs) := by
      have := za HOE
      simp [YT] at this
      exact ⟨this.1.symm, this.2.symm⟩
     by_cases hE : op = (hd ap (-ay)).piece /\ os = (hd ap (-ay)).side
     ·have HL' : Hid (Yp n zs ⟨sp, sy⟩ ⟨ap, ay⟩) := (za HLEAD).2 ⟨rfl, by
       obtain ⟨e1, e2⟩ := za HOE2;subst e1 e2
       exact Ed.same hE⟩
      obtain ⟨e1, e2⟩ := hE;subst e1 e2
      have hdp : ∀ p y : Int, (hd p y).piece = p := fun _ _ => rfl
      clear HLEAD HOE HOE2 HR;go_wp2_with fail;refine zt (by kernel_rfl) (by kernel_rfl) (fun hgn hgc => ?_)
      repeat (go_big_quiet_step ((go_at_call 69; rename_i g; exact g.call (yW _ _ _))))
      refine wpQuiet_nil ?_;intro wq hwq
      have hbq : Below wc.heap.size wc wq := by obtain ⟨g, rfl⟩ := hwq; exact g.below
      clear hwq hgc hgn b0 b1 v0 v1 vz g0 g1;have hBs2 := hBs.below hbq;have hBa2 := hBa'.below hbq;have hBn2 := hBn'.below hbq;have hbw := below_then hbwc hbq;have m0 := hBs2.2.1 0 _ rfl;have m1 := hBs2.2.1 1 _ rfl;have v0 := hBa2.2.1 0 _ rfl;have v1 := hBa2.2.1 1 _ rfl;have vz := hBa2.2.2;have l2 := hBa2.1;have l3 := hBs2.1
      have ne9 : ¬ wr.heap.size = w.heap.size + 1 + 1 := by omega
      go_wp2;refine ⟨⟨k + 1, ⟨sp, sy⟩, by omega, by go_num, za HOK, ?_, (hBn2.other (by simp; omega) _).other (by simp; omega) _, hBa2.set2 _ _, (ZW hbw)⟩, by simp [intOf]; omega⟩;refine zd ((za HI).trans ?_);rw [za HD];simp only [yO];exact ⟨fun h => h.2, fun h => ⟨za HL', h⟩⟩
     ·have HL' : Hid (¬ YW n zs ⟨fp, fa, fy⟩ back) := fun h => by
       have h1 := (za HI).1 ((za HSIT).2 h);rw [za HD] at h1;simp only [yO] at h1;have h2 := (za HLEAD).1 h1.1;obtain ⟨e1, e2⟩ := za HOE2;subst e1 e2;have h3 := h2.2;dsimp only at h3;rw [← h3] at hE;exact hE ⟨rfl, rfl⟩
      clear HLEAD HOE HOE2 HR
      by_cases h1 : op = (hd ap (-ay)).piece
      ·have h2 : ¬ os = (hd ap (-ay)).side := fun h2 => hE ⟨h1, h2⟩
       clear hE;subst h1;have h2b := ZO h2
       have hdp : ∀ p y : Int, (hd p y).piece = p := fun _ _ => rfl
       clear h2;go_wp2_with fail;refine zt (by kernel_rfl) (by kernel_rfl) (fun hgn hgc => ?_)
       repeat (go_big_quiet_step ((go_at_call 69; rename_i g; exact g.call (yW _ _ _))))
       refine wpQuiet_nil ?_;intro wq hwq
       have hbq : Below wc.heap.size wc wq := by obtain ⟨g, rfl⟩ := hwq; exact g.below
       clear hwq hgc hgn;go_wp2;go_ret;exact ⟨zk (za HL'), below_then hbwc hbq⟩
      ·clear hE;have h1b := ZO h1;clear h1;go_wp2_with fail;refine zt (by kernel_rfl) (by kernel_rfl) (fun hgn hgc => ?_)
       repeat (go_big_quiet_step ((go_at_call 69; rename_i g; exact g.call (yW _ _ _))))
       refine wpQuiet_nil ?_;intro wq hwq
       have hbq : Below wc.heap.size wc wq := by obtain ⟨g, rfl⟩ := hwq; exact g.below
       clear hwq hgc hgn;go_wp2;go_ret;exact ⟨zk (za HL'), below_then hbwc hbq⟩
    ·have HL' : Hid (¬ YW n zs ⟨fp, fa, fy⟩ back) := fun h => by
      have h1 := (za HI).1 ((za HSIT).2 h);rw [za HD] at h1;simp only [yO] at h1;exact hq ((za HLEAD).1 h1.1).1
     have hqb := ZO hq
     have hqn : (rc != 0) = true := by simp [bne, hqb]
     clear hq HLEAD HOE HR;go_wp2_with fail;refine zt (by kernel_rfl) (by kernel_rfl) (fun hgn hgc => ?_)
     repeat (go_big_quiet_step (fail))
     refine wpQuiet_nil ?_;intro wq hwq
     have hbq : Below wc.heap.size wc wq := by obtain ⟨g, rfl⟩ := hwq; exact g.below
     clear hwq hgc hgn;go_wp2;go_ret;exact ⟨zk (za HL'), below_then hbwc hbq⟩
  ·have hkl : k = back.length := by omega
   have hdrop : Hid (back.drop k = []) := by unfold Hid; rw [hkl]; simp
   go_wp2;go_ret;refine ⟨zA ?_, hb⟩;rw [← za HSIT, za HI, za hdrop]
   trivial

set_option maxHeartbeats 4000000 in
theorem specSits_any (v tv : Value) (n : Nt) (zq : Option Addr) (zs : List Int) (zc : Nat) (t : Tr) (w : World) (hv : zE L w v n) (hz : zF L' w zq zs) (htv : Vh L'' w tv t) (hl : n.pieces.length <= 1048576) (hl' : n.joints.length <= 1048576)
  (hle : ∀ i (h : i < n.joints.length), n.joints[i].ends.length <= 1048576 /\ n.joints[i].name.size <= maxLen) (hnm : ∀ i (h : i < n.pieces.length), n.pieces[i].name.size <= maxLen) (hbl : t.back.length <= 1048576) :
  Calls Tryz.prog 17 #[v, .slice zq zs.length zc, tv] w fun e w' => yG (Ve n zs t) e /\ Below w.heap.size w w' := by
 have hvv := hv;have htt := htv;obtain ⟨x, c, ca, cc, rfl, hp, hj⟩ := hv;obtain ⟨ba, bc, rfl, hst⟩ := htv;go_enter Tryz.func17, Tryz.ntmps17;go_wp2_with fail;refine (xE _ n _ zs _ _ (hvv.below ?_) (hz.below ?_) hl hl' hle hnm).mono ?_
 ·exact bw0
 ·exact bw0
 rintro e w1 ⟨⟨rfl, hr1⟩ | ⟨rfl, hr1⟩, hb1⟩
 ·have hbw1 : Below w.heap.size w w1 := below_then bw0 hb1;have hBn1 : zg w1 w.heap.size [.slice x n.pieces.length ca, .slice c n.joints.length cc] := ((zf _ _ _).alloc _).below hb1;have hBt1 : zg w1 (w.heap.size + 1) [.int .i64 t.front.piece, .int .i64 t.front.at_, .int .i64 t.front.way, .int .i64 t.long, .slice ba t.back.length bc] := (zp _ _ _ (by simp)).below hb1;have a0 := hBn1.2.1 0 _ rfl;have a1 := hBn1.2.1 1 _ rfl;have b0 := hBt1.2.1 0 _ rfl;have b1 := hBt1.2.1 1 _ rfl;have b2 := hBt1.2.1 2 _ rfl;have b3 := hBt1.2.1 3 _ rfl;have b4 := hBt1.2.1 4 _ rfl;have HR := zd hr1;clear hr1;go_wp2_with fail;refine (vJ _ _ n t _ (hvv.below hbw1) (htt.below hbw1) (Zu (za HR).1) hbl).mono ?_;rintro e w2 ⟨⟨rfl, hr2⟩ | ⟨rfl, hr2⟩, hb2⟩
  ·have HR2 := zd hr2;have hbw2 := below_then hbw1 hb2;have hBn2 := hBn1.below hb2;have hBt2 := hBt1.below hb2;clear hr2 a0 a1 b0 b1 b2 b3 b4;have a0 := hBn2.2.1 0 _ rfl;have a1 := hBn2.2.1 1 _ rfl;have b0 := hBt2.2.1 0 _ rfl;have b1 := hBt2.2.1 1 _ rfl;have b2 := hBt2.2.1 2 _ rfl;have b3 := hBt2.2.1 3 _ rfl;have b4 := hBt2.2.1 4 _ rfl;go_wp2_with fail;refine (qg _ _ n _ zs _ t _ (hvv.below hbw2) (hz.below hbw2) (htt.below hbw2) (Zu (za HR).1) (za HR).2 (za HR2)).mono ?_;rintro e w3 ⟨⟨rfl, hr3⟩ | ⟨rfl, hr3⟩, hb3⟩
   ·go_wp2;go_ret;exact ⟨zA ⟨⟨(za HR).1, za HR2⟩, (za HR).2, hr3⟩, below_then hbw2 hb3⟩
   ·go_wp2;go_ret;exact ⟨zk fun h => hr3 h.2.2, below_then hbw2 hb3⟩
  ·go_wp2;go_ret;exact ⟨zk fun h => hr2 h.1.2, below_then hbw1 hb2⟩
 ·have hbw1 : Below w.heap.size w w1 := below_then bw0 hb1;have HR := zd hr1;clear hr1;go_wp2;go_ret;exact ⟨zk fun h => za HR ⟨h.1.1, h.2.1⟩, hbw1⟩
end Go.Proofs.YthdioeofdofleaaGreatDoor
