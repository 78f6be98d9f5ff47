import Derived.Test.YtjacbppeebnjfaaGreatMSpec9
import Derived.Test.YtjacbppeebnjfaaGreatMKt12
namespace Go.Proofs.YtjacbppeebnjfaaGreat
open Go.RowKit

def OverIs (n : Nt) (zs : List Int) (i k : Nat) (r : Ed × Int) : Prop := ∃ (h : i < n.joints.length) (h' : i < zs.length), overJ n.joints[i] k zs[i] = r

set_option maxRecDepth 100000 in
theorem l2over_any (v : Value) (n : Nt) (zq : Option Addr) (zs : List Int) (zc : Nat) (e0 : Ed) (i k : Nat) (r : Ed × Int) (w : World) {L L' : Nat} (hv : NetAt L w v n) (hz : IntsAt L' w zq zs) (hG : NetGood n) (hL : LiesFit n.joints zs) (hf : EdFits n.pieces.length e0) (hst : StandsAt n.joints e0 i k) (hr : OverIs n zs i k r) :
  Calls Tryz.prog 60 #[v, .slice zq zs.length zc, .agg #[.int .i64 e0.piece, .int .i64 e0.side]] w fun e w' =>
   e = .returned (.tuple #[.agg #[.int .i64 (overEnd e0 r).piece, .int .i64 (overEnd e0 r).side], .int .i64 r.2, .int .i64 i]) ∧ Below w.heap.size w w' := by
 obtain ⟨hi, hi', rfl⟩ := hr
 have hK := hG.kind hi
 have hF := hL.2 i hi hi'
 obtain ⟨_, hkl, _⟩ := id hst
 obtain ⟨j, hj⟩ : ∃ j, n.joints[i] = j := ⟨_, rfl⟩
 obtain ⟨z, hz'⟩ : ∃ z, zs[i] = z := ⟨_, rfl⟩
 rw [hj, hz'] at hF
 simp only [hj] at hK hkl
 rw [hj, hz']
 by_cases h3 : j.kind = 3
 ·obtain ⟨kd, nm, ends⟩ := j
  dsimp only at h3 hkl
  subst h3
  have hlen : ends.length = 3 := by have := hK.2; dsimp only at this; omega
  match ends, hlen, hkl with
  | [x0, x1, x2], _, hkl =>
   have hz012 : z = 0 ∨ z = 1 ∨ z = 2 := by unfold LieFit at hF; omega
   have hk012 : k = 0 ∨ k = 1 ∨ k = 2 := by simp at hkl; omega
   rcases hz012 with rfl | rfl | rfl
   ·have e1 : overJ ⟨3, nm, [x0, x1, x2]⟩ k 0 = (⟨0, 0⟩, 2) := by simp [overJ]
    rw [e1]
    exact l2over_sw0 v n zq zs zc e0 i k nm x0 x1 x2 0 w hv hz hG hf hst ⟨hi, hj⟩ ⟨hi', hz'⟩ rfl
   ·rcases hk012 with rfl | rfl | rfl
    ·have e1 : overJ ⟨3, nm, [x0, x1, x2]⟩ 0 1 = (x1, 0) := by simp [overJ, endOf]
     rw [e1]
     exact l2over_tip1 v n zq zs zc e0 i nm x0 x1 x2 1 w hv hz hG hf hst ⟨hi, hj⟩ ⟨hi', hz'⟩ rfl
    ·have e1 : overJ ⟨3, nm, [x0, x1, x2]⟩ 1 1 = (x0, 0) := by simp [overJ, endOf]
     rw [e1]
     exact l2over_side v n zq zs zc e0 i 1 nm x0 x1 x2 1 w hv hz hG hf hst ⟨hi, hj⟩ ⟨hi', hz'⟩ rfl rfl rfl
    ·have e1 : overJ ⟨3, nm, [x0, x1, x2]⟩ 2 1 = (⟨0, 0⟩, 3) := by simp [overJ]
     rw [e1]
     exact l2over_other v n zq zs zc e0 i 2 nm x0 x1 x2 1 w hv hz hG hf hst ⟨hi, hj⟩ ⟨hi', hz'⟩ rfl rfl rfl
   ·rcases hk012 with rfl | rfl | rfl
    ·have e1 : overJ ⟨3, nm, [x0, x1, x2]⟩ 0 2 = (x2, 0) := by simp [overJ, endOf]
     rw [e1]
     exact l2over_tip2 v n zq zs zc e0 i nm x0 x1 x2 2 w hv hz hG hf hst ⟨hi, hj⟩ ⟨hi', hz'⟩ rfl
    ·have e1 : overJ ⟨3, nm, [x0, x1, x2]⟩ 1 2 = (⟨0, 0⟩, 3) := by simp [overJ]
     rw [e1]
     exact l2over_other v n zq zs zc e0 i 1 nm x0 x1 x2 2 w hv hz hG hf hst ⟨hi, hj⟩ ⟨hi', hz'⟩ rfl rfl rfl
    ·have e1 : overJ ⟨3, nm, [x0, x1, x2]⟩ 2 2 = (x0, 0) := by simp [overJ, endOf]
     rw [e1]
     exact l2over_side v n zq zs zc e0 i 2 nm x0 x1 x2 2 w hv hz hG hf hst ⟨hi, hj⟩ ⟨hi', hz'⟩ rfl rfl rfl
 ·exact l2over_plain v n zq zs zc e0 i k j z w hv hz hG hf hst ⟨hi, hj⟩ ⟨hi', hz'⟩ h3

def SitsFrom (n : Nt) (zs : List Int) : St → List St → Prop
 | _, [] => True
 | ah, s :: r => LeadsBy n zs s ah ∧ SitsFrom n zs s r

theorem sitsFrom_iff {n : Nt} {zs : List Int} (s : Sp) (xs : List St) : SitsFrom n zs ⟨s.piece, s.way⟩ xs ↔ SitsAll n zs s xs := by
 have key : ∀ (ys : List St) (m : Nat), m ≤ xs.length → ys = xs.drop m → (SitsFrom n zs (stepOf s xs m) ys ↔ ∀ j, m ≤ j → j < xs.length → LeadsBy n zs (stepOf s xs (j + 1)) (stepOf s xs j)) := by
  intro ys
  induction ys with
  | nil =>
   intro m hm hy
   have : xs.length ≤ m := by
    have := congrArg List.length hy
    simp at this
    omega
   exact ⟨fun _ j h1 h2 => by omega, fun _ => trivial⟩
  | cons y r ih =>
   intro m hm hy
   have hlt : m < xs.length := by
    have := congrArg List.length hy
    simp at this
    omega
   rw [List.drop_eq_getElem_cons hlt] at hy
   simp only [List.cons.injEq] at hy
   have hso : stepOf s xs (m + 1) = y := by
    unfold stepOf
    rw [if_neg (by omega)]
    simp [List.getElem?_eq_getElem hlt, hy.1]
   have := ih (m + 1) (by omega) hy.2
   simp only [SitsFrom]
   rw [hso] at this
   rw [this]
   constructor
   ·rintro ⟨h1, h2⟩ j hj hjl
    by_cases e : j = m
    ·subst e
     rw [hso]
     exact h1
    ·exact h2 j (by omega) hjl
   ·intro h
    refine ⟨?_, fun j hj hjl => h j (by omega) hjl⟩
    have := h m (Nat.le_refl _) hlt
    rwa [hso] at this
 have := key xs 0 (Nat.zero_le _) (by simp)
 unfold SitsAll
 have h0 : stepOf s xs 0 = ⟨s.piece, s.way⟩ := by simp [stepOf]
 rw [h0] at this
 rw [this]
 exact ⟨fun h j hj => h j (Nat.zero_le _) hj, fun h j _ hj => h j hj⟩

end Go.Proofs.YtjacbppeebnjfaaGreat

namespace Go.Proofs.YtjacbppeebnjfaaGreat
open Go.RowKit

set_option maxRecDepth 100000 in
set_option maxHeartbeats 4000000 in
theorem l2sits_any (v tv : Value) (n : Nt) (zq : Option Addr) (zs : List Int) (zc : Nat) (t : Tr) (w : World) {L L' L'' : Nat} (hv : NetAt L w v n) (hz : IntsAt L' w zq zs) (htv : TrAt L'' w tv t) (hG : NetGood n) (hL : LiesFit n.joints zs) (hF : TrainFits n t) :
  Calls Tryz.prog 38 #[v, .slice zq zs.length zc, tv] w fun e w' => RetB (SitsAll n zs t.front t.back) e ∧ Below w.heap.size w w' := by
 have hvv := hv
 obtain ⟨x, c, ca, cc, rfl, hp, hj⟩ := hv
 obtain ⟨ba, bc, rfl, hst⟩ := htv
 obtain ⟨⟨fp, fa, fy⟩, long, back⟩ := t
 obtain ⟨hS, hlong, h200, hback⟩ := hF
 dsimp only at hst hlong h200 hback hS ⊢
 have hsteps := backOk_steps hback
 have hok0 : StepOk n ⟨fp, fy⟩ := ⟨hS.1, hS.2.1⟩
 have hiff0 := sitsFrom_iff (n := n) (zs := zs) ⟨fp, fa, fy⟩ back
 have HSIT := hide hiff0
 have HST := hide hsteps
 have HL := hide hL
 have HOK0 := hide hok0
 clear hsteps hback hS hiff0 hL hok0
 go_enter Tryz.func38, Tryz.ntmps38
 go_wp2_with fail
 go_loopw [23] (fun z wr => ∃ (k : Nat) (ah : St), k ≤ back.length ∧ z = .int .i64 k ∧ StepOk n ah ∧ Hid (SitsFrom n zs ⟨fp, fy⟩ back ↔ SitsFrom n zs ah (back.drop k))
   ∧ Boxed wr w.heap.size [.slice x n.pieces.length ca, .slice c n.joints.length cc] ∧ Boxed wr (w.heap.size + 1 + 1) [.int .i64 ah.piece, .int .i64 ah.way] ∧ Below w.heap.size w wr) (fun z _ => back.length - (intOf z).toNat)
 case atStart => exact ⟨0, ⟨fp, fy⟩, Nat.zero_le _, rfl, unhide HOK0, hide (by simp), ((boxed_alloc _ _ _).alloc _).alloc _, boxedN _ _ _ (by simp), bw0⟩
 case round =>
  obtain ⟨k, ah, hk, rfl, hah, HI, hBn, hBa, hb⟩ := hrel
  have hsz := hb.size
  have HAH := hide hah
  clear hah
  obtain ⟨ap, ay⟩ := ah
  have na := hBa.1
  have nn := hBn.1
  by_cases hlt : k < back.length
  ·obtain ⟨sb, soff, rfl, hsb, s0, s1⟩ := hst.below hb k hlt
   have hok := unhide HST back[k] (List.getElem_mem hlt)
   have hdrop : back.drop k = back[k] :: back.drop (k + 1) := List.drop_eq_getElem_cons hlt
   generalize hx : back[k] = sk at *
   obtain ⟨sp, sy⟩ := sk
   dsimp only at s0 s1
   obtain ⟨i, kk, hstd⟩ := stands_some (hG.hd hok.1.1 hok.1.2 sy)
   obtain ⟨r, hr⟩ : ∃ r, OverIs n zs i kk r := ⟨_, hstd.1, by rw [(unhide HL).1]; exact hstd.1, rfl⟩
   have hlead : LeadsBy n zs ⟨sp, sy⟩ ⟨ap, ay⟩ ↔ r.2 = 0 ∧ r.1 = hd ap (-ay) := by
    obtain ⟨h1, h2, h3⟩ := hr
    rw [leadsBy_iff hG hok hstd h2]
    constructor
    ·rintro ⟨i', k', h, g1, g2⟩
     obtain ⟨rfl, rfl⟩ := stands_unique (hG.hd hok.1.1 hok.1.2 sy) hstd g1
     rw [h3] at g2
     rw [g2]
     exact ⟨rfl, rfl⟩
    ·rintro ⟨e1, e2⟩
     exact ⟨i, kk, h1, hstd, by rw [h3]; cases r; simp_all⟩
   have HLEAD := hide hlead
   have HD := hide hdrop
   have HOK := hide hok
   have HR := hide hr
   have HSTD := hide hstd
   clear hlead hdrop hok hr hstd hx
   obtain ⟨⟨rp, rs⟩, rc⟩ := r
   obtain ⟨oe, hoe⟩ : ∃ oe, overEnd (hd sp sy) (⟨rp, rs⟩, rc) = oe := ⟨_, rfl⟩
   have HOE := hide hoe
   clear hoe
   obtain ⟨op, os⟩ := oe
   have hsb2 := hsb.2
   have a0 := hBn.2.1 0 _ rfl
   have a1 := hBn.2.1 1 _ rfl
   have ne0 : ¬ wr.heap.size = w.heap.size := by omega
   have ne1 : ¬ w.heap.size = wr.heap.size := by omega
   have ne2 : ¬ wr.heap.size + 1 = w.heap.size := by omega
   have ne3 : ¬ w.heap.size = wr.heap.size + 1 := by omega
   go_upto_region 5 with fail
   go_cut [10, 11] (fun p z wx => ∃ B, p = .pointer (some ⟨B, 0, none⟩) ∧ z = .int .i64 rc ∧ Boxed wx B [.int .i64 op, .int .i64 os] ∧ Boxed wx wr.heap.size [.int .i64 sp, .int .i64 sy] ∧ Below wr.heap.size wr wx)
   case first =>
    go_region_held3 (fun w' => w'.cell? ⟨w.heap.size, 0, none⟩ = some (.slice x n.pieces.length ca) ∧ w'.cell? ⟨w.heap.size, 1, none⟩ = some (.slice c n.joints.length cc)
      ∧ w'.cell? ⟨wr.heap.size, 0, none⟩ = some (.int .i64 sp) ∧ w'.cell? ⟨wr.heap.size, 1, none⟩ = some (.int .i64 sy))
     (((try dsimp only); (repeat' apply And.intro)) <;> (go_keep; done))
     (first
      | (go_at_call 61; refine (l2head_any _ _ _).mono ?_; rintro e w1 ⟨rfl, hb1⟩; obtain ⟨hc1, hf1⟩ := bcell hb1; have sz1 := hb1.size; (try simp at sz1); have lt1 := Nat.lt_of_succ_le sz1; have new10 : ¬ w1.heap.size = wr.heap.size := (by omega); have mew10 : ¬ wr.heap.size = w1.heap.size := (by omega); have new11 : ¬ w1.heap.size = w.heap.size := (by omega); have mew11 : ¬ w.heap.size = w1.heap.size := (by omega); have q0 := hc1 (w.heap.size) (0) (by first | (simp; done) | (simp; omega) | omega); have q1 := hc1 (w.heap.size) (1) (by first | (simp; done) | (simp; omega) | omega); have q2 := hc1 (wr.heap.size) (0) (by first | (simp; done) | (simp; omega) | omega); have q3 := hc1 (wr.heap.size) (1) (by first | (simp; done) | (simp; omega) | omega))
      | (go_at_call 60; refine (l2over_any _ n _ zs _ (hd sp sy) i kk (⟨rp, rs⟩, rc) _ (hvv.below (below_then hb ?_)) (hz.below (below_then hb ?_)) hG (unhide HL) ((unhide HOK).fits sy) (unhide HSTD) (unhide HR)).mono ?_; (first | exact below_then bw0 hb1 | exact below_then (below_then bw0 hb1) bw0); (first | exact below_then bw0 hb1 | exact below_then (below_then bw0 hb1) bw0); rw [unhide HOE]; rintro e w2 ⟨rfl, hb2⟩; obtain ⟨hc2, hf2⟩ := bcell hb2; have sz2 := hb2.size; (try simp at sz2); (try have lt2 := Nat.lt_of_succ_le sz2); have new20 : ¬ w2.heap.size = wr.heap.size := (by omega); have mew20 : ¬ wr.heap.size = w2.heap.size := (by omega); have new21 : ¬ w2.heap.size = w.heap.size := (by omega); have mew21 : ¬ w.heap.size = w2.heap.size := (by omega); have r0 := hc2 (w.heap.size) (0) (by first | (have := hb1.size; omega) | (have := hb1.size; simp at this ⊢; omega) | (simp; omega)); have r1 := hc2 (w.heap.size) (1) (by first | (have := hb1.size; omega) | (have := hb1.size; simp at this ⊢; omega) | (simp; omega)); have r2 := hc2 (wr.heap.size) (0) (by first | (have := hb1.size; omega) | (have := hb1.size; simp at this ⊢; omega) | (simp; omega)); have r3 := hc2 (wr.heap.size) (1) (by first | (have := hb1.size; omega) | (have := hb1.size; simp at this ⊢; omega) | (simp; omega))))
    all_goals go_wp2_with fail
    all_goals go_meet
    ·refine ⟨_, rfl, rfl, boxed_alloc _ _ _, ((((boxed_alloc _ _ _).drew).below hb1).below hb2).alloc _, below_then (below_then (below_then bw0 hb1) hb2) bw0⟩
    ·have hZ : Boxed w2 w1.heap.size [.int .i64 0, .int .i64 0] := (boxed_alloc _ _ _).below hb2
     refine ⟨_, rfl, rfl, hZ.put2 _ _, (((((((boxed_alloc _ _ _).drew).below hb1).alloc _).below hb2).apart (by simp <;> omega) _).apart (by simp <;> omega) _), ?_⟩
     have hbw2 := below_then (below_then (below_then (bw0 : Below wr.heap.size wr _) hb1) bw0) hb2
     exact (bw1 hbw2)
    ·have hZ : Boxed w2 (wr.heap.size + 1) [.int .i64 0, .int .i64 0] := (((boxedN _ _ _ (by simp)).drew).below hb1).below hb2
     refine ⟨_, rfl, rfl, hZ.put2 _ _, (((((((boxed_alloc _ _ _).alloc _).drew).below hb1).below hb2).apart (by simp <;> omega) _).apart (by simp <;> omega) _), ?_⟩
     have hbw2 := below_then (below_then (bw0 : Below wr.heap.size wr _) hb1) hb2
     exact (bw1 hbw2)
   case rest =>
    obtain ⟨B, rfl, rfl, hBe, hBs, hbc⟩ := hcut
    have hBa' := hBa.below hbc
    have hBn' := hBn.below hbc
    have hbwc := below_then hb hbc
    have b0 := hBe.2.1 0 _ rfl
    have b1 := hBe.2.1 1 _ rfl
    have v0 := hBa'.2.1 0 _ rfl
    have v1 := hBa'.2.1 1 _ rfl
    have vz := hBa'.2.2
    have g0 := hBs.2.1 0 _ rfl
    have g1 := hBs.2.1 1 _ rfl
    have nb := hBe.1
    have na' := hBa'.1
    have nn' := hBn'.1
    have ns' := hBs.1
    clear a0 a1
    have hay : ay = 1 ∨ ay = -1 := (unhide HAH).2
    have hneg : IntKind.i64.wrap (-ay) = -ay := wrap_small (by omega) (by omega)
    clear hay
    by_cases hq : rc = 0
    ·subst hq
     have HOE2 : Hid (op = rp ∧ os = rs) := by
      have := unhide HOE
      simp [overEnd] at this
      exact ⟨this.1.symm, this.2.symm⟩
     by_cases hE : op = (hd ap (-ay)).piece ∧ os = (hd ap (-ay)).side
     ·have HL' : Hid (LeadsBy n zs ⟨sp, sy⟩ ⟨ap, ay⟩) := (unhide HLEAD).2 ⟨rfl, by
       obtain ⟨e1, e2⟩ := unhide HOE2
       subst e1 e2
       exact Ed.same hE⟩
      obtain ⟨e1, e2⟩ := hE
      subst e1 e2
      have hdp : ∀ p y : Int, (hd p y).piece = p := fun _ _ => rfl
      clear HLEAD HOE HOE2 HR
      go_wp2_with fail
      refine wp_region_grown (by kernel_rfl) (by kernel_rfl) (fun hgn hgc => ?_)
      repeat (go_big_quiet_step ((go_at_call 61; rename_i g; exact g.call (l2head_any _ _ _))))
      refine wpQuiet_nil ?_
      intro wq hwq
      have hbq : Below wc.heap.size wc wq := by obtain ⟨g, rfl⟩ := hwq; exact g.below
      clear hwq hgc hgn b0 b1 v0 v1 vz g0 g1
      have hBs2 := hBs.below hbq
      have hBa2 := hBa'.below hbq
      have hBn2 := hBn'.below hbq
      have hbw := below_then hbwc hbq
      have m0 := hBs2.2.1 0 _ rfl
      have m1 := hBs2.2.1 1 _ rfl
      have v0 := hBa2.2.1 0 _ rfl
      have v1 := hBa2.2.1 1 _ rfl
      have vz := hBa2.2.2
      have l2 := hBa2.1
      have l3 := hBs2.1
      have ne9 : ¬ wr.heap.size = w.heap.size + 1 + 1 := by omega
      go_wp2
      refine ⟨⟨k + 1, ⟨sp, sy⟩, by omega, by go_num, unhide HOK, ?_, (hBn2.other (by simp; omega) _).other (by simp; omega) _, hBa2.set2 _ _, (bw1 hbw)⟩, by simp [intOf]; omega⟩
      refine hide ((unhide HI).trans ?_)
      rw [unhide HD]
      simp only [SitsFrom]
      exact ⟨fun h => h.2, fun h => ⟨unhide HL', h⟩⟩
     ·have HL' : Hid (¬ SitsAll n zs ⟨fp, fa, fy⟩ back) := fun h => by
       have h1 := (unhide HI).1 ((unhide HSIT).2 h)
       rw [unhide HD] at h1
       simp only [SitsFrom] at h1
       have h2 := (unhide HLEAD).1 h1.1
       obtain ⟨e1, e2⟩ := unhide HOE2
       subst e1 e2
       have h3 := h2.2
       dsimp only at h3
       rw [← h3] at hE
       exact hE ⟨rfl, rfl⟩
      clear HLEAD HOE HOE2 HR
      by_cases h1 : op = (hd ap (-ay)).piece
      ·have h2 : ¬ os = (hd ap (-ay)).side := fun h2 => hE ⟨h1, h2⟩
       clear hE
       subst h1
       have h2b := ne_beq h2
       have hdp : ∀ p y : Int, (hd p y).piece = p := fun _ _ => rfl
       clear h2
       go_wp2_with fail
       refine wp_region_grown (by kernel_rfl) (by kernel_rfl) (fun hgn hgc => ?_)
       repeat (go_big_quiet_step ((go_at_call 61; rename_i g; exact g.call (l2head_any _ _ _))))
       refine wpQuiet_nil ?_
       intro wq hwq
       have hbq : Below wc.heap.size wc wq := by obtain ⟨g, rfl⟩ := hwq; exact g.below
       clear hwq hgc hgn
       go_wp2
       go_ret
       exact ⟨retB_false (unhide HL'), below_then hbwc hbq⟩
      ·clear hE
       have h1b := ne_beq h1
       clear h1
       go_wp2_with fail
       refine wp_region_grown (by kernel_rfl) (by kernel_rfl) (fun hgn hgc => ?_)
       repeat (go_big_quiet_step ((go_at_call 61; rename_i g; exact g.call (l2head_any _ _ _))))
       refine wpQuiet_nil ?_
       intro wq hwq
       have hbq : Below wc.heap.size wc wq := by obtain ⟨g, rfl⟩ := hwq; exact g.below
       clear hwq hgc hgn
       go_wp2
       go_ret
       exact ⟨retB_false (unhide HL'), below_then hbwc hbq⟩
    ·have HL' : Hid (¬ SitsAll n zs ⟨fp, fa, fy⟩ back) := fun h => by
      have h1 := (unhide HI).1 ((unhide HSIT).2 h)
      rw [unhide HD] at h1
      simp only [SitsFrom] at h1
      exact hq ((unhide HLEAD).1 h1.1).1
     have hqb := ne_beq hq
     have hqn : (rc != 0) = true := by simp [bne, hqb]
     clear hq HLEAD HOE HR
     go_wp2_with fail
     refine wp_region_grown (by kernel_rfl) (by kernel_rfl) (fun hgn hgc => ?_)
     repeat (go_big_quiet_step (fail))
     refine wpQuiet_nil ?_
     intro wq hwq
     have hbq : Below wc.heap.size wc wq := by obtain ⟨g, rfl⟩ := hwq; exact g.below
     clear hwq hgc hgn
     go_wp2
     go_ret
     exact ⟨retB_false (unhide HL'), below_then hbwc hbq⟩
  ·have hkl : k = back.length := by omega
   have hdrop : Hid (back.drop k = []) := by unfold Hid; rw [hkl]; simp
   go_wp2
   go_ret
   refine ⟨retB_true ?_, hb⟩
   rw [← unhide HSIT, unhide HI, unhide hdrop]
   trivial

set_option maxRecDepth 100000 in
set_option maxHeartbeats 4000000 in
theorem specSits_any (v tv : Value) (n : Nt) (zq : Option Addr) (zs : List Int) (zc : Nat) (t : Tr) (w : World) {L L' L'' : Nat} (hv : NetAt L w v n) (hz : IntsAt L' w zq zs) (htv : TrAt L'' w tv t) (hl : n.pieces.length ≤ 1048576) (hl' : n.joints.length ≤ 1048576)
  (hle : ∀ i (h : i < n.joints.length), n.joints[i].ends.length ≤ 1048576 ∧ n.joints[i].name.size ≤ maxLen) (hnm : ∀ i (h : i < n.pieces.length), n.pieces[i].name.size ≤ maxLen) (hbl : t.back.length ≤ 1048576) :
  Calls Tryz.prog 14 #[v, .slice zq zs.length zc, tv] w fun e w' => RetB (SitsRight n zs t) e ∧ Below w.heap.size w w' := by
 have hvv := hv
 have htt := htv
 obtain ⟨x, c, ca, cc, rfl, hp, hj⟩ := hv
 obtain ⟨ba, bc, rfl, hst⟩ := htv
 go_enter Tryz.func14, Tryz.ntmps14
 go_wp2_with fail
 refine (specLiesOk_any _ n _ zs _ _ (hvv.below ?_) (hz.below ?_) hl hl' hle hnm).mono ?_
 ·exact bw0
 ·exact bw0
 rintro e w1 ⟨⟨rfl, hr1⟩ | ⟨rfl, hr1⟩, hb1⟩
 ·have hbw1 : Below w.heap.size w w1 := below_then bw0 hb1
  have hBn1 : Boxed w1 w.heap.size [.slice x n.pieces.length ca, .slice c n.joints.length cc] := ((boxed_alloc _ _ _).alloc _).below hb1
  have hBt1 : Boxed w1 (w.heap.size + 1) [.int .i64 t.front.piece, .int .i64 t.front.at_, .int .i64 t.front.way, .int .i64 t.long, .slice ba t.back.length bc] := (boxedN _ _ _ (by simp)).below hb1
  have a0 := hBn1.2.1 0 _ rfl
  have a1 := hBn1.2.1 1 _ rfl
  have b0 := hBt1.2.1 0 _ rfl
  have b1 := hBt1.2.1 1 _ rfl
  have b2 := hBt1.2.1 2 _ rfl
  have b3 := hBt1.2.1 3 _ rfl
  have b4 := hBt1.2.1 4 _ rfl
  have HR := hide hr1
  clear hr1
  go_wp2_with fail
  refine (l2train_any _ _ n t _ (hvv.below hbw1) (htt.below hbw1) (netGood (unhide HR).1) hbl).mono ?_
  rintro e w2 ⟨⟨rfl, hr2⟩ | ⟨rfl, hr2⟩, hb2⟩
  ·have HR2 := hide hr2
   have hbw2 := below_then hbw1 hb2
   have hBn2 := hBn1.below hb2
   have hBt2 := hBt1.below hb2
   clear hr2 a0 a1 b0 b1 b2 b3 b4
   have a0 := hBn2.2.1 0 _ rfl
   have a1 := hBn2.2.1 1 _ rfl
   have b0 := hBt2.2.1 0 _ rfl
   have b1 := hBt2.2.1 1 _ rfl
   have b2 := hBt2.2.1 2 _ rfl
   have b3 := hBt2.2.1 3 _ rfl
   have b4 := hBt2.2.1 4 _ rfl
   go_wp2_with fail
   refine (l2sits_any _ _ n _ zs _ t _ (hvv.below hbw2) (hz.below hbw2) (htt.below hbw2) (netGood (unhide HR).1) (unhide HR).2 (unhide HR2)).mono ?_
   rintro e w3 ⟨⟨rfl, hr3⟩ | ⟨rfl, hr3⟩, hb3⟩
   ·go_wp2
    go_ret
    exact ⟨retB_true ⟨⟨(unhide HR).1, unhide HR2⟩, (unhide HR).2, hr3⟩, below_then hbw2 hb3⟩
   ·go_wp2
    go_ret
    exact ⟨retB_false fun h => hr3 h.2.2, below_then hbw2 hb3⟩
  ·go_wp2
   go_ret
   exact ⟨retB_false fun h => hr2 h.1.2, below_then hbw1 hb2⟩
 ·have hbw1 : Below w.heap.size w w1 := below_then bw0 hb1
  have HR := hide hr1
  clear hr1
  go_wp2
  go_ret
  exact ⟨retB_false fun h => unhide HR ⟨h.1.1, h.2.1⟩, hbw1⟩

end Go.Proofs.YtjacbppeebnjfaaGreat

