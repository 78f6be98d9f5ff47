import Derived.Test.YthdioeofdofleaaGreatDoorMPlain3
import Derived.Test.YthdioeofdofleaaGreatDoorMKt1
import Derived.Test.YthdioeofdofleaaGreatDoorMRead
set_option maxRecDepth 100000
namespace Go.Proofs.YthdioeofdofleaaGreatDoor
open Go.RowKit
variable {L L' : Nat}
def Vy (s : St) : List St -> St
  | [] => s
  | x :: r => Vy x r
def tailOf (n : Nt) (t : Tr) : Sp :=
  ⟨(Vy ⟨t.front.piece, t.front.way⟩ t.back).piece,
   if (Vy ⟨t.front.piece, t.front.way⟩ t.back).way = -1 then lenOf n (Vy ⟨t.front.piece, t.front.way⟩ t.back).piece - (zm n t.front - t.long + zN n t.back) else zm n t.front - t.long + zN n t.back,
   (Vy ⟨t.front.piece, t.front.way⟩ t.back).way⟩

theorem yM {n : Nt} {long : Int} : ∀ {h : Int} {ah : St} {xs : List St}, ZE n long h ah xs -> ∀ x ∈ xs, zy n x := by
  intro h ah xs
  induction xs generalizing h ah with
  | nil => intro _ x hx; simp at hx
  | cons y r ih =>
    intro hb x hx;simp only [ZE] at hb
    rcases List.mem_cons.1 hx with rfl | hx
    · exact hb.1
    · exact ih hb.2.2.2 x hx

def YT (e0 : Ed) (r : Ed × Int) : Ed := if r.2 = 0 then r.1 else e0

set_option maxHeartbeats 2000000 in
theorem l2over_plain (v : Value) (n : Nt) (zq : Option Addr) (zs : List Int) (zc : Nat) (e0 : Ed) (i k : Nat) (j : Jt) (z : Int) (w : World) (hv : zE L w v n) (hz : zF L' w zq zs) (hG : zr n) (hf : zK n.pieces.length e0) (hst : zX n.joints e0 i k)
  (hji : ∃ h : i < n.joints.length, n.joints[i] = j) (hzi : ∃ h : i < zs.length, zs[i] = z) (hk3 : j.kind ≠ 3) :
  Calls Tryz.prog 68 #[v, .slice zq zs.length zc, .agg #[.int .i64 e0.piece, .int .i64 e0.side]] w fun e w' =>
   e = .returned (.tuple #[.agg #[.int .i64 (YT e0 (Ze j k z)).piece, .int .i64 (YT e0 (Ze j k z)).side], .int .i64 (Ze j k z).2, .int .i64 i]) /\ Below w.heap.size w w' := by
 have hvv := hv;obtain ⟨x, c, ca, cc, rfl, hp, hj⟩ := hv;obtain ⟨⟨h0, h1⟩, h2, h3⟩ := hf;obtain ⟨ep, es⟩ := e0;dsimp only at h0 h1 h2 h3 ⊢;obtain ⟨pn, rfl⟩ := Int.eq_ofNat_of_zero_le h0;have huse : ZZ n.joints pn es = 1 := hG.once pn (by omega) es (by omega);have HU := zd huse;have HST := zd hst;clear huse;go_enter Tryz.func68, Tryz.ntmps68;go_wp2_with fail;refine (xM _ n pn es _ (hvv.below ?_) (by have := hG.nj; omega) hG.ends ⟨_, _, za HST⟩).mono ?_
 ·exact bw0
 rintro e w1 ⟨i1, kk, rfl, hs1, hb1⟩;obtain ⟨rfl, rfl⟩ := zQ (za HU) (za HST) hs1;have hbw1 : Below w.heap.size w w1 := below_then bw0 hb1;have hBn : zg w1 w.heap.size [.slice x n.pieces.length ca, .slice c n.joints.length cc] := (((zf _ _ _).alloc _).alloc _).below hb1;have hBe : zg w1 (w.heap.size + 1) [.int .i64 pn, .int .i64 es] := ((zp _ _ _ (by simp)).alloc _).below hb1;have hBr : zg w1 (w.heap.size + 1 + 1) [.int .i64 0, .int .i64 0] := (zp _ _ _ (by simp)).below hb1;obtain ⟨hil, hij⟩ := hji;obtain ⟨hizl, hiz⟩ := hzi;have hK := hG.kind hil;obtain ⟨_, hkl, hke⟩ := hst;rw [hij] at hK;simp only [hij] at hkl hke;obtain ⟨jb, joff, ea, ec, rfl, hjb, c0, c1, c2, hes⟩ := hj.below hbw1 i hil;obtain ⟨zb, zoff, rfl, hzb, z0⟩ := hz.below hbw1 i hizl;rw [hij] at c0 c1 c2 hes;rw [hiz] at z0;have a1 := hBn.2.1 1 _ rfl;have e0 := hBe.2.1 0 _ rfl;have e1 := hBe.2.1 1 _ rfl;have r0 := hBr.2.1 0 _ rfl;have r1 := hBr.2.1 1 _ rfl;have rz := hBr.2.2;have rl := hBr.1;have el := hBe.1;have hjb2 := hjb.2;have hzb2 := hzb.2
 have hii : (i : Int) < (n.joints.length : Int) := by omega
 have hiiz : (i : Int) < (zs.length : Int) := by omega
 have hsz1 := hbw1.size;obtain ⟨kd, nm, ends⟩ := j;dsimp only at c0 c1 c2 hes hk3 hK hkl hke;clear hke;clear hij hiz HST hs1;obtain ⟨⟨hk1, hk4⟩, hlen⟩ := hK
 have h4 : kd = 1 \/ kd = 2 \/ kd = 3 \/ kd = 4 := by omega
 rcases h4 with rfl | rfl | rfl | rfl
 ·have HO : Hid (Ze ⟨1, nm, ends⟩ k z = (⟨0, 0⟩, 1)) := by unfold Hid Ze; simp
  go_wp2;refine bodyPost_ret (v := .tuple #[.agg #[.int .i64 pn, .int .i64 es], .int .i64 1, .int .i64 i]) (by simp [results, Tryz.results68, go_sem, r0, r1, rl]) rfl ⟨by rw [za HO]; rfl, (ZW hbw1)⟩
 ·have HO : Hid (Ze ⟨2, nm, ends⟩ k z = (Zv ⟨2, nm, ends⟩ (1 - k), 0)) := by unfold Hid Ze; simp
  have hac : ZP ⟨2, nm, ends⟩ k = [Zv ⟨2, nm, ends⟩ (1 - k)] := by simp [ZP]
  have HAC := zd hac;clear hac;have hA : Below w1.heap.size w1 (w1.alloc (.cells #[.int .i64 2, .string nm, .slice ea ends.length ec] 58)) := bw0;go_wp2_with fail;refine (xo ⟨2, nm, ends⟩ k ea ec _ (hes.below hA) ⟨⟨by omega, by omega⟩, hlen⟩ hkl).mono ?_;rintro e w2 ⟨⟨aa, acap, rfl, hea⟩, hb2⟩;rw [za HAC] at hea ⊢;obtain ⟨ab, aoff, rfl, hab, y0, y1⟩ := hea 0 (by simp)
  simp at y0 y1
  have hb2' := below_then hA hb2;have hbw2 := below_then hbw1 hb2';have hBr2 := hBr.below hb2';have r0' := hBr2.2.1 0 _ rfl;have r1' := hBr2.2.1 1 _ rfl;have rz' := hBr2.2.2;have rl' := hBr2.1;have hab2 := hab.2;have hsz2 := hbw2.size
  generalize Zv ⟨2, nm, ends⟩ (1 - k) = tgt at *
  simp only [List.length_cons, List.length_nil];go_wp2;refine bodyPost_ret (v := .tuple #[.agg #[.int .i64 tgt.piece, .int .i64 tgt.side], .int .i64 0, .int .i64 i]) (by simp [results, Tryz.results68, go_sem, r0', r1']) rfl ⟨by rw [za HO]; rfl, (ZW hbw2)⟩
 ·exact absurd rfl hk3
 ·have HO : Hid (Ze ⟨4, nm, ends⟩ k z = (Zv ⟨4, nm, ends⟩ (if k = 0 then 1 else if k = 1 then 0 else if k = 2 then 3 else 2), 0)) := by unfold Hid Ze; simp
  have hac : ZP ⟨4, nm, ends⟩ k = [Zv ⟨4, nm, ends⟩ (if k = 0 then 1 else if k = 1 then 0 else if k = 2 then 3 else 2)] := by simp [ZP]
  have HAC := zd hac;clear hac;have hA : Below w1.heap.size w1 (w1.alloc (.cells #[.int .i64 4, .string nm, .slice ea ends.length ec] 58)) := bw0;go_wp2_with fail;refine (xo ⟨4, nm, ends⟩ k ea ec _ (hes.below hA) ⟨⟨by omega, by omega⟩, hlen⟩ hkl).mono ?_;rintro e w2 ⟨⟨aa, acap, rfl, hea⟩, hb2⟩;rw [za HAC] at hea ⊢;obtain ⟨ab, aoff, rfl, hab, y0, y1⟩ := hea 0 (by simp)
  simp at y0 y1
  have hb2' := below_then hA hb2;have hbw2 := below_then hbw1 hb2';have hBr2 := hBr.below hb2';have r0' := hBr2.2.1 0 _ rfl;have r1' := hBr2.2.1 1 _ rfl;have rz' := hBr2.2.2;have rl' := hBr2.1;have hab2 := hab.2;have hsz2 := hbw2.size
  generalize Zv ⟨4, nm, ends⟩ (if k = 0 then 1 else if k = 1 then 0 else if k = 2 then 3 else 2) = tgt at *
  simp only [List.length_cons, List.length_nil];go_wp2;refine bodyPost_ret (v := .tuple #[.agg #[.int .i64 tgt.piece, .int .i64 tgt.side], .int .i64 0, .int .i64 i]) (by simp [results, Tryz.results68, go_sem, r0', r1']) rfl ⟨by rw [za HO]; rfl, (ZW hbw2)⟩

set_option maxHeartbeats 2000000 in
theorem l2over_sw0 (v : Value) (n : Nt) (zq : Option Addr) (zs : List Int) (zc : Nat) (e0 : Ed) (i k : Nat) (nm : ByteArray) (x0 x1 x2 : Ed) (z : Int) (w : World) (hv : zE L w v n) (hz : zF L' w zq zs) (hG : zr n) (hf : zK n.pieces.length e0) (hst : zX n.joints e0 i k)
  (hji : ∃ h : i < n.joints.length, n.joints[i] = ⟨3, nm, [x0, x1, x2]⟩) (hzi : ∃ h : i < zs.length, zs[i] = z) (hz0 : z = 0) :
  Calls Tryz.prog 68 #[v, .slice zq zs.length zc, .agg #[.int .i64 e0.piece, .int .i64 e0.side]] w fun e w' =>
   e = .returned (.tuple #[.agg #[.int .i64 e0.piece, .int .i64 e0.side], .int .i64 2, .int .i64 i]) /\ Below w.heap.size w w' := by
 have hvv := hv;obtain ⟨x, c, ca, cc, rfl, hp, hj⟩ := hv;obtain ⟨⟨h0, h1⟩, h2, h3⟩ := hf;obtain ⟨ep, es⟩ := e0;dsimp only at h0 h1 h2 h3 ⊢;obtain ⟨pn, rfl⟩ := Int.eq_ofNat_of_zero_le h0;have huse : ZZ n.joints pn es = 1 := hG.once pn (by omega) es (by omega);have HU := zd huse;have HST := zd hst;clear huse;go_enter Tryz.func68, Tryz.ntmps68;go_wp2_with fail;refine (xM _ n pn es _ (hvv.below ?_) (by have := hG.nj; omega) hG.ends ⟨_, _, za HST⟩).mono ?_
 ·exact bw0
 rintro e w1 ⟨i1, kk, rfl, hs1, hb1⟩;obtain ⟨rfl, rfl⟩ := zQ (za HU) (za HST) hs1;have hbw1 : Below w.heap.size w w1 := below_then bw0 hb1;have hBn : zg w1 w.heap.size [.slice x n.pieces.length ca, .slice c n.joints.length cc] := (((zf _ _ _).alloc _).alloc _).below hb1;have hBe : zg w1 (w.heap.size + 1) [.int .i64 pn, .int .i64 es] := ((zp _ _ _ (by simp)).alloc _).below hb1;have hBr : zg w1 (w.heap.size + 1 + 1) [.int .i64 0, .int .i64 0] := (zp _ _ _ (by simp)).below hb1;obtain ⟨hil, hij⟩ := hji;obtain ⟨hizl, hiz⟩ := hzi;have hK := hG.kind hil;obtain ⟨_, hkl, hke⟩ := hst;rw [hij] at hK;simp only [hij] at hkl hke;obtain ⟨jb, joff, ea, ec, rfl, hjb, c0, c1, c2, hes⟩ := hj.below hbw1 i hil;obtain ⟨zb, zoff, rfl, hzb, z0⟩ := hz.below hbw1 i hizl;rw [hij] at c0 c1 c2 hes;rw [hiz] at z0;have a1 := hBn.2.1 1 _ rfl;have e0 := hBe.2.1 0 _ rfl;have e1 := hBe.2.1 1 _ rfl;have r0 := hBr.2.1 0 _ rfl;have r1 := hBr.2.1 1 _ rfl;have rz := hBr.2.2;have rl := hBr.1;have el := hBe.1;have hjb2 := hjb.2;have hzb2 := hzb.2
 have hii : (i : Int) < (n.joints.length : Int) := by omega
 have hiiz : (i : Int) < (zs.length : Int) := by omega
 have hsz1 := hbw1.size;dsimp only at c0 c1 c2 hes hK hkl hke;clear hke;clear hij hiz HST hs1 hK;subst hz0;go_wp2;refine bodyPost_ret (v := .tuple #[.agg #[.int .i64 pn, .int .i64 es], .int .i64 2, .int .i64 i]) (by simp [results, Tryz.results68, go_sem, r0, r1, rl]) rfl ⟨rfl, (ZW hbw1)⟩

set_option maxHeartbeats 2000000 in
theorem l2over_tip1 (v : Value) (n : Nt) (zq : Option Addr) (zs : List Int) (zc : Nat) (e0 : Ed) (i : Nat) (nm : ByteArray) (x0 x1 x2 : Ed) (z : Int) (w : World) (hv : zE L w v n) (hz : zF L' w zq zs) (hG : zr n) (hf : zK n.pieces.length e0) (hst : zX n.joints e0 i 0)
  (hji : ∃ h : i < n.joints.length, n.joints[i] = ⟨3, nm, [x0, x1, x2]⟩) (hzi : ∃ h : i < zs.length, zs[i] = z) (hz0 : z = 1) :
  Calls Tryz.prog 68 #[v, .slice zq zs.length zc, .agg #[.int .i64 e0.piece, .int .i64 e0.side]] w fun e w' =>
   e = .returned (.tuple #[.agg #[.int .i64 x1.piece, .int .i64 x1.side], .int .i64 0, .int .i64 i]) /\ Below w.heap.size w w' := by
 have hvv := hv;obtain ⟨x, c, ca, cc, rfl, hp, hj⟩ := hv;obtain ⟨⟨h0, h1⟩, h2, h3⟩ := hf;obtain ⟨ep, es⟩ := e0;dsimp only at h0 h1 h2 h3 ⊢;obtain ⟨pn, rfl⟩ := Int.eq_ofNat_of_zero_le h0;have huse : ZZ n.joints pn es = 1 := hG.once pn (by omega) es (by omega);have HU := zd huse;have HST := zd hst;clear huse;go_enter Tryz.func68, Tryz.ntmps68;go_wp2_with fail;refine (xM _ n pn es _ (hvv.below ?_) (by have := hG.nj; omega) hG.ends ⟨_, _, za HST⟩).mono ?_
 ·exact bw0
 rintro e w1 ⟨i1, kk, rfl, hs1, hb1⟩;obtain ⟨rfl, rfl⟩ := zQ (za HU) (za HST) hs1;have hbw1 : Below w.heap.size w w1 := below_then bw0 hb1;have hBn : zg w1 w.heap.size [.slice x n.pieces.length ca, .slice c n.joints.length cc] := (((zf _ _ _).alloc _).alloc _).below hb1;have hBe : zg w1 (w.heap.size + 1) [.int .i64 pn, .int .i64 es] := ((zp _ _ _ (by simp)).alloc _).below hb1;have hBr : zg w1 (w.heap.size + 1 + 1) [.int .i64 0, .int .i64 0] := (zp _ _ _ (by simp)).below hb1;obtain ⟨hil, hij⟩ := hji;obtain ⟨hizl, hiz⟩ := hzi;have hK := hG.kind hil;obtain ⟨_, hkl, hke⟩ := hst;rw [hij] at hK;simp only [hij] at hkl hke;obtain ⟨jb, joff, ea, ec, rfl, hjb, c0, c1, c2, hes⟩ := hj.below hbw1 i hil;obtain ⟨zb, zoff, rfl, hzb, z0⟩ := hz.below hbw1 i hizl;rw [hij] at c0 c1 c2 hes;rw [hiz] at z0;have a1 := hBn.2.1 1 _ rfl;have e0 := hBe.2.1 0 _ rfl;have e1 := hBe.2.1 1 _ rfl;have r0 := hBr.2.1 0 _ rfl;have r1 := hBr.2.1 1 _ rfl;have rz := hBr.2.2;have rl := hBr.1;have el := hBe.1;have hjb2 := hjb.2;have hzb2 := hzb.2
 have hii : (i : Int) < (n.joints.length : Int) := by omega
 have hiiz : (i : Int) < (zs.length : Int) := by omega
 have hsz1 := hbw1.size;dsimp only at c0 c1 c2 hes hK hkl hke;clear hke;clear hij hiz HST hs1 hK;subst hz0;obtain ⟨eb, eoff, rfl, heb, y0, y1⟩ := hes 1 (by simp)
 simp at y0 y1
 have heb2 := heb.2;go_wp2_with fail
 go_region
 all_goals go_wp2
 refine bodyPost_ret (v := .tuple #[.agg #[.int .i64 x1.piece, .int .i64 x1.side], .int .i64 0, .int .i64 i]) (by simp [results, Tryz.results68, go_sem, r0, r1, rl]) rfl ⟨rfl, (ZW hbw1)⟩

set_option maxHeartbeats 2000000 in
theorem l2over_tip2 (v : Value) (n : Nt) (zq : Option Addr) (zs : List Int) (zc : Nat) (e0 : Ed) (i : Nat) (nm : ByteArray) (x0 x1 x2 : Ed) (z : Int) (w : World) (hv : zE L w v n) (hz : zF L' w zq zs) (hG : zr n) (hf : zK n.pieces.length e0) (hst : zX n.joints e0 i 0)
  (hji : ∃ h : i < n.joints.length, n.joints[i] = ⟨3, nm, [x0, x1, x2]⟩) (hzi : ∃ h : i < zs.length, zs[i] = z) (hz0 : z = 2) :
  Calls Tryz.prog 68 #[v, .slice zq zs.length zc, .agg #[.int .i64 e0.piece, .int .i64 e0.side]] w fun e w' =>
   e = .returned (.tuple #[.agg #[.int .i64 x2.piece, .int .i64 x2.side], .int .i64 0, .int .i64 i]) /\ Below w.heap.size w w' := by
 have hvv := hv;obtain ⟨x, c, ca, cc, rfl, hp, hj⟩ := hv;obtain ⟨⟨h0, h1⟩, h2, h3⟩ := hf;obtain ⟨ep, es⟩ := e0;dsimp only at h0 h1 h2 h3 ⊢;obtain ⟨pn, rfl⟩ := Int.eq_ofNat_of_zero_le h0;have huse : ZZ n.joints pn es = 1 := hG.once pn (by omega) es (by omega);have HU := zd huse;have HST := zd hst;clear huse;go_enter Tryz.func68, Tryz.ntmps68;go_wp2_with fail;refine (xM _ n pn es _ (hvv.below ?_) (by have := hG.nj; omega) hG.ends ⟨_, _, za HST⟩).mono ?_
 ·exact bw0
 rintro e w1 ⟨i1, kk, rfl, hs1, hb1⟩;obtain ⟨rfl, rfl⟩ := zQ (za HU) (za HST) hs1;have hbw1 : Below w.heap.size w w1 := below_then bw0 hb1;have hBn : zg w1 w.heap.size [.slice x n.pieces.length ca, .slice c n.joints.length cc] := (((zf _ _ _).alloc _).alloc _).below hb1;have hBe : zg w1 (w.heap.size + 1) [.int .i64 pn, .int .i64 es] := ((zp _ _ _ (by simp)).alloc _).below hb1;have hBr : zg w1 (w.heap.size + 1 + 1) [.int .i64 0, .int .i64 0] := (zp _ _ _ (by simp)).below hb1;obtain ⟨hil, hij⟩ := hji;obtain ⟨hizl, hiz⟩ := hzi;have hK := hG.kind hil;obtain ⟨_, hkl, hke⟩ := hst;rw [hij] at hK;simp only [hij] at hkl hke;obtain ⟨jb, joff, ea, ec, rfl, hjb, c0, c1, c2, hes⟩ := hj.below hbw1 i hil;obtain ⟨zb, zoff, rfl, hzb, z0⟩ := hz.below hbw1 i hizl;rw [hij] at c0 c1 c2 hes;rw [hiz] at z0;have a1 := hBn.2.1 1 _ rfl;have e0 := hBe.2.1 0 _ rfl;have e1 := hBe.2.1 1 _ rfl;have r0 := hBr.2.1 0 _ rfl;have r1 := hBr.2.1 1 _ rfl;have rz := hBr.2.2;have rl := hBr.1;have el := hBe.1;have hjb2 := hjb.2;have hzb2 := hzb.2
 have hii : (i : Int) < (n.joints.length : Int) := by omega
 have hiiz : (i : Int) < (zs.length : Int) := by omega
 have hsz1 := hbw1.size;dsimp only at c0 c1 c2 hes hK hkl hke;clear hke;clear hij hiz HST hs1 hK;subst hz0;obtain ⟨eb, eoff, rfl, heb, y0, y1⟩ := hes 2 (by simp)
 simp at y0 y1
 have heb2 := heb.2;go_wp2_with fail
 go_region
 all_goals go_wp2
 refine bodyPost_ret (v := .tuple #[.agg #[.int .i64 x2.piece, .int .i64 x2.side], .int .i64 0, .int .i64 i]) (by simp [results, Tryz.results68, go_sem, r0, r1, rl]) rfl ⟨rfl, (ZW hbw1)⟩

set_option maxHeartbeats 2000000 in
theorem VY (v : Value) (n : Nt) (zq : Option Addr) (zs : List Int) (zc : Nat) (e0 : Ed) (i k : Nat) (nm : ByteArray) (x0 x1 x2 : Ed) (z : Int) (w : World) (hv : zE L w v n) (hz : zF L' w zq zs) (hG : zr n) (hf : zK n.pieces.length e0) (hst : zX n.joints e0 i k)
  (hji : ∃ h : i < n.joints.length, n.joints[i] = ⟨3, nm, [x0, x1, x2]⟩) (hzi : ∃ h : i < zs.length, zs[i] = z) (hz0 : (z == 0) = false) (hk0 : ((k : Int) == 0) = false) (hkz : ((k : Int) == z) = false) :
  Calls Tryz.prog 68 #[v, .slice zq zs.length zc, .agg #[.int .i64 e0.piece, .int .i64 e0.side]] w fun e w' =>
   e = .returned (.tuple #[.agg #[.int .i64 e0.piece, .int .i64 e0.side], .int .i64 3, .int .i64 i]) /\ Below w.heap.size w w' := by
 have hvv := hv;obtain ⟨x, c, ca, cc, rfl, hp, hj⟩ := hv;obtain ⟨⟨h0, h1⟩, h2, h3⟩ := hf;obtain ⟨ep, es⟩ := e0;dsimp only at h0 h1 h2 h3 ⊢;obtain ⟨pn, rfl⟩ := Int.eq_ofNat_of_zero_le h0;have huse : ZZ n.joints pn es = 1 := hG.once pn (by omega) es (by omega);have HU := zd huse;have HST := zd hst;clear huse;go_enter Tryz.func68, Tryz.ntmps68;go_wp2_with fail;refine (xM _ n pn es _ (hvv.below ?_) (by have := hG.nj; omega) hG.ends ⟨_, _, za HST⟩).mono ?_
 ·exact bw0
 rintro e w1 ⟨i1, kk, rfl, hs1, hb1⟩;obtain ⟨rfl, rfl⟩ := zQ (za HU) (za HST) hs1;have hbw1 : Below w.heap.size w w1 := below_then bw0 hb1;have hBn : zg w1 w.heap.size [.slice x n.pieces.length ca, .slice c n.joints.length cc] := (((zf _ _ _).alloc _).alloc _).below hb1;have hBe : zg w1 (w.heap.size + 1) [.int .i64 pn, .int .i64 es] := ((zp _ _ _ (by simp)).alloc _).below hb1;have hBr : zg w1 (w.heap.size + 1 + 1) [.int .i64 0, .int .i64 0] := (zp _ _ _ (by simp)).below hb1;obtain ⟨hil, hij⟩ := hji;obtain ⟨hizl, hiz⟩ := hzi;have hK := hG.kind hil;obtain ⟨_, hkl, hke⟩ := hst;rw [hij] at hK;simp only [hij] at hkl hke;obtain ⟨jb, joff, ea, ec, rfl, hjb, c0, c1, c2, hes⟩ := hj.below hbw1 i hil;obtain ⟨zb, zoff, rfl, hzb, z0⟩ := hz.below hbw1 i hizl;rw [hij] at c0 c1 c2 hes;rw [hiz] at z0;have a1 := hBn.2.1 1 _ rfl;have e0 := hBe.2.1 0 _ rfl;have e1 := hBe.2.1 1 _ rfl;have r0 := hBr.2.1 0 _ rfl;have r1 := hBr.2.1 1 _ rfl;have rz := hBr.2.2;have rl := hBr.1;have el := hBe.1;have hjb2 := hjb.2;have hzb2 := hzb.2
 have hii : (i : Int) < (n.joints.length : Int) := by omega
 have hiiz : (i : Int) < (zs.length : Int) := by omega
 have hsz1 := hbw1.size;dsimp only at c0 c1 c2 hes hK hkl hke;clear hke;clear hij hiz HST hs1 hK;go_wp2;refine bodyPost_ret (v := .tuple #[.agg #[.int .i64 pn, .int .i64 es], .int .i64 3, .int .i64 i]) (by simp [results, Tryz.results68, go_sem, r0, r1, rl]) rfl ⟨rfl, (ZW hbw1)⟩

set_option maxHeartbeats 2000000 in
theorem Uf (v : Value) (n : Nt) (zq : Option Addr) (zs : List Int) (zc : Nat) (e0 : Ed) (i k : Nat) (nm : ByteArray) (x0 x1 x2 : Ed) (z : Int) (w : World) (hv : zE L w v n) (hz : zF L' w zq zs) (hG : zr n) (hf : zK n.pieces.length e0) (hst : zX n.joints e0 i k)
  (hji : ∃ h : i < n.joints.length, n.joints[i] = ⟨3, nm, [x0, x1, x2]⟩) (hzi : ∃ h : i < zs.length, zs[i] = z) (hz0 : (z == 0) = false) (hk0 : ((k : Int) == 0) = false) (hkz : z = (k : Int)) :
  Calls Tryz.prog 68 #[v, .slice zq zs.length zc, .agg #[.int .i64 e0.piece, .int .i64 e0.side]] w fun e w' =>
   e = .returned (.tuple #[.agg #[.int .i64 x0.piece, .int .i64 x0.side], .int .i64 0, .int .i64 i]) /\ Below w.heap.size w w' := by
 have hvv := hv;obtain ⟨x, c, ca, cc, rfl, hp, hj⟩ := hv;obtain ⟨⟨h0, h1⟩, h2, h3⟩ := hf;obtain ⟨ep, es⟩ := e0;dsimp only at h0 h1 h2 h3 ⊢;obtain ⟨pn, rfl⟩ := Int.eq_ofNat_of_zero_le h0;have huse : ZZ n.joints pn es = 1 := hG.once pn (by omega) es (by omega);have HU := zd huse;have HST := zd hst;clear huse;go_enter Tryz.func68, Tryz.ntmps68;go_wp2_with fail;refine (xM _ n pn es _ (hvv.below ?_) (by have := hG.nj; omega) hG.ends ⟨_, _, za HST⟩).mono ?_
 ·exact bw0
 rintro e w1 ⟨i1, kk, rfl, hs1, hb1⟩;obtain ⟨rfl, rfl⟩ := zQ (za HU) (za HST) hs1;have hbw1 : Below w.heap.size w w1 := below_then bw0 hb1;have hBn : zg w1 w.heap.size [.slice x n.pieces.length ca, .slice c n.joints.length cc] := (((zf _ _ _).alloc _).alloc _).below hb1;have hBe : zg w1 (w.heap.size + 1) [.int .i64 pn, .int .i64 es] := ((zp _ _ _ (by simp)).alloc _).below hb1;have hBr : zg w1 (w.heap.size + 1 + 1) [.int .i64 0, .int .i64 0] := (zp _ _ _ (by simp)).below hb1;obtain ⟨hil, hij⟩ := hji;obtain ⟨hizl, hiz⟩ := hzi;have hK := hG.kind hil;obtain ⟨_, hkl, hke⟩ := hst;rw [hij] at hK;simp only [hij] at hkl hke;obtain ⟨jb, joff, ea, ec, rfl, hjb, c0, c1, c2, hes⟩ := hj.below hbw1 i hil;obtain ⟨zb, zoff, rfl, hzb, z0⟩ := hz.below hbw1 i hizl;rw [hij] at c0 c1 c2 hes;rw [hiz] at z0;have a1 := hBn.2.1 1 _ rfl;have e0 := hBe.2.1 0 _ rfl;have e1 := hBe.2.1 1 _ rfl;have r0 := hBr.2.1 0 _ rfl;have r1 := hBr.2.1 1 _ rfl;have rz := hBr.2.2;have rl := hBr.1;have el := hBe.1;have hjb2 := hjb.2;have hzb2 := hzb.2
 have hii : (i : Int) < (n.joints.length : Int) := by omega
 have hiiz : (i : Int) < (zs.length : Int) := by omega
 have hsz1 := hbw1.size;dsimp only at c0 c1 c2 hes hK hkl hke;clear hke;clear hij hiz HST hs1 hK;subst hkz
 have hac : ZP ⟨3, nm, [x0, x1, x2]⟩ k = [x0] := by
  have : k ≠ 0 := by simp at hk0; omega
  simp [ZP, this, Zv]
 have HAC := zd hac;clear hac;have hA : Below w1.heap.size w1 (w1.alloc (.cells #[.int .i64 3, .string nm, .slice ea [x0, x1, x2].length ec] 58)) := bw0;go_wp2_with fail;refine (xo ⟨3, nm, [x0, x1, x2]⟩ k ea ec _ (hes.below hA) ⟨⟨by simp, by simp⟩, by simp⟩ hkl).mono ?_;rintro e w2 ⟨⟨aa, acap, rfl, hea⟩, hb2⟩;rw [za HAC] at hea ⊢;obtain ⟨ab, aoff, rfl, hab, y0, y1⟩ := hea 0 (by simp)
 simp at y0 y1
 have hb2' := below_then hA hb2;have hbw2 := below_then hbw1 hb2';have hBr2 := hBr.below hb2';have r0' := hBr2.2.1 0 _ rfl;have r1' := hBr2.2.1 1 _ rfl;have rz' := hBr2.2.2;have rl' := hBr2.1;have hab2 := hab.2;have hsz2 := hbw2.size;simp only [List.length_cons, List.length_nil];go_wp2;refine bodyPost_ret (v := .tuple #[.agg #[.int .i64 x0.piece, .int .i64 x0.side], .int .i64 0, .int .i64 i]) (by simp [results, Tryz.results68, go_sem, r0', r1']) rfl ⟨rfl, (ZW hbw2)⟩
end Go.Proofs.YthdioeofdofleaaGreatDoor
