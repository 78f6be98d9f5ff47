import Derived.Test.YtbdggfpfpjijoaaGreatDoorMPlain3
import Derived.Test.YtbdggfpfpjijoaaGreatDoorMKt1
import Derived.Test.YtbdggfpfpjijoaaGreatDoorMEq
namespace Go.Proofs.YtbdggfpfpjijoaaGreatDoor
open Go.RowKit

def lastOf (s : St) : List St → St
  | [] => s
  | x :: r => lastOf x r
def tailOf (n : Nt) (t : Tr) : Sp :=
  ⟨(lastOf ⟨t.front.piece, t.front.way⟩ t.back).piece,
   if (lastOf ⟨t.front.piece, t.front.way⟩ t.back).way = -1 then lenOf n (lastOf ⟨t.front.piece, t.front.way⟩ t.back).piece - (behind n t.front - t.long + sumLen n t.back) else behind n t.front - t.long + sumLen n t.back,
   (lastOf ⟨t.front.piece, t.front.way⟩ t.back).way⟩

theorem backOk_steps {n : Nt} {long : Int} : ∀ {h : Int} {ah : St} {xs : List St}, BackOk n long h ah xs → ∀ x ∈ xs, StepOk n x := by
  intro h ah xs
  induction xs generalizing h ah with
  | nil => intro _ x hx; simp at hx
  | cons y r ih =>
    intro hb x hx
    simp only [BackOk] at hb
    rcases List.mem_cons.1 hx with rfl | hx
    · exact hb.1
    · exact ih hb.2.2.2 x hx

end Go.Proofs.YtbdggfpfpjijoaaGreatDoor

namespace Go.Proofs.YtbdggfpfpjijoaaGreatDoor
open Go.RowKit

def overEnd (e0 : Ed) (r : Ed × Int) : Ed := if r.2 = 0 then r.1 else e0

set_option maxRecDepth 100000 in
set_option maxHeartbeats 2000000 in
theorem l2over_plain (v : Value) (n : Nt) (zq : Option Addr) (zs : List Int) (zc : Nat) (e0 : Ed) (i k : Nat) (j : Jt) (z : Int) (w : World) {L L' : Nat} (hv : NetAt L w v n) (hz : IntsAt L' w zq zs) (hG : NetGood n) (hf : EdFits n.pieces.length e0) (hst : StandsAt n.joints e0 i k)
  (hji : ∃ h : i < n.joints.length, n.joints[i] = j) (hzi : ∃ h : i < zs.length, zs[i] = z) (hk3 : j.kind ≠ 3) :
  Calls Tryz.prog 98 #[v, .slice zq zs.length zc, .agg #[.int .i64 e0.piece, .int .i64 e0.side]] w fun e w' =>
   e = .returned (.tuple #[.agg #[.int .i64 (overEnd e0 (overJ j k z)).piece, .int .i64 (overEnd e0 (overJ j k z)).side], .int .i64 (overJ j k z).2, .int .i64 i]) ∧ Below w.heap.size w w' := by
 have hvv := hv
 obtain ⟨x, c, ca, cc, rfl, hp, hj⟩ := hv
 obtain ⟨⟨h0, h1⟩, h2, h3⟩ := hf
 obtain ⟨ep, es⟩ := e0
 dsimp only at h0 h1 h2 h3 ⊢
 obtain ⟨pn, rfl⟩ := Int.eq_ofNat_of_zero_le h0
 have huse : uses n.joints pn es = 1 := hG.once pn (by omega) es (by omega)
 have HU := hide huse
 have HST := hide hst
 clear huse
 go_enter Tryz.func98, Tryz.ntmps98
 go_wp2_with fail
 refine (l1at_any _ n pn es _ (hvv.below ?_) (by have := hG.nj; omega) hG.ends ⟨_, _, unhide HST⟩).mono ?_
 ·exact bw0
 rintro e w1 ⟨i1, kk, rfl, hs1, hb1⟩
 obtain ⟨rfl, rfl⟩ := stands_unique (unhide HU) (unhide HST) hs1
 have hbw1 : Below w.heap.size w w1 := below_then bw0 hb1
 have hBn : Boxed w1 w.heap.size [.slice x n.pieces.length ca, .slice c n.joints.length cc] := (((boxed_alloc _ _ _).alloc _).alloc _).below hb1
 have hBe : Boxed w1 (w.heap.size + 1) [.int .i64 pn, .int .i64 es] := ((boxedN _ _ _ (by simp)).alloc _).below hb1
 have hBr : Boxed w1 (w.heap.size + 1 + 1) [.int .i64 0, .int .i64 0] := (boxedN _ _ _ (by simp)).below hb1
 obtain ⟨hil, hij⟩ := hji
 obtain ⟨hizl, hiz⟩ := hzi
 have hK := hG.kind hil
 obtain ⟨_, hkl, hke⟩ := hst
 rw [hij] at hK
 simp only [hij] at hkl hke
 obtain ⟨jb, joff, ea, ec, rfl, hjb, c0, c1, c2, hes⟩ := hj.below hbw1 i hil
 obtain ⟨zb, zoff, rfl, hzb, z0⟩ := hz.below hbw1 i hizl
 rw [hij] at c0 c1 c2 hes
 rw [hiz] at z0
 have a1 := hBn.2.1 1 _ rfl
 have e0 := hBe.2.1 0 _ rfl
 have e1 := hBe.2.1 1 _ rfl
 have r0 := hBr.2.1 0 _ rfl
 have r1 := hBr.2.1 1 _ rfl
 have rz := hBr.2.2
 have rl := hBr.1
 have el := hBe.1
 have hjb2 := hjb.2
 have hzb2 := hzb.2
 have hii : (i : Int) < (n.joints.length : Int) := by omega
 have hiiz : (i : Int) < (zs.length : Int) := by omega
 have hsz1 := hbw1.size
 obtain ⟨kd, nm, ends⟩ := j
 dsimp only at c0 c1 c2 hes hk3 hK hkl hke
 clear hke
 clear hij hiz HST hs1
 obtain ⟨⟨hk1, hk4⟩, hlen⟩ := hK
 have h4 : kd = 1 ∨ kd = 2 ∨ kd = 3 ∨ kd = 4 := by omega
 rcases h4 with rfl | rfl | rfl | rfl
 ·have HO : Hid (overJ ⟨1, nm, ends⟩ k z = (⟨0, 0⟩, 1)) := by unfold Hid overJ; simp
  go_wp2
  refine bodyPost_ret (v := .tuple #[.agg #[.int .i64 pn, .int .i64 es], .int .i64 1, .int .i64 i]) (by simp [results, Tryz.results98, go_sem, r0, r1, rl]) rfl ⟨by rw [unhide HO]; rfl, (bw1 hbw1)⟩
 ·have HO : Hid (overJ ⟨2, nm, ends⟩ k z = (endOf ⟨2, nm, ends⟩ (1 - k), 0)) := by unfold Hid overJ; simp
  have hac : across ⟨2, nm, ends⟩ k = [endOf ⟨2, nm, ends⟩ (1 - k)] := by simp [across]
  have HAC := hide hac
  clear hac
  have hA : Below w1.heap.size w1 (w1.alloc (.cells #[.int .i64 2, .string nm, .slice ea ends.length ec] 76)) := bw0
  go_wp2_with fail
  refine (l1across_any ⟨2, nm, ends⟩ k ea ec _ (hes.below hA) ⟨⟨by omega, by omega⟩, hlen⟩ hkl).mono ?_
  rintro e w2 ⟨⟨aa, acap, rfl, hea⟩, hb2⟩
  rw [unhide HAC] at hea ⊢
  obtain ⟨ab, aoff, rfl, hab, y0, y1⟩ := hea 0 (by simp)
  simp at y0 y1
  have hb2' := below_then hA hb2
  have hbw2 := below_then hbw1 hb2'
  have hBr2 := hBr.below hb2'
  have r0' := hBr2.2.1 0 _ rfl
  have r1' := hBr2.2.1 1 _ rfl
  have rz' := hBr2.2.2
  have rl' := hBr2.1
  have hab2 := hab.2
  have hsz2 := hbw2.size
  generalize endOf ⟨2, nm, ends⟩ (1 - k) = tgt at *
  simp only [List.length_cons, List.length_nil]
  go_wp2
  refine bodyPost_ret (v := .tuple #[.agg #[.int .i64 tgt.piece, .int .i64 tgt.side], .int .i64 0, .int .i64 i]) (by simp [results, Tryz.results98, go_sem, r0', r1']) rfl ⟨by rw [unhide HO]; rfl, (bw1 hbw2)⟩
 ·exact absurd rfl hk3
 ·have HO : Hid (overJ ⟨4, nm, ends⟩ k z = (endOf ⟨4, nm, ends⟩ (if k = 0 then 1 else if k = 1 then 0 else if k = 2 then 3 else 2), 0)) := by unfold Hid overJ; simp
  have hac : across ⟨4, nm, ends⟩ k = [endOf ⟨4, nm, ends⟩ (if k = 0 then 1 else if k = 1 then 0 else if k = 2 then 3 else 2)] := by simp [across]
  have HAC := hide hac
  clear hac
  have hA : Below w1.heap.size w1 (w1.alloc (.cells #[.int .i64 4, .string nm, .slice ea ends.length ec] 76)) := bw0
  go_wp2_with fail
  refine (l1across_any ⟨4, nm, ends⟩ k ea ec _ (hes.below hA) ⟨⟨by omega, by omega⟩, hlen⟩ hkl).mono ?_
  rintro e w2 ⟨⟨aa, acap, rfl, hea⟩, hb2⟩
  rw [unhide HAC] at hea ⊢
  obtain ⟨ab, aoff, rfl, hab, y0, y1⟩ := hea 0 (by simp)
  simp at y0 y1
  have hb2' := below_then hA hb2
  have hbw2 := below_then hbw1 hb2'
  have hBr2 := hBr.below hb2'
  have r0' := hBr2.2.1 0 _ rfl
  have r1' := hBr2.2.1 1 _ rfl
  have rz' := hBr2.2.2
  have rl' := hBr2.1
  have hab2 := hab.2
  have hsz2 := hbw2.size
  generalize endOf ⟨4, nm, ends⟩ (if k = 0 then 1 else if k = 1 then 0 else if k = 2 then 3 else 2) = tgt at *
  simp only [List.length_cons, List.length_nil]
  go_wp2
  refine bodyPost_ret (v := .tuple #[.agg #[.int .i64 tgt.piece, .int .i64 tgt.side], .int .i64 0, .int .i64 i]) (by simp [results, Tryz.results98, go_sem, r0', r1']) rfl ⟨by rw [unhide HO]; rfl, (bw1 hbw2)⟩

end Go.Proofs.YtbdggfpfpjijoaaGreatDoor

namespace Go.Proofs.YtbdggfpfpjijoaaGreatDoor
open Go.RowKit

set_option maxRecDepth 100000 in
set_option maxHeartbeats 2000000 in
theorem l2over_sw0 (v : Value) (n : Nt) (zq : Option Addr) (zs : List Int) (zc : Nat) (e0 : Ed) (i k : Nat) (nm : ByteArray) (x0 x1 x2 : Ed) (z : Int) (w : World) {L L' : Nat} (hv : NetAt L w v n) (hz : IntsAt L' w zq zs) (hG : NetGood n) (hf : EdFits n.pieces.length e0) (hst : StandsAt n.joints e0 i k)
  (hji : ∃ h : i < n.joints.length, n.joints[i] = ⟨3, nm, [x0, x1, x2]⟩) (hzi : ∃ h : i < zs.length, zs[i] = z) (hz0 : z = 0) :
  Calls Tryz.prog 98 #[v, .slice zq zs.length zc, .agg #[.int .i64 e0.piece, .int .i64 e0.side]] w fun e w' =>
   e = .returned (.tuple #[.agg #[.int .i64 e0.piece, .int .i64 e0.side], .int .i64 2, .int .i64 i]) ∧ Below w.heap.size w w' := by
 have hvv := hv
 obtain ⟨x, c, ca, cc, rfl, hp, hj⟩ := hv
 obtain ⟨⟨h0, h1⟩, h2, h3⟩ := hf
 obtain ⟨ep, es⟩ := e0
 dsimp only at h0 h1 h2 h3 ⊢
 obtain ⟨pn, rfl⟩ := Int.eq_ofNat_of_zero_le h0
 have huse : uses n.joints pn es = 1 := hG.once pn (by omega) es (by omega)
 have HU := hide huse
 have HST := hide hst
 clear huse
 go_enter Tryz.func98, Tryz.ntmps98
 go_wp2_with fail
 refine (l1at_any _ n pn es _ (hvv.below ?_) (by have := hG.nj; omega) hG.ends ⟨_, _, unhide HST⟩).mono ?_
 ·exact bw0
 rintro e w1 ⟨i1, kk, rfl, hs1, hb1⟩
 obtain ⟨rfl, rfl⟩ := stands_unique (unhide HU) (unhide HST) hs1
 have hbw1 : Below w.heap.size w w1 := below_then bw0 hb1
 have hBn : Boxed w1 w.heap.size [.slice x n.pieces.length ca, .slice c n.joints.length cc] := (((boxed_alloc _ _ _).alloc _).alloc _).below hb1
 have hBe : Boxed w1 (w.heap.size + 1) [.int .i64 pn, .int .i64 es] := ((boxedN _ _ _ (by simp)).alloc _).below hb1
 have hBr : Boxed w1 (w.heap.size + 1 + 1) [.int .i64 0, .int .i64 0] := (boxedN _ _ _ (by simp)).below hb1
 obtain ⟨hil, hij⟩ := hji
 obtain ⟨hizl, hiz⟩ := hzi
 have hK := hG.kind hil
 obtain ⟨_, hkl, hke⟩ := hst
 rw [hij] at hK
 simp only [hij] at hkl hke
 obtain ⟨jb, joff, ea, ec, rfl, hjb, c0, c1, c2, hes⟩ := hj.below hbw1 i hil
 obtain ⟨zb, zoff, rfl, hzb, z0⟩ := hz.below hbw1 i hizl
 rw [hij] at c0 c1 c2 hes
 rw [hiz] at z0
 have a1 := hBn.2.1 1 _ rfl
 have e0 := hBe.2.1 0 _ rfl
 have e1 := hBe.2.1 1 _ rfl
 have r0 := hBr.2.1 0 _ rfl
 have r1 := hBr.2.1 1 _ rfl
 have rz := hBr.2.2
 have rl := hBr.1
 have el := hBe.1
 have hjb2 := hjb.2
 have hzb2 := hzb.2
 have hii : (i : Int) < (n.joints.length : Int) := by omega
 have hiiz : (i : Int) < (zs.length : Int) := by omega
 have hsz1 := hbw1.size
 dsimp only at c0 c1 c2 hes hK hkl hke
 clear hke
 clear hij hiz HST hs1 hK
 subst hz0
 go_wp2
 refine bodyPost_ret (v := .tuple #[.agg #[.int .i64 pn, .int .i64 es], .int .i64 2, .int .i64 i]) (by simp [results, Tryz.results98, go_sem, r0, r1, rl]) rfl ⟨rfl, (bw1 hbw1)⟩

set_option maxRecDepth 100000 in
set_option maxHeartbeats 2000000 in
theorem l2over_tip1 (v : Value) (n : Nt) (zq : Option Addr) (zs : List Int) (zc : Nat) (e0 : Ed) (i : Nat) (nm : ByteArray) (x0 x1 x2 : Ed) (z : Int) (w : World) {L L' : Nat} (hv : NetAt L w v n) (hz : IntsAt L' w zq zs) (hG : NetGood n) (hf : EdFits n.pieces.length e0) (hst : StandsAt n.joints e0 i 0)
  (hji : ∃ h : i < n.joints.length, n.joints[i] = ⟨3, nm, [x0, x1, x2]⟩) (hzi : ∃ h : i < zs.length, zs[i] = z) (hz0 : z = 1) :
  Calls Tryz.prog 98 #[v, .slice zq zs.length zc, .agg #[.int .i64 e0.piece, .int .i64 e0.side]] w fun e w' =>
   e = .returned (.tuple #[.agg #[.int .i64 x1.piece, .int .i64 x1.side], .int .i64 0, .int .i64 i]) ∧ Below w.heap.size w w' := by
 have hvv := hv
 obtain ⟨x, c, ca, cc, rfl, hp, hj⟩ := hv
 obtain ⟨⟨h0, h1⟩, h2, h3⟩ := hf
 obtain ⟨ep, es⟩ := e0
 dsimp only at h0 h1 h2 h3 ⊢
 obtain ⟨pn, rfl⟩ := Int.eq_ofNat_of_zero_le h0
 have huse : uses n.joints pn es = 1 := hG.once pn (by omega) es (by omega)
 have HU := hide huse
 have HST := hide hst
 clear huse
 go_enter Tryz.func98, Tryz.ntmps98
 go_wp2_with fail
 refine (l1at_any _ n pn es _ (hvv.below ?_) (by have := hG.nj; omega) hG.ends ⟨_, _, unhide HST⟩).mono ?_
 ·exact bw0
 rintro e w1 ⟨i1, kk, rfl, hs1, hb1⟩
 obtain ⟨rfl, rfl⟩ := stands_unique (unhide HU) (unhide HST) hs1
 have hbw1 : Below w.heap.size w w1 := below_then bw0 hb1
 have hBn : Boxed w1 w.heap.size [.slice x n.pieces.length ca, .slice c n.joints.length cc] := (((boxed_alloc _ _ _).alloc _).alloc _).below hb1
 have hBe : Boxed w1 (w.heap.size + 1) [.int .i64 pn, .int .i64 es] := ((boxedN _ _ _ (by simp)).alloc _).below hb1
 have hBr : Boxed w1 (w.heap.size + 1 + 1) [.int .i64 0, .int .i64 0] := (boxedN _ _ _ (by simp)).below hb1
 obtain ⟨hil, hij⟩ := hji
 obtain ⟨hizl, hiz⟩ := hzi
 have hK := hG.kind hil
 obtain ⟨_, hkl, hke⟩ := hst
 rw [hij] at hK
 simp only [hij] at hkl hke
 obtain ⟨jb, joff, ea, ec, rfl, hjb, c0, c1, c2, hes⟩ := hj.below hbw1 i hil
 obtain ⟨zb, zoff, rfl, hzb, z0⟩ := hz.below hbw1 i hizl
 rw [hij] at c0 c1 c2 hes
 rw [hiz] at z0
 have a1 := hBn.2.1 1 _ rfl
 have e0 := hBe.2.1 0 _ rfl
 have e1 := hBe.2.1 1 _ rfl
 have r0 := hBr.2.1 0 _ rfl
 have r1 := hBr.2.1 1 _ rfl
 have rz := hBr.2.2
 have rl := hBr.1
 have el := hBe.1
 have hjb2 := hjb.2
 have hzb2 := hzb.2
 have hii : (i : Int) < (n.joints.length : Int) := by omega
 have hiiz : (i : Int) < (zs.length : Int) := by omega
 have hsz1 := hbw1.size
 dsimp only at c0 c1 c2 hes hK hkl hke
 clear hke
 clear hij hiz HST hs1 hK
 subst hz0
 obtain ⟨eb, eoff, rfl, heb, y0, y1⟩ := hes 1 (by simp)
 simp at y0 y1
 have heb2 := heb.2
 go_wp2_with fail
 go_region
 all_goals go_wp2
 refine bodyPost_ret (v := .tuple #[.agg #[.int .i64 x1.piece, .int .i64 x1.side], .int .i64 0, .int .i64 i]) (by simp [results, Tryz.results98, go_sem, r0, r1, rl]) rfl ⟨rfl, (bw1 hbw1)⟩

set_option maxRecDepth 100000 in
set_option maxHeartbeats 2000000 in
theorem l2over_tip2 (v : Value) (n : Nt) (zq : Option Addr) (zs : List Int) (zc : Nat) (e0 : Ed) (i : Nat) (nm : ByteArray) (x0 x1 x2 : Ed) (z : Int) (w : World) {L L' : Nat} (hv : NetAt L w v n) (hz : IntsAt L' w zq zs) (hG : NetGood n) (hf : EdFits n.pieces.length e0) (hst : StandsAt n.joints e0 i 0)
  (hji : ∃ h : i < n.joints.length, n.joints[i] = ⟨3, nm, [x0, x1, x2]⟩) (hzi : ∃ h : i < zs.length, zs[i] = z) (hz0 : z = 2) :
  Calls Tryz.prog 98 #[v, .slice zq zs.length zc, .agg #[.int .i64 e0.piece, .int .i64 e0.side]] w fun e w' =>
   e = .returned (.tuple #[.agg #[.int .i64 x2.piece, .int .i64 x2.side], .int .i64 0, .int .i64 i]) ∧ Below w.heap.size w w' := by
 have hvv := hv
 obtain ⟨x, c, ca, cc, rfl, hp, hj⟩ := hv
 obtain ⟨⟨h0, h1⟩, h2, h3⟩ := hf
 obtain ⟨ep, es⟩ := e0
 dsimp only at h0 h1 h2 h3 ⊢
 obtain ⟨pn, rfl⟩ := Int.eq_ofNat_of_zero_le h0
 have huse : uses n.joints pn es = 1 := hG.once pn (by omega) es (by omega)
 have HU := hide huse
 have HST := hide hst
 clear huse
 go_enter Tryz.func98, Tryz.ntmps98
 go_wp2_with fail
 refine (l1at_any _ n pn es _ (hvv.below ?_) (by have := hG.nj; omega) hG.ends ⟨_, _, unhide HST⟩).mono ?_
 ·exact bw0
 rintro e w1 ⟨i1, kk, rfl, hs1, hb1⟩
 obtain ⟨rfl, rfl⟩ := stands_unique (unhide HU) (unhide HST) hs1
 have hbw1 : Below w.heap.size w w1 := below_then bw0 hb1
 have hBn : Boxed w1 w.heap.size [.slice x n.pieces.length ca, .slice c n.joints.length cc] := (((boxed_alloc _ _ _).alloc _).alloc _).below hb1
 have hBe : Boxed w1 (w.heap.size + 1) [.int .i64 pn, .int .i64 es] := ((boxedN _ _ _ (by simp)).alloc _).below hb1
 have hBr : Boxed w1 (w.heap.size + 1 + 1) [.int .i64 0, .int .i64 0] := (boxedN _ _ _ (by simp)).below hb1
 obtain ⟨hil, hij⟩ := hji
 obtain ⟨hizl, hiz⟩ := hzi
 have hK := hG.kind hil
 obtain ⟨_, hkl, hke⟩ := hst
 rw [hij] at hK
 simp only [hij] at hkl hke
 obtain ⟨jb, joff, ea, ec, rfl, hjb, c0, c1, c2, hes⟩ := hj.below hbw1 i hil
 obtain ⟨zb, zoff, rfl, hzb, z0⟩ := hz.below hbw1 i hizl
 rw [hij] at c0 c1 c2 hes
 rw [hiz] at z0
 have a1 := hBn.2.1 1 _ rfl
 have e0 := hBe.2.1 0 _ rfl
 have e1 := hBe.2.1 1 _ rfl
 have r0 := hBr.2.1 0 _ rfl
 have r1 := hBr.2.1 1 _ rfl
 have rz := hBr.2.2
 have rl := hBr.1
 have el := hBe.1
 have hjb2 := hjb.2
 have hzb2 := hzb.2
 have hii : (i : Int) < (n.joints.length : Int) := by omega
 have hiiz : (i : Int) < (zs.length : Int) := by omega
 have hsz1 := hbw1.size
 dsimp only at c0 c1 c2 hes hK hkl hke
 clear hke
 clear hij hiz HST hs1 hK
 subst hz0
 obtain ⟨eb, eoff, rfl, heb, y0, y1⟩ := hes 2 (by simp)
 simp at y0 y1
 have heb2 := heb.2
 go_wp2_with fail
 go_region
 all_goals go_wp2
 refine bodyPost_ret (v := .tuple #[.agg #[.int .i64 x2.piece, .int .i64 x2.side], .int .i64 0, .int .i64 i]) (by simp [results, Tryz.results98, go_sem, r0, r1, rl]) rfl ⟨rfl, (bw1 hbw1)⟩

set_option maxRecDepth 100000 in
set_option maxHeartbeats 2000000 in
theorem l2over_other (v : Value) (n : Nt) (zq : Option Addr) (zs : List Int) (zc : Nat) (e0 : Ed) (i k : Nat) (nm : ByteArray) (x0 x1 x2 : Ed) (z : Int) (w : World) {L L' : Nat} (hv : NetAt L w v n) (hz : IntsAt L' w zq zs) (hG : NetGood n) (hf : EdFits n.pieces.length e0) (hst : StandsAt n.joints e0 i k)
  (hji : ∃ h : i < n.joints.length, n.joints[i] = ⟨3, nm, [x0, x1, x2]⟩) (hzi : ∃ h : i < zs.length, zs[i] = z) (hz0 : (z == 0) = false) (hk0 : ((k : Int) == 0) = false) (hkz : ((k : Int) == z) = false) :
  Calls Tryz.prog 98 #[v, .slice zq zs.length zc, .agg #[.int .i64 e0.piece, .int .i64 e0.side]] w fun e w' =>
   e = .returned (.tuple #[.agg #[.int .i64 e0.piece, .int .i64 e0.side], .int .i64 3, .int .i64 i]) ∧ Below w.heap.size w w' := by
 have hvv := hv
 obtain ⟨x, c, ca, cc, rfl, hp, hj⟩ := hv
 obtain ⟨⟨h0, h1⟩, h2, h3⟩ := hf
 obtain ⟨ep, es⟩ := e0
 dsimp only at h0 h1 h2 h3 ⊢
 obtain ⟨pn, rfl⟩ := Int.eq_ofNat_of_zero_le h0
 have huse : uses n.joints pn es = 1 := hG.once pn (by omega) es (by omega)
 have HU := hide huse
 have HST := hide hst
 clear huse
 go_enter Tryz.func98, Tryz.ntmps98
 go_wp2_with fail
 refine (l1at_any _ n pn es _ (hvv.below ?_) (by have := hG.nj; omega) hG.ends ⟨_, _, unhide HST⟩).mono ?_
 ·exact bw0
 rintro e w1 ⟨i1, kk, rfl, hs1, hb1⟩
 obtain ⟨rfl, rfl⟩ := stands_unique (unhide HU) (unhide HST) hs1
 have hbw1 : Below w.heap.size w w1 := below_then bw0 hb1
 have hBn : Boxed w1 w.heap.size [.slice x n.pieces.length ca, .slice c n.joints.length cc] := (((boxed_alloc _ _ _).alloc _).alloc _).below hb1
 have hBe : Boxed w1 (w.heap.size + 1) [.int .i64 pn, .int .i64 es] := ((boxedN _ _ _ (by simp)).alloc _).below hb1
 have hBr : Boxed w1 (w.heap.size + 1 + 1) [.int .i64 0, .int .i64 0] := (boxedN _ _ _ (by simp)).below hb1
 obtain ⟨hil, hij⟩ := hji
 obtain ⟨hizl, hiz⟩ := hzi
 have hK := hG.kind hil
 obtain ⟨_, hkl, hke⟩ := hst
 rw [hij] at hK
 simp only [hij] at hkl hke
 obtain ⟨jb, joff, ea, ec, rfl, hjb, c0, c1, c2, hes⟩ := hj.below hbw1 i hil
 obtain ⟨zb, zoff, rfl, hzb, z0⟩ := hz.below hbw1 i hizl
 rw [hij] at c0 c1 c2 hes
 rw [hiz] at z0
 have a1 := hBn.2.1 1 _ rfl
 have e0 := hBe.2.1 0 _ rfl
 have e1 := hBe.2.1 1 _ rfl
 have r0 := hBr.2.1 0 _ rfl
 have r1 := hBr.2.1 1 _ rfl
 have rz := hBr.2.2
 have rl := hBr.1
 have el := hBe.1
 have hjb2 := hjb.2
 have hzb2 := hzb.2
 have hii : (i : Int) < (n.joints.length : Int) := by omega
 have hiiz : (i : Int) < (zs.length : Int) := by omega
 have hsz1 := hbw1.size
 dsimp only at c0 c1 c2 hes hK hkl hke
 clear hke
 clear hij hiz HST hs1 hK
 go_wp2
 refine bodyPost_ret (v := .tuple #[.agg #[.int .i64 pn, .int .i64 es], .int .i64 3, .int .i64 i]) (by simp [results, Tryz.results98, go_sem, r0, r1, rl]) rfl ⟨rfl, (bw1 hbw1)⟩

set_option maxRecDepth 100000 in
set_option maxHeartbeats 2000000 in
theorem l2over_side (v : Value) (n : Nt) (zq : Option Addr) (zs : List Int) (zc : Nat) (e0 : Ed) (i k : Nat) (nm : ByteArray) (x0 x1 x2 : Ed) (z : Int) (w : World) {L L' : Nat} (hv : NetAt L w v n) (hz : IntsAt L' w zq zs) (hG : NetGood n) (hf : EdFits n.pieces.length e0) (hst : StandsAt n.joints e0 i k)
  (hji : ∃ h : i < n.joints.length, n.joints[i] = ⟨3, nm, [x0, x1, x2]⟩) (hzi : ∃ h : i < zs.length, zs[i] = z) (hz0 : (z == 0) = false) (hk0 : ((k : Int) == 0) = false) (hkz : z = (k : Int)) :
  Calls Tryz.prog 98 #[v, .slice zq zs.length zc, .agg #[.int .i64 e0.piece, .int .i64 e0.side]] w fun e w' =>
   e = .returned (.tuple #[.agg #[.int .i64 x0.piece, .int .i64 x0.side], .int .i64 0, .int .i64 i]) ∧ Below w.heap.size w w' := by
 have hvv := hv
 obtain ⟨x, c, ca, cc, rfl, hp, hj⟩ := hv
 obtain ⟨⟨h0, h1⟩, h2, h3⟩ := hf
 obtain ⟨ep, es⟩ := e0
 dsimp only at h0 h1 h2 h3 ⊢
 obtain ⟨pn, rfl⟩ := Int.eq_ofNat_of_zero_le h0
 have huse : uses n.joints pn es = 1 := hG.once pn (by omega) es (by omega)
 have HU := hide huse
 have HST := hide hst
 clear huse
 go_enter Tryz.func98, Tryz.ntmps98
 go_wp2_with fail
 refine (l1at_any _ n pn es _ (hvv.below ?_) (by have := hG.nj; omega) hG.ends ⟨_, _, unhide HST⟩).mono ?_
 ·exact bw0
 rintro e w1 ⟨i1, kk, rfl, hs1, hb1⟩
 obtain ⟨rfl, rfl⟩ := stands_unique (unhide HU) (unhide HST) hs1
 have hbw1 : Below w.heap.size w w1 := below_then bw0 hb1
 have hBn : Boxed w1 w.heap.size [.slice x n.pieces.length ca, .slice c n.joints.length cc] := (((boxed_alloc _ _ _).alloc _).alloc _).below hb1
 have hBe : Boxed w1 (w.heap.size + 1) [.int .i64 pn, .int .i64 es] := ((boxedN _ _ _ (by simp)).alloc _).below hb1
 have hBr : Boxed w1 (w.heap.size + 1 + 1) [.int .i64 0, .int .i64 0] := (boxedN _ _ _ (by simp)).below hb1
 obtain ⟨hil, hij⟩ := hji
 obtain ⟨hizl, hiz⟩ := hzi
 have hK := hG.kind hil
 obtain ⟨_, hkl, hke⟩ := hst
 rw [hij] at hK
 simp only [hij] at hkl hke
 obtain ⟨jb, joff, ea, ec, rfl, hjb, c0, c1, c2, hes⟩ := hj.below hbw1 i hil
 obtain ⟨zb, zoff, rfl, hzb, z0⟩ := hz.below hbw1 i hizl
 rw [hij] at c0 c1 c2 hes
 rw [hiz] at z0
 have a1 := hBn.2.1 1 _ rfl
 have e0 := hBe.2.1 0 _ rfl
 have e1 := hBe.2.1 1 _ rfl
 have r0 := hBr.2.1 0 _ rfl
 have r1 := hBr.2.1 1 _ rfl
 have rz := hBr.2.2
 have rl := hBr.1
 have el := hBe.1
 have hjb2 := hjb.2
 have hzb2 := hzb.2
 have hii : (i : Int) < (n.joints.length : Int) := by omega
 have hiiz : (i : Int) < (zs.length : Int) := by omega
 have hsz1 := hbw1.size
 dsimp only at c0 c1 c2 hes hK hkl hke
 clear hke
 clear hij hiz HST hs1 hK
 subst hkz
 have hac : across ⟨3, nm, [x0, x1, x2]⟩ k = [x0] := by
  have : k ≠ 0 := by simp at hk0; omega
  simp [across, this, endOf]
 have HAC := hide hac
 clear hac
 have hA : Below w1.heap.size w1 (w1.alloc (.cells #[.int .i64 3, .string nm, .slice ea [x0, x1, x2].length ec] 76)) := bw0
 go_wp2_with fail
 refine (l1across_any ⟨3, nm, [x0, x1, x2]⟩ k ea ec _ (hes.below hA) ⟨⟨by simp, by simp⟩, by simp⟩ hkl).mono ?_
 rintro e w2 ⟨⟨aa, acap, rfl, hea⟩, hb2⟩
 rw [unhide HAC] at hea ⊢
 obtain ⟨ab, aoff, rfl, hab, y0, y1⟩ := hea 0 (by simp)
 simp at y0 y1
 have hb2' := below_then hA hb2
 have hbw2 := below_then hbw1 hb2'
 have hBr2 := hBr.below hb2'
 have r0' := hBr2.2.1 0 _ rfl
 have r1' := hBr2.2.1 1 _ rfl
 have rz' := hBr2.2.2
 have rl' := hBr2.1
 have hab2 := hab.2
 have hsz2 := hbw2.size
 simp only [List.length_cons, List.length_nil]
 go_wp2
 refine bodyPost_ret (v := .tuple #[.agg #[.int .i64 x0.piece, .int .i64 x0.side], .int .i64 0, .int .i64 i]) (by simp [results, Tryz.results98, go_sem, r0', r1']) rfl ⟨rfl, (bw1 hbw2)⟩

end Go.Proofs.YtbdggfpfpjijoaaGreatDoor

