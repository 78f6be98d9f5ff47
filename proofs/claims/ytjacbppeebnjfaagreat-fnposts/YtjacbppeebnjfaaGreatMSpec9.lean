import Derived.Test.YtjacbppeebnjfaaGreatMPlain3
import Derived.Test.YtjacbppeebnjfaaGreatMKt1
import Derived.Test.YtjacbppeebnjfaaGreatMEq
namespace Go.Proofs.YtjacbppeebnjfaaGreat
open Go.RowKit

def lastOf (s : St) : List St → St
  | [] => s
  | x :: r => lastOf x r
theorem lastOf_take (s : St) (xs : List St) (k : Nat) (h : k < xs.length) : lastOf s (xs.take (k + 1)) = xs[k] := by
  induction xs generalizing s k with
  | nil => simp at h
  | cons x r ih =>
    cases k with
    | zero => simp [lastOf]
    | succ k => simpa [lastOf] using ih x k (by simpa using h)

def tailOf (n : Nt) (t : Tr) : Sp :=
  ⟨(lastOf ⟨t.front.piece, t.front.way⟩ t.back).piece,
   if (lastOf ⟨t.front.piece, t.front.way⟩ t.back).way = -1 then lenOf n (lastOf ⟨t.front.piece, t.front.way⟩ t.back).piece - (behind n t.front - t.long + sumLen n t.back) else behind n t.front - t.long + sumLen n t.back,
   (lastOf ⟨t.front.piece, t.front.way⟩ t.back).way⟩

theorem lastOf_ok {n : Nt} {s : St} {xs : List St} (h : StepOk n s) (hx : ∀ x ∈ xs, StepOk n x) : StepOk n (lastOf s xs) := by
  induction xs generalizing s with
  | nil => exact h
  | cons x r ih => exact ih (hx x (by simp)) (fun y hy => hx y (by simp [hy]))

theorem backOk_steps {n : Nt} {long : Int} : ∀ {h : Int} {ah : St} {xs : List St}, BackOk n long h ah xs → ∀ x ∈ xs, StepOk n x := by
  intro h ah xs
  induction xs generalizing h ah with
  | nil => intro _ x hx; simp at hx
  | cons y r ih =>
    intro hb x hx
    simp only [BackOk] at hb
    rcases List.mem_cons.1 hx with rfl | hx
    · exact hb.1
    · exact ih hb.2.2.2 x hx

theorem sumLen_take (n : Nt) (xs : List St) (k : Nat) (h : k < xs.length) : sumLen n (xs.take (k + 1)) = sumLen n (xs.take k) + lenOf n xs[k].piece := by
  rw [List.take_succ_eq_append_getElem h, sumLen_append, sumLen_cons, sumLen_nil]
  omega

set_option maxRecDepth 100000 in
set_option maxHeartbeats 4000000 in
theorem l2tail_any (v tv : Value) (n : Nt) (t : Tr) (w : World) {L L' : Nat} (hv : NetAt L w v n) (htv : TrAt L' w tv t) (hG : NetGood n) (hF : TrainFits n t) :
    Calls Tryz.prog 66 #[v, tv] w fun e w' => e = .returned (.agg #[.int .i64 (tailOf n t).piece, .int .i64 (tailOf n t).at_, .int .i64 (tailOf n t).way]) ∧ Below w.heap.size w w' := by
  have hvv := hv
  obtain ⟨x, c, ca, cc, rfl, hp, hj⟩ := hv
  obtain ⟨ba, bc, rfl, hst⟩ := htv
  obtain ⟨⟨fp, fa, fy⟩, long, back⟩ := t
  obtain ⟨hS, hlong, h200, hback⟩ := hF
  dsimp only at hst hlong h200 hback hS ⊢
  have hsteps := backOk_steps hback
  have hlen := hG.len hS.1.1 hS.1.2
  dsimp only at hlen
  have hbeh : 0 ≤ behind n ⟨fp, fa, fy⟩ ∧ behind n ⟨fp, fa, fy⟩ ≤ 10000000 := by
    have h3 := hS.2.2
    dsimp only at h3
    unfold behind room
    split <;> dsimp only <;> omega
  have HST := hide hsteps
  have HS := hide hS
  clear hsteps hback
  go_enter Tryz.func66, Tryz.ntmps66
  go_wp2_with fail
  refine (l2behind_any _ n ⟨fp, fa, fy⟩ _ (hvv.below ?_) hS hlen.2).mono ?_
  · exact bw0
  rintro e w1 ⟨rfl, hb1⟩
  have hbw1 : Below w.heap.size w w1 := below_then bw0 hb1
  have hBn1 : Boxed w1 w.heap.size [.slice x n.pieces.length ca, .slice c n.joints.length cc] := (((boxed_alloc _ _ _).alloc _).alloc _).below hb1
  have hBt1 : Boxed w1 (w.heap.size + 1) [.int .i64 fp, .int .i64 fa, .int .i64 fy, .int .i64 long, .slice ba back.length bc] := ((boxedN _ _ _ (by simp)).alloc _).below hb1
  have hBr1 : Boxed w1 (w.heap.size + 1 + 1) [.int .i64 0, .int .i64 0, .int .i64 0] := (boxedN _ _ _ (by simp)).below hb1
  have b0 := hBt1.2.1 0 _ rfl
  have b2 := hBt1.2.1 2 _ rfl
  have b4 := hBt1.2.1 4 _ rfl
  have n1 := hBt1.1
  have hBn1s := hBn1.1
  have hBr1s := hBr1.1
  clear hS
  go_wp2_with fail
  go_loopw [5, 6, 27] (fun l y z wr => ∃ (k : Nat) (left al : Int), k ≤ back.length ∧ l = .int .i64 left ∧ y = .int .i64 al ∧ z = .int .i64 k ∧ al - left = behind n ⟨fp, fa, fy⟩ - long + sumLen n (back.take k) ∧ (0 ≤ al ∧ al ≤ 10000000) ∧ (-(10000000 * (k : Int)) ≤ left ∧ left ≤ 100000)
      ∧ Boxed wr w.heap.size [.slice x n.pieces.length ca, .slice c n.joints.length cc] ∧ Boxed wr (w.heap.size + 1 + 1) [.int .i64 0, .int .i64 0, .int .i64 0]
      ∧ Boxed wr w1.heap.size [.int .i64 (lastOf ⟨fp, fy⟩ (back.take k)).piece, .int .i64 (lastOf ⟨fp, fy⟩ (back.take k)).way] ∧ Below w.heap.size w wr) (fun _ _ z _ => back.length - (intOf z).toNat)
  case atStart => exact ⟨0, _, _, Nat.zero_le _, rfl, rfl, rfl, by simp [sumLen_nil], hbeh, by omega, hBn1.alloc _, hBr1.alloc _, boxed_alloc _ _ _, below_then hbw1 bw0⟩
  case round =>
    clear b0 b2 b4 hBn1 hBt1 hBr1
    obtain ⟨k, left, al, hk, rfl, rfl, rfl, hsum, hal, hleft, hBn, hBr, hBa, hb⟩ := hrel
    have HSUM := hide hsum
    clear hsum
    have a0 := hBn.2.1 0 _ rfl
    have d0 := hBa.2.1 0 _ rfl
    have d1 := hBa.2.1 1 _ rfl
    have dz := hBa.2.2
    have nn := hBn.1
    have na := hBa.1
    have hsz1 := hbw1.size
    by_cases hlt : k < back.length
    · obtain ⟨sb, soff, rfl, hsb, s0, s1⟩ := hst.below hb k hlt
      have hok := unhide HST back[k] (List.getElem_mem hlt)
      have hlast := lastOf_take ⟨fp, fy⟩ back k hlt
      have hsl := sumLen_take n back k hlt
      generalize hx : back[k] = sk at *
      obtain ⟨sp, sy⟩ := sk
      dsimp only at s0 s1 hsl
      obtain ⟨⟨h0, h1⟩, _⟩ := hok
      dsimp only at h0 h1
      obtain ⟨spn, rfl⟩ := Int.eq_ofNat_of_zero_le h0
      obtain ⟨pb, poff, rfl, hpb, c1w⟩ := hp.len h0 h1
      have c1 := (hb.cell hpb).trans c1w
      have hpb2 : pb < wr.heap.size := by have := hb.size; omega
      have ne1 : ¬ pb = w1.heap.size := by omega
      have ne2 : ¬ w.heap.size = w1.heap.size := by have := hBn1s; omega
      have ne3 : ¬ wr.heap.size = w1.heap.size := by omega
      have hls := hG.len h0 h1
      simp only [Int.toNat_natCast] at c1
      have HX := hide hx
      have HLAST := hide hlast
      have HSL := hide hsl
      clear hx hlast hsl
      go_wp2
      refine ⟨⟨k + 1, left - al, lenOf n spn, by omega, rfl, rfl, by go_num, ?_, by omega, ⟨by omega, by omega⟩, ?_, ?_, ?_, ?_⟩, by simp [intOf]; omega⟩
      · rw [unhide HSL]; have := unhide HSUM; omega
      · exact ((hBn.apart (p := ⟨w1.heap.size, 0, none⟩) (show w.heap.size ≠ w1.heap.size by omega) _).apart (p := ⟨w1.heap.size, 1, none⟩) (show w.heap.size ≠ w1.heap.size by omega) _).alloc _
      · exact ((hBr.apart (p := ⟨w1.heap.size, 0, none⟩) (show w.heap.size + 1 + 1 ≠ w1.heap.size by have := hBr1s; omega) _).apart (p := ⟨w1.heap.size, 1, none⟩) (show w.heap.size + 1 + 1 ≠ w1.heap.size by have := hBr1s; omega) _).alloc _
      · rw [unhide HLAST]
        exact (hBa.set2 _ _).alloc _
      · exact (bw1 hb)
    · have hkl : k = back.length := by omega
      subst hkl
      have hsum := unhide HSUM
      rw [List.take_of_length_le (Nat.le_refl _)] at hsum d0 d1
      have hlok : StepOk n (lastOf ⟨fp, fy⟩ back) := lastOf_ok ⟨(unhide HS).1, (unhide HS).2.1⟩ (unhide HST)
      have HT : Hid (tailOf n ⟨⟨fp, fa, fy⟩, long, back⟩ = ⟨(lastOf ⟨fp, fy⟩ back).piece, if (lastOf ⟨fp, fy⟩ back).way = -1 then lenOf n (lastOf ⟨fp, fy⟩ back).piece - (al - left) else al - left, (lastOf ⟨fp, fy⟩ back).way⟩) := by
        unfold Hid tailOf
        dsimp only
        rw [hsum]
      clear hsum HSUM hBa
      generalize lastOf ⟨fp, fy⟩ back = last at *
      obtain ⟨lp, ly⟩ := last
      obtain ⟨⟨h0, h1⟩, hy⟩ := hlok
      dsimp only at h0 h1 hy d0 d1
      obtain ⟨pn, rfl⟩ := Int.eq_ofNat_of_zero_le h0
      obtain ⟨pb, poff, rfl, hpb, c1w⟩ := hp.len h0 h1
      have c1 := (hb.cell hpb).trans c1w
      have hpb2 : pb < wr.heap.size := by have := hb.size; omega
      have hls := hG.len h0 h1
      simp only [Int.toNat_natCast] at c1
      have r0 := hBr.2.1 0 _ rfl
      have r1 := hBr.2.1 1 _ rfl
      have r2 := hBr.2.1 2 _ rfl
      have rz := hBr.2.2
      have rl := hBr.1
      have hszw := hb.size
      rcases hy with rfl | rfl
      · go_wp2
        refine bodyPost_ret (v := .agg #[.int .i64 pn, .int .i64 (al - left), .int .i64 1]) (by simp [results, Tryz.results66, go_sem, r0, r1, r2, rl]) rfl ⟨?_, (bw1 hb)⟩
        rw [unhide HT]
        simp
      · have hwr := wrap_small (x := lenOf n pn - (al - left)) (by omega) (by omega)
        go_wp2_with fail
        go_region
        go_wp2
        refine bodyPost_ret (v := .agg #[.int .i64 pn, .int .i64 (lenOf n pn - (al - left)), .int .i64 (-1)]) (by simp [results, Tryz.results66, go_sem, r0, r1, r2, rl]) rfl ⟨?_, (bw1 hb)⟩
        rw [unhide HT]
        simp

end Go.Proofs.YtjacbppeebnjfaaGreat

namespace Go.Proofs.YtjacbppeebnjfaaGreat
open Go.RowKit

def overEnd (e0 : Ed) (r : Ed × Int) : Ed := if r.2 = 0 then r.1 else e0

set_option maxRecDepth 100000 in
set_option maxHeartbeats 2000000 in
theorem l2over_plain (v : Value) (n : Nt) (zq : Option Addr) (zs : List Int) (zc : Nat) (e0 : Ed) (i k : Nat) (j : Jt) (z : Int) (w : World) {L L' : Nat} (hv : NetAt L w v n) (hz : IntsAt L' w zq zs) (hG : NetGood n) (hf : EdFits n.pieces.length e0) (hst : StandsAt n.joints e0 i k)
  (hji : ∃ h : i < n.joints.length, n.joints[i] = j) (hzi : ∃ h : i < zs.length, zs[i] = z) (hk3 : j.kind ≠ 3) :
  Calls Tryz.prog 60 #[v, .slice zq zs.length zc, .agg #[.int .i64 e0.piece, .int .i64 e0.side]] w fun e w' =>
   e = .returned (.tuple #[.agg #[.int .i64 (overEnd e0 (overJ j k z)).piece, .int .i64 (overEnd e0 (overJ j k z)).side], .int .i64 (overJ j k z).2, .int .i64 i]) ∧ Below w.heap.size w w' := by
 have hvv := hv
 obtain ⟨x, c, ca, cc, rfl, hp, hj⟩ := hv
 obtain ⟨⟨h0, h1⟩, h2, h3⟩ := hf
 obtain ⟨ep, es⟩ := e0
 dsimp only at h0 h1 h2 h3 ⊢
 obtain ⟨pn, rfl⟩ := Int.eq_ofNat_of_zero_le h0
 have huse : uses n.joints pn es = 1 := hG.once pn (by omega) es (by omega)
 have HU := hide huse
 have HST := hide hst
 clear huse
 go_enter Tryz.func60, Tryz.ntmps60
 go_wp2_with fail
 refine (l1at_any _ n pn es _ (hvv.below ?_) (by have := hG.nj; omega) hG.ends ⟨_, _, unhide HST⟩).mono ?_
 ·exact bw0
 rintro e w1 ⟨i1, kk, rfl, hs1, hb1⟩
 obtain ⟨rfl, rfl⟩ := stands_unique (unhide HU) (unhide HST) hs1
 have hbw1 : Below w.heap.size w w1 := below_then bw0 hb1
 have hBn : Boxed w1 w.heap.size [.slice x n.pieces.length ca, .slice c n.joints.length cc] := (((boxed_alloc _ _ _).alloc _).alloc _).below hb1
 have hBe : Boxed w1 (w.heap.size + 1) [.int .i64 pn, .int .i64 es] := ((boxedN _ _ _ (by simp)).alloc _).below hb1
 have hBr : Boxed w1 (w.heap.size + 1 + 1) [.int .i64 0, .int .i64 0] := (boxedN _ _ _ (by simp)).below hb1
 obtain ⟨hil, hij⟩ := hji
 obtain ⟨hizl, hiz⟩ := hzi
 have hK := hG.kind hil
 obtain ⟨_, hkl, hke⟩ := hst
 rw [hij] at hK
 simp only [hij] at hkl hke
 obtain ⟨jb, joff, ea, ec, rfl, hjb, c0, c1, c2, hes⟩ := hj.below hbw1 i hil
 obtain ⟨zb, zoff, rfl, hzb, z0⟩ := hz.below hbw1 i hizl
 rw [hij] at c0 c1 c2 hes
 rw [hiz] at z0
 have a1 := hBn.2.1 1 _ rfl
 have e0 := hBe.2.1 0 _ rfl
 have e1 := hBe.2.1 1 _ rfl
 have r0 := hBr.2.1 0 _ rfl
 have r1 := hBr.2.1 1 _ rfl
 have rz := hBr.2.2
 have rl := hBr.1
 have el := hBe.1
 have hjb2 := hjb.2
 have hzb2 := hzb.2
 have hii : (i : Int) < (n.joints.length : Int) := by omega
 have hiiz : (i : Int) < (zs.length : Int) := by omega
 have hsz1 := hbw1.size
 obtain ⟨kd, nm, ends⟩ := j
 dsimp only at c0 c1 c2 hes hk3 hK hkl hke
 clear hke
 clear hij hiz HST hs1
 obtain ⟨⟨hk1, hk4⟩, hlen⟩ := hK
 have h4 : kd = 1 ∨ kd = 2 ∨ kd = 3 ∨ kd = 4 := by omega
 rcases h4 with rfl | rfl | rfl | rfl
 ·have HO : Hid (overJ ⟨1, nm, ends⟩ k z = (⟨0, 0⟩, 1)) := by unfold Hid overJ; simp
  go_wp2
  refine bodyPost_ret (v := .tuple #[.agg #[.int .i64 pn, .int .i64 es], .int .i64 1, .int .i64 i]) (by simp [results, Tryz.results60, go_sem, r0, r1, rl]) rfl ⟨by rw [unhide HO]; rfl, (bw1 hbw1)⟩
 ·have HO : Hid (overJ ⟨2, nm, ends⟩ k z = (endOf ⟨2, nm, ends⟩ (1 - k), 0)) := by unfold Hid overJ; simp
  have hac : across ⟨2, nm, ends⟩ k = [endOf ⟨2, nm, ends⟩ (1 - k)] := by simp [across]
  have HAC := hide hac
  clear hac
  have hA : Below w1.heap.size w1 (w1.alloc (.cells #[.int .i64 2, .string nm, .slice ea ends.length ec] 56)) := bw0
  go_wp2_with fail
  refine (l1across_any ⟨2, nm, ends⟩ k ea ec _ (hes.below hA) ⟨⟨by omega, by omega⟩, hlen⟩ hkl).mono ?_
  rintro e w2 ⟨⟨aa, acap, rfl, hea⟩, hb2⟩
  rw [unhide HAC] at hea ⊢
  obtain ⟨ab, aoff, rfl, hab, y0, y1⟩ := hea 0 (by simp)
  simp at y0 y1
  have hb2' := below_then hA hb2
  have hbw2 := below_then hbw1 hb2'
  have hBr2 := hBr.below hb2'
  have r0' := hBr2.2.1 0 _ rfl
  have r1' := hBr2.2.1 1 _ rfl
  have rz' := hBr2.2.2
  have rl' := hBr2.1
  have hab2 := hab.2
  have hsz2 := hbw2.size
  generalize endOf ⟨2, nm, ends⟩ (1 - k) = tgt at *
  simp only [List.length_cons, List.length_nil]
  go_wp2
  refine bodyPost_ret (v := .tuple #[.agg #[.int .i64 tgt.piece, .int .i64 tgt.side], .int .i64 0, .int .i64 i]) (by simp [results, Tryz.results60, go_sem, r0', r1']) rfl ⟨by rw [unhide HO]; rfl, (bw1 hbw2)⟩
 ·exact absurd rfl hk3
 ·have HO : Hid (overJ ⟨4, nm, ends⟩ k z = (endOf ⟨4, nm, ends⟩ (if k = 0 then 1 else if k = 1 then 0 else if k = 2 then 3 else 2), 0)) := by unfold Hid overJ; simp
  have hac : across ⟨4, nm, ends⟩ k = [endOf ⟨4, nm, ends⟩ (if k = 0 then 1 else if k = 1 then 0 else if k = 2 then 3 else 2)] := by simp [across]
  have HAC := hide hac
  clear hac
  have hA : Below w1.heap.size w1 (w1.alloc (.cells #[.int .i64 4, .string nm, .slice ea ends.length ec] 56)) := bw0
  go_wp2_with fail
  refine (l1across_any ⟨4, nm, ends⟩ k ea ec _ (hes.below hA) ⟨⟨by omega, by omega⟩, hlen⟩ hkl).mono ?_
  rintro e w2 ⟨⟨aa, acap, rfl, hea⟩, hb2⟩
  rw [unhide HAC] at hea ⊢
  obtain ⟨ab, aoff, rfl, hab, y0, y1⟩ := hea 0 (by simp)
  simp at y0 y1
  have hb2' := below_then hA hb2
  have hbw2 := below_then hbw1 hb2'
  have hBr2 := hBr.below hb2'
  have r0' := hBr2.2.1 0 _ rfl
  have r1' := hBr2.2.1 1 _ rfl
  have rz' := hBr2.2.2
  have rl' := hBr2.1
  have hab2 := hab.2
  have hsz2 := hbw2.size
  generalize endOf ⟨4, nm, ends⟩ (if k = 0 then 1 else if k = 1 then 0 else if k = 2 then 3 else 2) = tgt at *
  simp only [List.length_cons, List.length_nil]
  go_wp2
  refine bodyPost_ret (v := .tuple #[.agg #[.int .i64 tgt.piece, .int .i64 tgt.side], .int .i64 0, .int .i64 i]) (by simp [results, Tryz.results60, go_sem, r0', r1']) rfl ⟨by rw [unhide HO]; rfl, (bw1 hbw2)⟩

end Go.Proofs.YtjacbppeebnjfaaGreat

namespace Go.Proofs.YtjacbppeebnjfaaGreat
open Go.RowKit

set_option maxRecDepth 100000 in
set_option maxHeartbeats 2000000 in
theorem l2over_sw0 (v : Value) (n : Nt) (zq : Option Addr) (zs : List Int) (zc : Nat) (e0 : Ed) (i k : Nat) (nm : ByteArray) (x0 x1 x2 : Ed) (z : Int) (w : World) {L L' : Nat} (hv : NetAt L w v n) (hz : IntsAt L' w zq zs) (hG : NetGood n) (hf : EdFits n.pieces.length e0) (hst : StandsAt n.joints e0 i k)
  (hji : ∃ h : i < n.joints.length, n.joints[i] = ⟨3, nm, [x0, x1, x2]⟩) (hzi : ∃ h : i < zs.length, zs[i] = z) (hz0 : z = 0) :
  Calls Tryz.prog 60 #[v, .slice zq zs.length zc, .agg #[.int .i64 e0.piece, .int .i64 e0.side]] w fun e w' =>
   e = .returned (.tuple #[.agg #[.int .i64 e0.piece, .int .i64 e0.side], .int .i64 2, .int .i64 i]) ∧ Below w.heap.size w w' := by
 have hvv := hv
 obtain ⟨x, c, ca, cc, rfl, hp, hj⟩ := hv
 obtain ⟨⟨h0, h1⟩, h2, h3⟩ := hf
 obtain ⟨ep, es⟩ := e0
 dsimp only at h0 h1 h2 h3 ⊢
 obtain ⟨pn, rfl⟩ := Int.eq_ofNat_of_zero_le h0
 have huse : uses n.joints pn es = 1 := hG.once pn (by omega) es (by omega)
 have HU := hide huse
 have HST := hide hst
 clear huse
 go_enter Tryz.func60, Tryz.ntmps60
 go_wp2_with fail
 refine (l1at_any _ n pn es _ (hvv.below ?_) (by have := hG.nj; omega) hG.ends ⟨_, _, unhide HST⟩).mono ?_
 ·exact bw0
 rintro e w1 ⟨i1, kk, rfl, hs1, hb1⟩
 obtain ⟨rfl, rfl⟩ := stands_unique (unhide HU) (unhide HST) hs1
 have hbw1 : Below w.heap.size w w1 := below_then bw0 hb1
 have hBn : Boxed w1 w.heap.size [.slice x n.pieces.length ca, .slice c n.joints.length cc] := (((boxed_alloc _ _ _).alloc _).alloc _).below hb1
 have hBe : Boxed w1 (w.heap.size + 1) [.int .i64 pn, .int .i64 es] := ((boxedN _ _ _ (by simp)).alloc _).below hb1
 have hBr : Boxed w1 (w.heap.size + 1 + 1) [.int .i64 0, .int .i64 0] := (boxedN _ _ _ (by simp)).below hb1
 obtain ⟨hil, hij⟩ := hji
 obtain ⟨hizl, hiz⟩ := hzi
 have hK := hG.kind hil
 obtain ⟨_, hkl, hke⟩ := hst
 rw [hij] at hK
 simp only [hij] at hkl hke
 obtain ⟨jb, joff, ea, ec, rfl, hjb, c0, c1, c2, hes⟩ := hj.below hbw1 i hil
 obtain ⟨zb, zoff, rfl, hzb, z0⟩ := hz.below hbw1 i hizl
 rw [hij] at c0 c1 c2 hes
 rw [hiz] at z0
 have a1 := hBn.2.1 1 _ rfl
 have e0 := hBe.2.1 0 _ rfl
 have e1 := hBe.2.1 1 _ rfl
 have r0 := hBr.2.1 0 _ rfl
 have r1 := hBr.2.1 1 _ rfl
 have rz := hBr.2.2
 have rl := hBr.1
 have el := hBe.1
 have hjb2 := hjb.2
 have hzb2 := hzb.2
 have hii : (i : Int) < (n.joints.length : Int) := by omega
 have hiiz : (i : Int) < (zs.length : Int) := by omega
 have hsz1 := hbw1.size
 dsimp only at c0 c1 c2 hes hK hkl hke
 clear hke
 clear hij hiz HST hs1 hK
 subst hz0
 go_wp2
 refine bodyPost_ret (v := .tuple #[.agg #[.int .i64 pn, .int .i64 es], .int .i64 2, .int .i64 i]) (by simp [results, Tryz.results60, go_sem, r0, r1, rl]) rfl ⟨rfl, (bw1 hbw1)⟩

set_option maxRecDepth 100000 in
set_option maxHeartbeats 2000000 in
theorem l2over_tip1 (v : Value) (n : Nt) (zq : Option Addr) (zs : List Int) (zc : Nat) (e0 : Ed) (i : Nat) (nm : ByteArray) (x0 x1 x2 : Ed) (z : Int) (w : World) {L L' : Nat} (hv : NetAt L w v n) (hz : IntsAt L' w zq zs) (hG : NetGood n) (hf : EdFits n.pieces.length e0) (hst : StandsAt n.joints e0 i 0)
  (hji : ∃ h : i < n.joints.length, n.joints[i] = ⟨3, nm, [x0, x1, x2]⟩) (hzi : ∃ h : i < zs.length, zs[i] = z) (hz0 : z = 1) :
  Calls Tryz.prog 60 #[v, .slice zq zs.length zc, .agg #[.int .i64 e0.piece, .int .i64 e0.side]] w fun e w' =>
   e = .returned (.tuple #[.agg #[.int .i64 x1.piece, .int .i64 x1.side], .int .i64 0, .int .i64 i]) ∧ Below w.heap.size w w' := by
 have hvv := hv
 obtain ⟨x, c, ca, cc, rfl, hp, hj⟩ := hv
 obtain ⟨⟨h0, h1⟩, h2, h3⟩ := hf
 obtain ⟨ep, es⟩ := e0
 dsimp only at h0 h1 h2 h3 ⊢
 obtain ⟨pn, rfl⟩ := Int.eq_ofNat_of_zero_le h0
 have huse : uses n.joints pn es = 1 := hG.once pn (by omega) es (by omega)
 have HU := hide huse
 have HST := hide hst
 clear huse
 go_enter Tryz.func60, Tryz.ntmps60
 go_wp2_with fail
 refine (l1at_any _ n pn es _ (hvv.below ?_) (by have := hG.nj; omega) hG.ends ⟨_, _, unhide HST⟩).mono ?_
 ·exact bw0
 rintro e w1 ⟨i1, kk, rfl, hs1, hb1⟩
 obtain ⟨rfl, rfl⟩ := stands_unique (unhide HU) (unhide HST) hs1
 have hbw1 : Below w.heap.size w w1 := below_then bw0 hb1
 have hBn : Boxed w1 w.heap.size [.slice x n.pieces.length ca, .slice c n.joints.length cc] := (((boxed_alloc _ _ _).alloc _).alloc _).below hb1
 have hBe : Boxed w1 (w.heap.size + 1) [.int .i64 pn, .int .i64 es] := ((boxedN _ _ _ (by simp)).alloc _).below hb1
 have hBr : Boxed w1 (w.heap.size + 1 + 1) [.int .i64 0, .int .i64 0] := (boxedN _ _ _ (by simp)).below hb1
 obtain ⟨hil, hij⟩ := hji
 obtain ⟨hizl, hiz⟩ := hzi
 have hK := hG.kind hil
 obtain ⟨_, hkl, hke⟩ := hst
 rw [hij] at hK
 simp only [hij] at hkl hke
 obtain ⟨jb, joff, ea, ec, rfl, hjb, c0, c1, c2, hes⟩ := hj.below hbw1 i hil
 obtain ⟨zb, zoff, rfl, hzb, z0⟩ := hz.below hbw1 i hizl
 rw [hij] at c0 c1 c2 hes
 rw [hiz] at z0
 have a1 := hBn.2.1 1 _ rfl
 have e0 := hBe.2.1 0 _ rfl
 have e1 := hBe.2.1 1 _ rfl
 have r0 := hBr.2.1 0 _ rfl
 have r1 := hBr.2.1 1 _ rfl
 have rz := hBr.2.2
 have rl := hBr.1
 have el := hBe.1
 have hjb2 := hjb.2
 have hzb2 := hzb.2
 have hii : (i : Int) < (n.joints.length : Int) := by omega
 have hiiz : (i : Int) < (zs.length : Int) := by omega
 have hsz1 := hbw1.size
 dsimp only at c0 c1 c2 hes hK hkl hke
 clear hke
 clear hij hiz HST hs1 hK
 subst hz0
 obtain ⟨eb, eoff, rfl, heb, y0, y1⟩ := hes 1 (by simp)
 simp at y0 y1
 have heb2 := heb.2
 go_wp2_with fail
 go_region
 all_goals go_wp2
 refine bodyPost_ret (v := .tuple #[.agg #[.int .i64 x1.piece, .int .i64 x1.side], .int .i64 0, .int .i64 i]) (by simp [results, Tryz.results60, go_sem, r0, r1, rl]) rfl ⟨rfl, (bw1 hbw1)⟩

set_option maxRecDepth 100000 in
set_option maxHeartbeats 2000000 in
theorem l2over_tip2 (v : Value) (n : Nt) (zq : Option Addr) (zs : List Int) (zc : Nat) (e0 : Ed) (i : Nat) (nm : ByteArray) (x0 x1 x2 : Ed) (z : Int) (w : World) {L L' : Nat} (hv : NetAt L w v n) (hz : IntsAt L' w zq zs) (hG : NetGood n) (hf : EdFits n.pieces.length e0) (hst : StandsAt n.joints e0 i 0)
  (hji : ∃ h : i < n.joints.length, n.joints[i] = ⟨3, nm, [x0, x1, x2]⟩) (hzi : ∃ h : i < zs.length, zs[i] = z) (hz0 : z = 2) :
  Calls Tryz.prog 60 #[v, .slice zq zs.length zc, .agg #[.int .i64 e0.piece, .int .i64 e0.side]] w fun e w' =>
   e = .returned (.tuple #[.agg #[.int .i64 x2.piece, .int .i64 x2.side], .int .i64 0, .int .i64 i]) ∧ Below w.heap.size w w' := by
 have hvv := hv
 obtain ⟨x, c, ca, cc, rfl, hp, hj⟩ := hv
 obtain ⟨⟨h0, h1⟩, h2, h3⟩ := hf
 obtain ⟨ep, es⟩ := e0
 dsimp only at h0 h1 h2 h3 ⊢
 obtain ⟨pn, rfl⟩ := Int.eq_ofNat_of_zero_le h0
 have huse : uses n.joints pn es = 1 := hG.once pn (by omega) es (by omega)
 have HU := hide huse
 have HST := hide hst
 clear huse
 go_enter Tryz.func60, Tryz.ntmps60
 go_wp2_with fail
 refine (l1at_any _ n pn es _ (hvv.below ?_) (by have := hG.nj; omega) hG.ends ⟨_, _, unhide HST⟩).mono ?_
 ·exact bw0
 rintro e w1 ⟨i1, kk, rfl, hs1, hb1⟩
 obtain ⟨rfl, rfl⟩ := stands_unique (unhide HU) (unhide HST) hs1
 have hbw1 : Below w.heap.size w w1 := below_then bw0 hb1
 have hBn : Boxed w1 w.heap.size [.slice x n.pieces.length ca, .slice c n.joints.length cc] := (((boxed_alloc _ _ _).alloc _).alloc _).below hb1
 have hBe : Boxed w1 (w.heap.size + 1) [.int .i64 pn, .int .i64 es] := ((boxedN _ _ _ (by simp)).alloc _).below hb1
 have hBr : Boxed w1 (w.heap.size + 1 + 1) [.int .i64 0, .int .i64 0] := (boxedN _ _ _ (by simp)).below hb1
 obtain ⟨hil, hij⟩ := hji
 obtain ⟨hizl, hiz⟩ := hzi
 have hK := hG.kind hil
 obtain ⟨_, hkl, hke⟩ := hst
 rw [hij] at hK
 simp only [hij] at hkl hke
 obtain ⟨jb, joff, ea, ec, rfl, hjb, c0, c1, c2, hes⟩ := hj.below hbw1 i hil
 obtain ⟨zb, zoff, rfl, hzb, z0⟩ := hz.below hbw1 i hizl
 rw [hij] at c0 c1 c2 hes
 rw [hiz] at z0
 have a1 := hBn.2.1 1 _ rfl
 have e0 := hBe.2.1 0 _ rfl
 have e1 := hBe.2.1 1 _ rfl
 have r0 := hBr.2.1 0 _ rfl
 have r1 := hBr.2.1 1 _ rfl
 have rz := hBr.2.2
 have rl := hBr.1
 have el := hBe.1
 have hjb2 := hjb.2
 have hzb2 := hzb.2
 have hii : (i : Int) < (n.joints.length : Int) := by omega
 have hiiz : (i : Int) < (zs.length : Int) := by omega
 have hsz1 := hbw1.size
 dsimp only at c0 c1 c2 hes hK hkl hke
 clear hke
 clear hij hiz HST hs1 hK
 subst hz0
 obtain ⟨eb, eoff, rfl, heb, y0, y1⟩ := hes 2 (by simp)
 simp at y0 y1
 have heb2 := heb.2
 go_wp2_with fail
 go_region
 all_goals go_wp2
 refine bodyPost_ret (v := .tuple #[.agg #[.int .i64 x2.piece, .int .i64 x2.side], .int .i64 0, .int .i64 i]) (by simp [results, Tryz.results60, go_sem, r0, r1, rl]) rfl ⟨rfl, (bw1 hbw1)⟩

set_option maxRecDepth 100000 in
set_option maxHeartbeats 2000000 in
theorem l2over_other (v : Value) (n : Nt) (zq : Option Addr) (zs : List Int) (zc : Nat) (e0 : Ed) (i k : Nat) (nm : ByteArray) (x0 x1 x2 : Ed) (z : Int) (w : World) {L L' : Nat} (hv : NetAt L w v n) (hz : IntsAt L' w zq zs) (hG : NetGood n) (hf : EdFits n.pieces.length e0) (hst : StandsAt n.joints e0 i k)
  (hji : ∃ h : i < n.joints.length, n.joints[i] = ⟨3, nm, [x0, x1, x2]⟩) (hzi : ∃ h : i < zs.length, zs[i] = z) (hz0 : (z == 0) = false) (hk0 : ((k : Int) == 0) = false) (hkz : ((k : Int) == z) = false) :
  Calls Tryz.prog 60 #[v, .slice zq zs.length zc, .agg #[.int .i64 e0.piece, .int .i64 e0.side]] w fun e w' =>
   e = .returned (.tuple #[.agg #[.int .i64 e0.piece, .int .i64 e0.side], .int .i64 3, .int .i64 i]) ∧ Below w.heap.size w w' := by
 have hvv := hv
 obtain ⟨x, c, ca, cc, rfl, hp, hj⟩ := hv
 obtain ⟨⟨h0, h1⟩, h2, h3⟩ := hf
 obtain ⟨ep, es⟩ := e0
 dsimp only at h0 h1 h2 h3 ⊢
 obtain ⟨pn, rfl⟩ := Int.eq_ofNat_of_zero_le h0
 have huse : uses n.joints pn es = 1 := hG.once pn (by omega) es (by omega)
 have HU := hide huse
 have HST := hide hst
 clear huse
 go_enter Tryz.func60, Tryz.ntmps60
 go_wp2_with fail
 refine (l1at_any _ n pn es _ (hvv.below ?_) (by have := hG.nj; omega) hG.ends ⟨_, _, unhide HST⟩).mono ?_
 ·exact bw0
 rintro e w1 ⟨i1, kk, rfl, hs1, hb1⟩
 obtain ⟨rfl, rfl⟩ := stands_unique (unhide HU) (unhide HST) hs1
 have hbw1 : Below w.heap.size w w1 := below_then bw0 hb1
 have hBn : Boxed w1 w.heap.size [.slice x n.pieces.length ca, .slice c n.joints.length cc] := (((boxed_alloc _ _ _).alloc _).alloc _).below hb1
 have hBe : Boxed w1 (w.heap.size + 1) [.int .i64 pn, .int .i64 es] := ((boxedN _ _ _ (by simp)).alloc _).below hb1
 have hBr : Boxed w1 (w.heap.size + 1 + 1) [.int .i64 0, .int .i64 0] := (boxedN _ _ _ (by simp)).below hb1
 obtain ⟨hil, hij⟩ := hji
 obtain ⟨hizl, hiz⟩ := hzi
 have hK := hG.kind hil
 obtain ⟨_, hkl, hke⟩ := hst
 rw [hij] at hK
 simp only [hij] at hkl hke
 obtain ⟨jb, joff, ea, ec, rfl, hjb, c0, c1, c2, hes⟩ := hj.below hbw1 i hil
 obtain ⟨zb, zoff, rfl, hzb, z0⟩ := hz.below hbw1 i hizl
 rw [hij] at c0 c1 c2 hes
 rw [hiz] at z0
 have a1 := hBn.2.1 1 _ rfl
 have e0 := hBe.2.1 0 _ rfl
 have e1 := hBe.2.1 1 _ rfl
 have r0 := hBr.2.1 0 _ rfl
 have r1 := hBr.2.1 1 _ rfl
 have rz := hBr.2.2
 have rl := hBr.1
 have el := hBe.1
 have hjb2 := hjb.2
 have hzb2 := hzb.2
 have hii : (i : Int) < (n.joints.length : Int) := by omega
 have hiiz : (i : Int) < (zs.length : Int) := by omega
 have hsz1 := hbw1.size
 dsimp only at c0 c1 c2 hes hK hkl hke
 clear hke
 clear hij hiz HST hs1 hK
 go_wp2
 refine bodyPost_ret (v := .tuple #[.agg #[.int .i64 pn, .int .i64 es], .int .i64 3, .int .i64 i]) (by simp [results, Tryz.results60, go_sem, r0, r1, rl]) rfl ⟨rfl, (bw1 hbw1)⟩

set_option maxRecDepth 100000 in
set_option maxHeartbeats 2000000 in
theorem l2over_side (v : Value) (n : Nt) (zq : Option Addr) (zs : List Int) (zc : Nat) (e0 : Ed) (i k : Nat) (nm : ByteArray) (x0 x1 x2 : Ed) (z : Int) (w : World) {L L' : Nat} (hv : NetAt L w v n) (hz : IntsAt L' w zq zs) (hG : NetGood n) (hf : EdFits n.pieces.length e0) (hst : StandsAt n.joints e0 i k)
  (hji : ∃ h : i < n.joints.length, n.joints[i] = ⟨3, nm, [x0, x1, x2]⟩) (hzi : ∃ h : i < zs.length, zs[i] = z) (hz0 : (z == 0) = false) (hk0 : ((k : Int) == 0) = false) (hkz : z = (k : Int)) :
  Calls Tryz.prog 60 #[v, .slice zq zs.length zc, .agg #[.int .i64 e0.piece, .int .i64 e0.side]] w fun e w' =>
   e = .returned (.tuple #[.agg #[.int .i64 x0.piece, .int .i64 x0.side], .int .i64 0, .int .i64 i]) ∧ Below w.heap.size w w' := by
 have hvv := hv
 obtain ⟨x, c, ca, cc, rfl, hp, hj⟩ := hv
 obtain ⟨⟨h0, h1⟩, h2, h3⟩ := hf
 obtain ⟨ep, es⟩ := e0
 dsimp only at h0 h1 h2 h3 ⊢
 obtain ⟨pn, rfl⟩ := Int.eq_ofNat_of_zero_le h0
 have huse : uses n.joints pn es = 1 := hG.once pn (by omega) es (by omega)
 have HU := hide huse
 have HST := hide hst
 clear huse
 go_enter Tryz.func60, Tryz.ntmps60
 go_wp2_with fail
 refine (l1at_any _ n pn es _ (hvv.below ?_) (by have := hG.nj; omega) hG.ends ⟨_, _, unhide HST⟩).mono ?_
 ·exact bw0
 rintro e w1 ⟨i1, kk, rfl, hs1, hb1⟩
 obtain ⟨rfl, rfl⟩ := stands_unique (unhide HU) (unhide HST) hs1
 have hbw1 : Below w.heap.size w w1 := below_then bw0 hb1
 have hBn : Boxed w1 w.heap.size [.slice x n.pieces.length ca, .slice c n.joints.length cc] := (((boxed_alloc _ _ _).alloc _).alloc _).below hb1
 have hBe : Boxed w1 (w.heap.size + 1) [.int .i64 pn, .int .i64 es] := ((boxedN _ _ _ (by simp)).alloc _).below hb1
 have hBr : Boxed w1 (w.heap.size + 1 + 1) [.int .i64 0, .int .i64 0] := (boxedN _ _ _ (by simp)).below hb1
 obtain ⟨hil, hij⟩ := hji
 obtain ⟨hizl, hiz⟩ := hzi
 have hK := hG.kind hil
 obtain ⟨_, hkl, hke⟩ := hst
 rw [hij] at hK
 simp only [hij] at hkl hke
 obtain ⟨jb, joff, ea, ec, rfl, hjb, c0, c1, c2, hes⟩ := hj.below hbw1 i hil
 obtain ⟨zb, zoff, rfl, hzb, z0⟩ := hz.below hbw1 i hizl
 rw [hij] at c0 c1 c2 hes
 rw [hiz] at z0
 have a1 := hBn.2.1 1 _ rfl
 have e0 := hBe.2.1 0 _ rfl
 have e1 := hBe.2.1 1 _ rfl
 have r0 := hBr.2.1 0 _ rfl
 have r1 := hBr.2.1 1 _ rfl
 have rz := hBr.2.2
 have rl := hBr.1
 have el := hBe.1
 have hjb2 := hjb.2
 have hzb2 := hzb.2
 have hii : (i : Int) < (n.joints.length : Int) := by omega
 have hiiz : (i : Int) < (zs.length : Int) := by omega
 have hsz1 := hbw1.size
 dsimp only at c0 c1 c2 hes hK hkl hke
 clear hke
 clear hij hiz HST hs1 hK
 subst hkz
 have hac : across ⟨3, nm, [x0, x1, x2]⟩ k = [x0] := by
  have : k ≠ 0 := by simp at hk0; omega
  simp [across, this, endOf]
 have HAC := hide hac
 clear hac
 have hA : Below w1.heap.size w1 (w1.alloc (.cells #[.int .i64 3, .string nm, .slice ea [x0, x1, x2].length ec] 56)) := bw0
 go_wp2_with fail
 refine (l1across_any ⟨3, nm, [x0, x1, x2]⟩ k ea ec _ (hes.below hA) ⟨⟨by simp, by simp⟩, by simp⟩ hkl).mono ?_
 rintro e w2 ⟨⟨aa, acap, rfl, hea⟩, hb2⟩
 rw [unhide HAC] at hea ⊢
 obtain ⟨ab, aoff, rfl, hab, y0, y1⟩ := hea 0 (by simp)
 simp at y0 y1
 have hb2' := below_then hA hb2
 have hbw2 := below_then hbw1 hb2'
 have hBr2 := hBr.below hb2'
 have r0' := hBr2.2.1 0 _ rfl
 have r1' := hBr2.2.1 1 _ rfl
 have rz' := hBr2.2.2
 have rl' := hBr2.1
 have hab2 := hab.2
 have hsz2 := hbw2.size
 simp only [List.length_cons, List.length_nil]
 go_wp2
 refine bodyPost_ret (v := .tuple #[.agg #[.int .i64 x0.piece, .int .i64 x0.side], .int .i64 0, .int .i64 i]) (by simp [results, Tryz.results60, go_sem, r0', r1']) rfl ⟨rfl, (bw1 hbw2)⟩

end Go.Proofs.YtjacbppeebnjfaaGreat

