import Derived.Test.YtbdggfpfpjijoaaGreatDoorMFd
set_option linter.unusedSimpArgs false
namespace Go.Proofs.YtbdggfpfpjijoaaGreatDoor
open Go.RowKit

set_option maxRecDepth 100000 in
set_option maxHeartbeats 8000000 in
theorem fnTop_any (bs : List Int) (ba : Option Addr) (bcap : Nat) (ms : List Int) (ma : Option Addr) (mcap : Nat) (w : World) (hba : Bg bs ba w) (hbs : BytesIn bs) (hma : Bg ms ma w) :
  Calls Tryz.prog 3 #[.slice ba bs.length bcap, .slice ma ms.length mcap] w fun e w' => e = .returned (.bool true) ∧ Below w.heap.size w w' := by
 have HA0 := hide hba
 have HM0 := hide hma
 clear hba hma
 go_enter Tryz.func3, Tryz.ntmps3
 by_cases h1 : 1048576 < bs.length
 ·have h1' : (1048576 : Int) < (bs.length : Int) := by omega
  go_wp2_with fail
  go_ret
  exact ⟨rfl, Below.refl _ _⟩
 ·have h1' : ¬ (1048576 : Int) < (bs.length : Int) := by omega
  by_cases h2 : 1048576 < ms.length
  ·have h2' : (1048576 : Int) < (ms.length : Int) := by omega
   go_wp2_with fail
   go_ret
   exact ⟨rfl, Below.refl _ _⟩
  ·have h2' : ¬ (1048576 : Int) < (ms.length : Int) := by omega
   go_wp2_with fail
   refine (drawn_any bs ba bcap _ (unhide HA0).by_ hbs).mono ?_
   rintro e w1 ⟨v, n, zq, zs, zc, t, ta, tc, ok, rfl, hdi, hok, hN1, hZ1, hS1, hB1⟩
   dsimp only [trV]
   have hsm := hdi.small
   have hbk := hdi.back
   have hN1' := hN1
   obtain ⟨a1, a2, k1, k2, rfl, _, _⟩ := hN1
   obtain ⟨N, T, w2, hNe, hTe, hw2, hNw, hTw, hB2⟩ := drawn_boxes 26 32 hN1' hZ1 hS1 hB1
   have HDI := hide hdi
   have HOK := hide hok
   have HSM := hide hsm
   have HNE := hide hNe
   have HTE := hide hTe
   have HW2 := hide hw2
   have HN2 := hide hNw
   have HT2 := hide hTw
   have HB2 := hide hB2
   have HA2 := hide ((unhide HA0).below hB2)
   have HM2 := hide ((unhide HM0).below hB2)
   clear hdi hok hN1' hZ1 hS1 hB1 hsm hNe hTe hw2 hNw hTw hB2 HA0 HM0
   go_upto_region 4 with fail
   rw [← unhide HW2, ← unhide HTE, ← unhide HNE]
   clear HW2 HTE HNE
   go_wp2_with fail
   refine (drawn_any bs ba bcap _ (unhide HA2).by_ hbs).mono ?_
   rintro e w3 ⟨v', n', zq', zs', zc', t', ta', tc', ok', rfl, hdi', _, hN3, hZ3, hS3, hB3⟩
   dsimp only [trV]
   obtain ⟨e1, e2, e3⟩ := (unhide HDI).unique hdi'
   subst e1 e2 e3
   clear hdi'
   have hN3' := hN3
   obtain ⟨b1, b2, j1, j2, rfl, _, _⟩ := hN3
   obtain ⟨N', T', w4, hNe, hTe, hw4, hNw, hSw, hB4⟩ := drawn_boxes 26 32 hN3' hZ3 hS3 hB3
   have HNE := hide hNe
   have HTE := hide hTe
   have HW4 := hide hw4
   have HS4 := hide hSw
   have HN4 := hide ((unhide HN2).below hB4)
   have HT4 := hide ((unhide HT2).below hB4)
   have HA4 := hide ((unhide HA2).below hB4)
   have HM4 := hide ((unhide HM2).below hB4)
   have HB4 := hide ((unhide HB2).trans (hB4.mono (unhide HB2).size))
   clear hN3' hZ3 hS3 hB3 hNe hTe hw4 hNw hSw hB4 HN2 HT2 HA2 HM2 HB2
   go_upto_region 5 with fail
   rw [← unhide HW4, ← unhide HTE, ← unhide HNE]
   clear HW4 HTE HNE
   go_wp2_with fail
   refine (wFar_any ms ma mcap 0 _ (unhide HM4).by_ (by omega) (by omega)).mono ?_
   rintro e w5 ⟨a, rfl, ha, hb5⟩
   dsimp only
   have HN5 := hide ((unhide HN4).below hb5)
   have HT5 := hide ((unhide HT4).below hb5)
   have HS5 := hide ((unhide HS4).below hb5)
   have HM5 := hide ((unhide HM4).below hb5)
   have HB5 := hide ((unhide HB4).trans (hb5.mono (unhide HB4).size))
   clear hb5 HN4 HT4 HS4 HA4 HM4 HB4
   go_wp2_with fail
   refine (wFar_any ms ma mcap 3 _ (unhide HM5).by_ (by omega) (by omega)).mono ?_
   rintro e w6 ⟨b, rfl, hb, hb6⟩
   dsimp only
   have HN6 := hide ((unhide HN5).below hb6)
   have HT6 := hide ((unhide HT5).below hb6)
   have HS6 := hide ((unhide HS5).below hb6)
   have HM6 := hide ((unhide HM5).below hb6)
   have HB6 := hide ((unhide HB5).trans (hb6.mono (unhide HB5).size))
   clear hb6 HN5 HT5 HS5 HM5 HB5
   have n0 := (unhide HN6).bn.2.1 0 _ rfl
   have n1 := (unhide HN6).bn.2.1 1 _ rfl
   have nl := (unhide HN6).bn.1
   have t0 := (unhide HT6).bt.2.1 0 _ rfl
   have t1 := (unhide HT6).bt.2.1 1 _ rfl
   have t2 := (unhide HT6).bt.2.1 2 _ rfl
   have t3 := (unhide HT6).bt.2.1 3 _ rfl
   have t4 := (unhide HT6).bt.2.1 4 _ rfl
   have tl := (unhide HT6).bt.1
   go_wp2_with fail
   clear n0 n1 nl t0 t1 t2 t3 t4 tl
   refine (dMoveI (F := a) (unhide HN6) (unhide HT6).s (unhide HM6).gl (unhide HSM) hbk).mono ?_
   rintro e w7 ⟨u, pa, pc, oa, oc, hu, rfl, hM7, hb7⟩
   dsimp only
   have HU := hide hu
   clear hu
   have HN7 := hide ((unhide HN6).below hb7)
   have HT7 := hide ((unhide HT6).below hb7)
   have HS7 := hide ((unhide HS6).below hb7)
   have HM7 := hide ((unhide HM6).below hb7)
   have HB7 := hide ((unhide HB6).trans (hb7.mono (unhide HB6).size))
   clear hb7 HN6 HT6 HS6 HM6 HB6
   have hBx := Mw.box hM7 oc 38
   have hAl : Below w7.heap.size w7 (w7.alloc (.cells #[.int .i64 u.code, .int .i64 u.far, .int .i64 u.joint, .int .i64 u.tr.front.piece, .int .i64 u.tr.front.at_, .int .i64 u.tr.front.way, .int .i64 u.tr.long, .slice pa u.tr.back.length pc, .slice oa u.over.length oc] 38)) := bw0
   have n0 := (unhide HN7).bn.2.1 0 _ rfl
   have n1 := (unhide HN7).bn.2.1 1 _ rfl
   have nl := (unhide HN7).bn.1
   have t0 := (unhide HT7).bt.2.1 0 _ rfl
   have t1 := (unhide HT7).bt.2.1 1 _ rfl
   have t2 := (unhide HT7).bt.2.1 2 _ rfl
   have t3 := (unhide HT7).bt.2.1 3 _ rfl
   have t4 := (unhide HT7).bt.2.1 4 _ rfl
   have tl := (unhide HT7).bt.1
   have eN1 : N ≠ w7.heap.size := Nat.ne_of_lt nl
   have eN2 : w7.heap.size ≠ N := eN1.symm
   have eT1 : T ≠ w7.heap.size := Nat.ne_of_lt tl
   have eT2 : w7.heap.size ≠ T := eT1.symm
   go_wp2_with fail
   clear n0 n1 nl t0 t1 t2 t3 t4 tl
   clear eN1 eN2 eT1 eT2
   obtain ⟨w8, hwa⟩ : ∃ w8, w7.alloc (.cells #[.int .i64 u.code, .int .i64 u.far, .int .i64 u.joint, .int .i64 u.tr.front.piece, .int .i64 u.tr.front.at_, .int .i64 u.tr.front.way, .int .i64 u.tr.long, .slice pa u.tr.back.length pc, .slice oa u.over.length oc] 38) = w8 := ⟨_, rfl⟩
   obtain ⟨X, hBe⟩ : ∃ X, w7.heap.size = X := ⟨_, rfl⟩
   rw [hwa] at hBx hAl ⊢
   rw [hBe] at hBx ⊢
   have HX8 := hide hBx
   have HN8 := hide ((unhide HN7).below hAl)
   have HT8 := hide ((unhide HT7).below hAl)
   have HS8 := hide ((unhide HS7).below hAl)
   have HM8 := hide ((unhide HM7).below hAl)
   have HB8 := hide ((unhide HB7).trans (hAl.mono (unhide HB7).size))
   clear hM7 hBx hAl hwa hBe HN7 HT7 HS7 HM7 HB7
   refine (dMoveS (F := a) (unhide HN8) (unhide HT8).s (unhide HSM) hbk (unhide HU)).mono ?_
   rintro e w9 ⟨qa, qc, ra, rc, rfl, hM9, hb9⟩
   dsimp only
   have HN9 := hide ((unhide HN8).below hb9)
   have HT9 := hide ((unhide HT8).below hb9)
   have HS9 := hide ((unhide HS8).below hb9)
   have HM9 := hide ((unhide HM8).below hb9)
   have HX9 := hide ((unhide HX8).below hb9)
   have HB9 := hide ((unhide HB8).trans (hb9.mono (unhide HB8).size))
   clear hb9 HN8 HT8 HS8 HM8 HX8 HB8
   have hBx := Mw.box hM9 rc 38
   have hAl : Below w9.heap.size w9 (w9.alloc (.cells #[.int .i64 u.code, .int .i64 u.far, .int .i64 u.joint, .int .i64 u.tr.front.piece, .int .i64 u.tr.front.at_, .int .i64 u.tr.front.way, .int .i64 u.tr.long, .slice qa u.tr.back.length qc, .slice ra u.over.length rc] 38)) := bw0
   have eXY : X ≠ w9.heap.size := Nat.ne_of_lt (unhide HX9).b.1
   have eYX : w9.heap.size ≠ X := eXY.symm
   have n0 := (unhide HN9).bn.2.1 0 _ rfl
   have n1 := (unhide HN9).bn.2.1 1 _ rfl
   have nl := (unhide HN9).bn.1
   have t0 := (unhide HT9).bt.2.1 0 _ rfl
   have t1 := (unhide HT9).bt.2.1 1 _ rfl
   have t2 := (unhide HT9).bt.2.1 2 _ rfl
   have t3 := (unhide HT9).bt.2.1 3 _ rfl
   have t4 := (unhide HT9).bt.2.1 4 _ rfl
   have tl := (unhide HT9).bt.1
   have x0 := (unhide HX9).b.2.1 0 _ rfl
   have x1 := (unhide HX9).b.2.1 1 _ rfl
   have x2 := (unhide HX9).b.2.1 2 _ rfl
   have x3 := (unhide HX9).b.2.1 3 _ rfl
   have x4 := (unhide HX9).b.2.1 4 _ rfl
   have x5 := (unhide HX9).b.2.1 5 _ rfl
   have x6 := (unhide HX9).b.2.1 6 _ rfl
   have x7 := (unhide HX9).b.2.1 7 _ rfl
   have x8 := (unhide HX9).b.2.1 8 _ rfl
   have xl := (unhide HX9).b.1
   go_wp2_with fail
   clear n0 n1 nl t0 t1 t2 t3 t4 tl x0 x1 x2 x3 x4 x5 x6 x7 x8 xl
   clear eXY eYX
   obtain ⟨w10, hwa⟩ : ∃ w10, w9.alloc (.cells #[.int .i64 u.code, .int .i64 u.far, .int .i64 u.joint, .int .i64 u.tr.front.piece, .int .i64 u.tr.front.at_, .int .i64 u.tr.front.way, .int .i64 u.tr.long, .slice qa u.tr.back.length qc, .slice ra u.over.length rc] 38) = w10 := ⟨_, rfl⟩
   obtain ⟨Y, hBe⟩ : ∃ Y, w9.heap.size = Y := ⟨_, rfl⟩
   rw [hwa] at hBx hAl ⊢
   rw [hBe] at hBx ⊢
   have HY10 := hide hBx
   have HN10 := hide ((unhide HN9).below hAl)
   have HT10 := hide ((unhide HT9).below hAl)
   have HS10 := hide ((unhide HS9).below hAl)
   have HM10 := hide ((unhide HM9).below hAl)
   have HX10 := hide ((unhide HX9).below hAl)
   have HB10 := hide ((unhide HB9).trans (hAl.mono (unhide HB9).size))
   clear hM9 hBx hAl hwa hBe HN9 HT9 HS9 HM9 HX9 HB9
   have hul := (unhide HU).len
   refine (wTrain_same u.tr pa qa pc qc _ (unhide HX10).s.s.sts (unhide HY10).s.s.sts (by omega)).mono ?_
   rintro e w11 ⟨rfl, hb11⟩
   dsimp only
   have HN11 := hide ((unhide HN10).below hb11)
   have HT11 := hide ((unhide HT10).below hb11)
   have HS11 := hide ((unhide HS10).below hb11)
   have HM11 := hide ((unhide HM10).below hb11)
   have HX11 := hide ((unhide HX10).below hb11)
   have HY11 := hide ((unhide HY10).below hb11)
   have HB11 := hide ((unhide HB10).trans (hb11.mono (unhide HB10).size))
   clear hb11 HN10 HT10 HS10 HM10 HX10 HY10 HB10
   have x0 := (unhide HX11).b.2.1 0 _ rfl
   have x1 := (unhide HX11).b.2.1 1 _ rfl
   have x2 := (unhide HX11).b.2.1 2 _ rfl
   have x3 := (unhide HX11).b.2.1 3 _ rfl
   have x4 := (unhide HX11).b.2.1 4 _ rfl
   have x5 := (unhide HX11).b.2.1 5 _ rfl
   have x6 := (unhide HX11).b.2.1 6 _ rfl
   have x7 := (unhide HX11).b.2.1 7 _ rfl
   have x8 := (unhide HX11).b.2.1 8 _ rfl
   have xl := (unhide HX11).b.1
   have y0 := (unhide HY11).b.2.1 0 _ rfl
   have y1 := (unhide HY11).b.2.1 1 _ rfl
   have y2 := (unhide HY11).b.2.1 2 _ rfl
   have y3 := (unhide HY11).b.2.1 3 _ rfl
   have y4 := (unhide HY11).b.2.1 4 _ rfl
   have y5 := (unhide HY11).b.2.1 5 _ rfl
   have y6 := (unhide HY11).b.2.1 6 _ rfl
   have y7 := (unhide HY11).b.2.1 7 _ rfl
   have y8 := (unhide HY11).b.2.1 8 _ rfl
   have yl := (unhide HY11).b.1
   go_wp2_with fail
   clear x0 x1 x2 x3 x4 x5 x6 x7 x8 xl y0 y1 y2 y3 y4 y5 y6 y7 y8 yl
   refine (wParts_same u.over oa ra oc rc _ (unhide HX11).s.o (unhide HY11).s.o (by omega)).mono ?_
   rintro e w12 ⟨rfl, hb12⟩
   dsimp only
   have HN12 := hide ((unhide HN11).below hb12)
   have HT12 := hide ((unhide HT11).below hb12)
   have HS12 := hide ((unhide HS11).below hb12)
   have HM12 := hide ((unhide HM11).below hb12)
   have HX12 := hide ((unhide HX11).below hb12)
   have HB12 := hide ((unhide HB11).trans (hb12.mono (unhide HB11).size))
   clear hb12 HN11 HT11 HS11 HM11 HX11 HY11 HB11
   have t0 := (unhide HT12).bt.2.1 0 _ rfl
   have t1 := (unhide HT12).bt.2.1 1 _ rfl
   have t2 := (unhide HT12).bt.2.1 2 _ rfl
   have t3 := (unhide HT12).bt.2.1 3 _ rfl
   have t4 := (unhide HT12).bt.2.1 4 _ rfl
   have tl := (unhide HT12).bt.1
   have s0 := (unhide HS12).bt.2.1 0 _ rfl
   have s1 := (unhide HS12).bt.2.1 1 _ rfl
   have s2 := (unhide HS12).bt.2.1 2 _ rfl
   have s3 := (unhide HS12).bt.2.1 3 _ rfl
   have s4 := (unhide HS12).bt.2.1 4 _ rfl
   have sl := (unhide HS12).bt.1
   go_wp2_with fail
   clear t0 t1 t2 t3 t4 tl s0 s1 s2 s3 s4 sl
   refine (wTrain_same t ta ta' tc tc' _ (unhide HT12).s.sts (unhide HS12).s.sts (by omega)).mono ?_
   rintro e w13 ⟨rfl, hb13⟩
   dsimp only
   have HN13 := hide ((unhide HN12).below hb13)
   have HT13 := hide ((unhide HT12).below hb13)
   have HM13 := hide ((unhide HM12).below hb13)
   have HX13 := hide ((unhide HX12).below hb13)
   have HB13 := hide ((unhide HB12).trans (hb13.mono (unhide HB12).size))
   clear hb13 HN12 HT12 HS12 HM12 HX12 HB12
   cases ok with
   | false =>
    go_wp2_with fail
    go_ret
    exact ⟨rfl, unhide HB13⟩
   | true =>
    obtain ⟨hTR, hSR⟩ := (unhide HOK).1 rfl
    have hf := (unhide HU).facts hSR ⟨ha.1, by omega⟩
    have HTR := hide hTR
    have HSR := hide hSR
    have HF := hide hf
    have HR := hide hf.sits.1
    have HSUM := hide hf.sum
    have HBS := hide ((body_sum hf.sits.1).trans hf.long)
    have hbl : (bodyParts n u.tr).length ≤ 201 := bodyParts_len (netGood hf.sits.1.1) hf.sits.1.2
    obtain ⟨ys, hys⟩ : ∃ ys, bodyParts n u.tr = ys := ⟨_, rfl⟩
    have HYS := hide hys
    rw [hys] at hbl
    clear hTR hSR hf hys
    have n0 := (unhide HN13).bn.2.1 0 _ rfl
    have n1 := (unhide HN13).bn.2.1 1 _ rfl
    have nl := (unhide HN13).bn.1
    have t0 := (unhide HT13).bt.2.1 0 _ rfl
    have t1 := (unhide HT13).bt.2.1 1 _ rfl
    have t2 := (unhide HT13).bt.2.1 2 _ rfl
    have t3 := (unhide HT13).bt.2.1 3 _ rfl
    have t4 := (unhide HT13).bt.2.1 4 _ rfl
    have tl := (unhide HT13).bt.1
    have x0 := (unhide HX13).b.2.1 0 _ rfl
    have x1 := (unhide HX13).b.2.1 1 _ rfl
    have x2 := (unhide HX13).b.2.1 2 _ rfl
    have x3 := (unhide HX13).b.2.1 3 _ rfl
    have x4 := (unhide HX13).b.2.1 4 _ rfl
    have x5 := (unhide HX13).b.2.1 5 _ rfl
    have x6 := (unhide HX13).b.2.1 6 _ rfl
    have x7 := (unhide HX13).b.2.1 7 _ rfl
    have x8 := (unhide HX13).b.2.1 8 _ rfl
    have xl := (unhide HX13).b.1
    go_upto_region 13 with fail
    refine wp_region_held_drew (S := fun w' => w'.cell? ⟨N, 0, none⟩ = some (.slice a1 n.pieces.length k1) ∧ w'.cell? ⟨N, 1, none⟩ = some (.slice a2 n.joints.length k2) ∧ w'.cell? ⟨T, 0, none⟩ = some (.int .i64 t.front.piece) ∧ w'.cell? ⟨T, 1, none⟩ = some (.int .i64 t.front.at_) ∧ w'.cell? ⟨T, 2, none⟩ = some (.int .i64 t.front.way) ∧ w'.cell? ⟨T, 3, none⟩ = some (.int .i64 t.long) ∧ w'.cell? ⟨T, 4, none⟩ = some (.slice ta t.back.length tc) ∧ w'.cell? ⟨X, 0, none⟩ = some (.int .i64 u.code) ∧ w'.cell? ⟨X, 1, none⟩ = some (.int .i64 u.far) ∧ w'.cell? ⟨X, 2, none⟩ = some (.int .i64 u.joint) ∧ w'.cell? ⟨X, 3, none⟩ = some (.int .i64 u.tr.front.piece) ∧ w'.cell? ⟨X, 4, none⟩ = some (.int .i64 u.tr.front.at_) ∧ w'.cell? ⟨X, 5, none⟩ = some (.int .i64 u.tr.front.way) ∧ w'.cell? ⟨X, 6, none⟩ = some (.int .i64 u.tr.long) ∧ w'.cell? ⟨X, 7, none⟩ = some (.slice pa u.tr.back.length pc) ∧ w'.cell? ⟨X, 8, none⟩ = some (.slice oa u.over.length oc)) (by kernel_rfl) ?_ (fun hHeld => ?_)
    ·exact ⟨by simpa using n0, by simpa using n1, by simpa using t0, by simpa using t1, by simpa using t2, by simpa using t3, by simpa using t4, by simpa using x0, by simpa using x1, by simpa using x2, by simpa using x3, by simpa using x4, by simpa using x5, by simpa using x6, by simpa using x7, by simpa using x8⟩
    refine wpAnyH_take (i := 0) (v := ?va1) rfl (by kernel_rfl) (by kernel_rfl) (by kernel_rfl) (fun _ _ _ h => h) (Or.inl ⟨by rfl, ?ya1⟩) (by assumption) ?ra1
    case ya1 => (intro w0 hSw; (try dsimp only at hSw); go_simp; (try with_reducible rfl))
    (try simp only [Act.put, List.getElem_toArray, List.getElem_cons_zero, List.getElem_cons_succ, List.setIfInBounds_toArray, List.set_cons_zero, List.set_cons_succ])
    refine wpAnyH_take (i := 1) (v := ?va2) rfl (by kernel_rfl) (by kernel_rfl) (by kernel_rfl) (fun _ _ _ h => h) (Or.inl ⟨by rfl, ?ya2⟩) (by assumption) ?ra2
    case ya2 => (intro w0 hSw; (try dsimp only at hSw); go_simp; (try with_reducible rfl))
    (try simp only [Act.put, List.getElem_toArray, List.getElem_cons_zero, List.getElem_cons_succ, List.setIfInBounds_toArray, List.set_cons_zero, List.set_cons_succ])
    refine wpAnyH_take (i := 3) (v := ?va3) rfl (by kernel_rfl) (by kernel_rfl) (by kernel_rfl) (fun _ _ _ h => h) (Or.inl ⟨by rfl, ?ya3⟩) (by assumption) ?ra3
    case ya3 => (intro w0 hSw; (try dsimp only at hSw); go_simp; (try with_reducible rfl))
    (try simp only [Act.put, List.getElem_toArray, List.getElem_cons_zero, List.getElem_cons_succ, List.setIfInBounds_toArray, List.set_cons_zero, List.set_cons_succ])
    refine wpAnyH_take (i := 4) (v := ?va4) rfl (by kernel_rfl) (by kernel_rfl) (by kernel_rfl) (fun _ _ _ h => h) (Or.inl ⟨by rfl, ?ya4⟩) (by assumption) ?ra4
    case ya4 => (intro w0 hSw; (try dsimp only at hSw); go_simp; (try with_reducible rfl))
    (try simp only [Act.put, List.getElem_toArray, List.getElem_cons_zero, List.getElem_cons_succ, List.setIfInBounds_toArray, List.set_cons_zero, List.set_cons_succ])
    refine wpAnyH_ready (rs := [2]) (by kernel_rfl) (by simp) ?_
    refine (AllReadyH.cons rfl (fun K hK => ?_) AllReadyH.nil)
    go_simp
    refine (wLen_any u.over oa oc _ ((unhide HX13).s.o.below bw0) (by omega) (unhide HF).fit).mono ?_
    rintro e w14 ⟨rfl, hb14⟩
    dsimp only
    rw [unhide HSUM]
    have hB14 : Below w13.heap.size w13 w14 := below_then bw0 hb14
    have hn14 := (unhide HN13).bn.below hB14
    have ht14 := (unhide HT13).bt.below hB14
    have hx14 := (unhide HX13).b.below hB14
    have nl14 := hn14.1
    have tl14 := ht14.1
    have xl14 := hx14.1
    have HB14 := hide hB14
    have hH14 : (fun w' => w'.cell? ⟨N, 0, none⟩ = some (.slice a1 n.pieces.length k1) ∧ w'.cell? ⟨N, 1, none⟩ = some (.slice a2 n.joints.length k2) ∧ w'.cell? ⟨T, 0, none⟩ = some (.int .i64 t.front.piece) ∧ w'.cell? ⟨T, 1, none⟩ = some (.int .i64 t.front.at_) ∧ w'.cell? ⟨T, 2, none⟩ = some (.int .i64 t.front.way) ∧ w'.cell? ⟨T, 3, none⟩ = some (.int .i64 t.long) ∧ w'.cell? ⟨T, 4, none⟩ = some (.slice ta t.back.length tc) ∧ w'.cell? ⟨X, 0, none⟩ = some (.int .i64 u.code) ∧ w'.cell? ⟨X, 1, none⟩ = some (.int .i64 u.far) ∧ w'.cell? ⟨X, 2, none⟩ = some (.int .i64 u.joint) ∧ w'.cell? ⟨X, 3, none⟩ = some (.int .i64 u.tr.front.piece) ∧ w'.cell? ⟨X, 4, none⟩ = some (.int .i64 u.tr.front.at_) ∧ w'.cell? ⟨X, 5, none⟩ = some (.int .i64 u.tr.front.way) ∧ w'.cell? ⟨X, 6, none⟩ = some (.int .i64 u.tr.long) ∧ w'.cell? ⟨X, 7, none⟩ = some (.slice pa u.tr.back.length pc) ∧ w'.cell? ⟨X, 8, none⟩ = some (.slice oa u.over.length oc)) w14 := ⟨hn14.2.1 0 _ rfl, hn14.2.1 1 _ rfl, ht14.2.1 0 _ rfl, ht14.2.1 1 _ rfl, ht14.2.1 2 _ rfl, ht14.2.1 3 _ rfl, ht14.2.1 4 _ rfl, hx14.2.1 0 _ rfl, hx14.2.1 1 _ rfl, hx14.2.1 2 _ rfl, hx14.2.1 3 _ rfl, hx14.2.1 4 _ rfl, hx14.2.1 5 _ rfl, hx14.2.1 6 _ rfl, hx14.2.1 7 _ rfl, hx14.2.1 8 _ rfl⟩
    clear hb14 hB14 hn14 ht14 hx14
    refine hK.out _ _ hH14 (fun hHeld => ?_)
    clear hK K
    (try simp only [Act.put, List.getElem_toArray, List.getElem_cons_zero, List.getElem_cons_succ, List.setIfInBounds_toArray, List.set_cons_zero, List.set_cons_succ])
    refine wpAnyH_take (i := 5) (v := ?va5) rfl (by kernel_rfl) (by kernel_rfl) (by kernel_rfl) (fun _ _ _ h => h) (Or.inl ⟨by rfl, ?ya5⟩) (by assumption) ?ra5
    case ya5 => (intro w0 hSw; (try dsimp only at hSw); go_simp; (try with_reducible rfl))
    (try simp only [Act.put, List.getElem_toArray, List.getElem_cons_zero, List.getElem_cons_succ, List.setIfInBounds_toArray, List.set_cons_zero, List.set_cons_succ])
    refine wpAnyH_take (i := 6) (v := ?va6) rfl (by kernel_rfl) (by kernel_rfl) (by kernel_rfl) (fun _ _ _ h => h) (Or.inl ⟨by rfl, ?ya6⟩) (by assumption) ?ra6
    case ya6 => (intro w0 hSw; (try dsimp only at hSw); go_simp; (try with_reducible rfl))
    (try simp only [Act.put, List.getElem_toArray, List.getElem_cons_zero, List.getElem_cons_succ, List.setIfInBounds_toArray, List.set_cons_zero, List.set_cons_succ])
    refine wpAnyH_take (i := 7) (v := ?va7) rfl (by kernel_rfl) (by kernel_rfl) (by kernel_rfl) (fun _ _ _ h => h) (Or.inl ⟨by rfl, ?ya7⟩) (by assumption) ?ra7
    case ya7 => (intro w0 hSw; (try dsimp only at hSw); go_simp; (try with_reducible rfl))
    (try simp only [Act.put, List.getElem_toArray, List.getElem_cons_zero, List.getElem_cons_succ, List.setIfInBounds_toArray, List.set_cons_zero, List.set_cons_succ])
    refine wpAnyH_take (i := 8) (v := ?va8) rfl (by kernel_rfl) (by kernel_rfl) (by kernel_rfl) (fun _ _ _ h => h) (Or.inl ⟨by rfl, ?ya8⟩) (by assumption) ?ra8
    case ya8 => (intro w0 hSw; (try dsimp only at hSw); go_simp; (try with_reducible rfl))
    (try simp only [Act.put, List.getElem_toArray, List.getElem_cons_zero, List.getElem_cons_succ, List.setIfInBounds_toArray, List.set_cons_zero, List.set_cons_succ])
    refine wpAnyH_take (i := 9) (v := ?va9) rfl (by kernel_rfl) (by kernel_rfl) (by kernel_rfl) (fun _ _ _ h => h) (Or.inl ⟨by rfl, ?ya9⟩) (by assumption) ?ra9
    case ya9 => (intro w0 hSw; (try dsimp only at hSw); go_simp; (try with_reducible rfl))
    (try simp only [Act.put, List.getElem_toArray, List.getElem_cons_zero, List.getElem_cons_succ, List.setIfInBounds_toArray, List.set_cons_zero, List.set_cons_succ])
    refine wpAnyH_take (i := 12) (v := ?va10) rfl (by kernel_rfl) (by kernel_rfl) (by kernel_rfl) (fun _ _ _ h => h) (Or.inl ⟨by rfl, ?ya10⟩) (by assumption) ?ra10
    case ya10 => (intro w0 hSw; (try dsimp only at hSw); go_simp; (try with_reducible rfl))
    (try simp only [Act.put, List.getElem_toArray, List.getElem_cons_zero, List.getElem_cons_succ, List.setIfInBounds_toArray, List.set_cons_zero, List.set_cons_succ])
    refine wpAnyH_take (i := 13) (v := ?va11) rfl (by kernel_rfl) (by kernel_rfl) (by kernel_rfl) (fun _ _ _ h => h) (Or.inl ⟨by rfl, ?ya11⟩) (by assumption) ?ra11
    case ya11 => (intro w0 hSw; (try dsimp only at hSw); go_simp; (try with_reducible rfl))
    (try simp only [Act.put, List.getElem_toArray, List.getElem_cons_zero, List.getElem_cons_succ, List.setIfInBounds_toArray, List.set_cons_zero, List.set_cons_succ])
    refine wpAnyH_ready (rs := [10]) (by kernel_rfl) (by simp) ?_
    refine (AllReadyH.cons rfl (fun K hK => ?_) AllReadyH.nil)
    go_simp
    refine (dBodyI (t := u.tr) (((unhide HN13).below (unhide HB14)).below bw0) (((unhide HX13).s.s.below (unhide HB14)).below bw0) (unhide HSM) (unhide HR)).mono ?_
    rintro e w15 ⟨ya, yk, rfl, hP15, hb15⟩
    dsimp only
    rw [unhide HYS] at hP15 ⊢
    have HP15 := hide hP15
    clear hP15
    have hB15 : Below w13.heap.size w13 w15 := below_then (unhide HB14) (below_then bw0 hb15)
    have hn15 := (unhide HN13).bn.below hB15
    have ht15 := (unhide HT13).bt.below hB15
    have hx15 := (unhide HX13).b.below hB15
    have nl15 := hn15.1
    have tl15 := ht15.1
    have xl15 := hx15.1
    have HB15 := hide hB15
    have hH15 : (fun w' => w'.cell? ⟨N, 0, none⟩ = some (.slice a1 n.pieces.length k1) ∧ w'.cell? ⟨N, 1, none⟩ = some (.slice a2 n.joints.length k2) ∧ w'.cell? ⟨T, 0, none⟩ = some (.int .i64 t.front.piece) ∧ w'.cell? ⟨T, 1, none⟩ = some (.int .i64 t.front.at_) ∧ w'.cell? ⟨T, 2, none⟩ = some (.int .i64 t.front.way) ∧ w'.cell? ⟨T, 3, none⟩ = some (.int .i64 t.long) ∧ w'.cell? ⟨T, 4, none⟩ = some (.slice ta t.back.length tc) ∧ w'.cell? ⟨X, 0, none⟩ = some (.int .i64 u.code) ∧ w'.cell? ⟨X, 1, none⟩ = some (.int .i64 u.far) ∧ w'.cell? ⟨X, 2, none⟩ = some (.int .i64 u.joint) ∧ w'.cell? ⟨X, 3, none⟩ = some (.int .i64 u.tr.front.piece) ∧ w'.cell? ⟨X, 4, none⟩ = some (.int .i64 u.tr.front.at_) ∧ w'.cell? ⟨X, 5, none⟩ = some (.int .i64 u.tr.front.way) ∧ w'.cell? ⟨X, 6, none⟩ = some (.int .i64 u.tr.long) ∧ w'.cell? ⟨X, 7, none⟩ = some (.slice pa u.tr.back.length pc) ∧ w'.cell? ⟨X, 8, none⟩ = some (.slice oa u.over.length oc)) w15 := ⟨hn15.2.1 0 _ rfl, hn15.2.1 1 _ rfl, ht15.2.1 0 _ rfl, ht15.2.1 1 _ rfl, ht15.2.1 2 _ rfl, ht15.2.1 3 _ rfl, ht15.2.1 4 _ rfl, hx15.2.1 0 _ rfl, hx15.2.1 1 _ rfl, hx15.2.1 2 _ rfl, hx15.2.1 3 _ rfl, hx15.2.1 4 _ rfl, hx15.2.1 5 _ rfl, hx15.2.1 6 _ rfl, hx15.2.1 7 _ rfl, hx15.2.1 8 _ rfl⟩
    clear hb15 hB15 hn15 ht15 hx15
    refine hK.out _ _ hH15 (fun hHeld => ?_)
    clear hK K
    (try simp only [Act.put, List.getElem_toArray, List.getElem_cons_zero, List.getElem_cons_succ, List.setIfInBounds_toArray, List.set_cons_zero, List.set_cons_succ])
    refine wpAnyH_ready (rs := [11]) (by kernel_rfl) (by simp) ?_
    refine (AllReadyH.cons rfl (fun K hK => ?_) AllReadyH.nil)
    go_simp
    refine (wLen_any ys ya yk _ ((unhide HP15).below bw0) (by omega) (unhide HYS ▸ fit_body (unhide HR))).mono ?_
    rintro e w16 ⟨rfl, hb16⟩
    dsimp only
    rw [← unhide HYS, unhide HBS]
    have hB16 : Below w13.heap.size w13 w16 := below_then (unhide HB15) (below_then bw0 hb16)
    have hn16 := (unhide HN13).bn.below hB16
    have ht16 := (unhide HT13).bt.below hB16
    have hx16 := (unhide HX13).b.below hB16
    have nl16 := hn16.1
    have tl16 := ht16.1
    have xl16 := hx16.1
    have HB16 := hide hB16
    have hH16 : (fun w' => w'.cell? ⟨N, 0, none⟩ = some (.slice a1 n.pieces.length k1) ∧ w'.cell? ⟨N, 1, none⟩ = some (.slice a2 n.joints.length k2) ∧ w'.cell? ⟨T, 0, none⟩ = some (.int .i64 t.front.piece) ∧ w'.cell? ⟨T, 1, none⟩ = some (.int .i64 t.front.at_) ∧ w'.cell? ⟨T, 2, none⟩ = some (.int .i64 t.front.way) ∧ w'.cell? ⟨T, 3, none⟩ = some (.int .i64 t.long) ∧ w'.cell? ⟨T, 4, none⟩ = some (.slice ta t.back.length tc) ∧ w'.cell? ⟨X, 0, none⟩ = some (.int .i64 u.code) ∧ w'.cell? ⟨X, 1, none⟩ = some (.int .i64 u.far) ∧ w'.cell? ⟨X, 2, none⟩ = some (.int .i64 u.joint) ∧ w'.cell? ⟨X, 3, none⟩ = some (.int .i64 u.tr.front.piece) ∧ w'.cell? ⟨X, 4, none⟩ = some (.int .i64 u.tr.front.at_) ∧ w'.cell? ⟨X, 5, none⟩ = some (.int .i64 u.tr.front.way) ∧ w'.cell? ⟨X, 6, none⟩ = some (.int .i64 u.tr.long) ∧ w'.cell? ⟨X, 7, none⟩ = some (.slice pa u.tr.back.length pc) ∧ w'.cell? ⟨X, 8, none⟩ = some (.slice oa u.over.length oc)) w16 := ⟨hn16.2.1 0 _ rfl, hn16.2.1 1 _ rfl, ht16.2.1 0 _ rfl, ht16.2.1 1 _ rfl, ht16.2.1 2 _ rfl, ht16.2.1 3 _ rfl, ht16.2.1 4 _ rfl, hx16.2.1 0 _ rfl, hx16.2.1 1 _ rfl, hx16.2.1 2 _ rfl, hx16.2.1 3 _ rfl, hx16.2.1 4 _ rfl, hx16.2.1 5 _ rfl, hx16.2.1 6 _ rfl, hx16.2.1 7 _ rfl, hx16.2.1 8 _ rfl⟩
    clear hb16 hB16 hn16 ht16 hx16
    refine hK.out _ _ hH16 (fun hHeld => ?_)
    clear hK K
    (try simp only [Act.put, List.getElem_toArray, List.getElem_cons_zero, List.getElem_cons_succ, List.setIfInBounds_toArray, List.set_cons_zero, List.set_cons_succ])
    refine wpAnyH_take (i := 14) (v := ?va12) rfl (by kernel_rfl) (by kernel_rfl) (by kernel_rfl) (fun _ _ _ h => h) (Or.inl ⟨by rfl, ?ya12⟩) (by assumption) ?ra12
    case ya12 => (intro w0 hSw; (try dsimp only at hSw); go_simp; (try with_reducible rfl))
    (try simp only [Act.put, List.getElem_toArray, List.getElem_cons_zero, List.getElem_cons_succ, List.setIfInBounds_toArray, List.set_cons_zero, List.set_cons_succ])
    refine wpAnyH_take (i := 15) (v := ?va13) rfl (by kernel_rfl) (by kernel_rfl) (by kernel_rfl) (fun _ _ _ h => h) (Or.inl ⟨by rfl, ?ya13⟩) (by assumption) ?ra13
    case ya13 => (intro w0 hSw; (try dsimp only at hSw); go_simp; (try with_reducible rfl))
    (try simp only [Act.put, List.getElem_toArray, List.getElem_cons_zero, List.getElem_cons_succ, List.setIfInBounds_toArray, List.set_cons_zero, List.set_cons_succ])
    refine wpAnyH_take (i := 16) (v := ?va14) rfl (by kernel_rfl) (by kernel_rfl) (by kernel_rfl) (fun _ _ _ h => h) (Or.inl ⟨by rfl, ?ya14⟩) (by assumption) ?ra14
    case ya14 => (intro w0 hSw; (try dsimp only at hSw); go_simp; (try with_reducible rfl))
    (try simp only [Act.put, List.getElem_toArray, List.getElem_cons_zero, List.getElem_cons_succ, List.setIfInBounds_toArray, List.set_cons_zero, List.set_cons_succ])
    refine wpAnyH_take (i := 17) (v := ?va15) rfl (by kernel_rfl) (by kernel_rfl) (by kernel_rfl) (fun _ _ _ h => h) (Or.inl ⟨by rfl, ?ya15⟩) (by assumption) ?ra15
    case ya15 => (intro w0 hSw; (try dsimp only at hSw); go_simp; (try with_reducible rfl))
    (try simp only [Act.put, List.getElem_toArray, List.getElem_cons_zero, List.getElem_cons_succ, List.setIfInBounds_toArray, List.set_cons_zero, List.set_cons_succ])
    refine wpAnyH_take (i := 18) (v := ?va16) rfl (by kernel_rfl) (by kernel_rfl) (by kernel_rfl) (fun _ _ _ h => h) (Or.inl ⟨by rfl, ?ya16⟩) (by assumption) ?ra16
    case ya16 => (intro w0 hSw; (try dsimp only at hSw); go_simp; (try with_reducible rfl))
    (try simp only [Act.put, List.getElem_toArray, List.getElem_cons_zero, List.getElem_cons_succ, List.setIfInBounds_toArray, List.set_cons_zero, List.set_cons_succ])
    refine wpAnyH_take (i := 19) (v := ?va17) rfl (by kernel_rfl) (by kernel_rfl) (by kernel_rfl) (fun _ _ _ h => h) (Or.inl ⟨by rfl, ?ya17⟩) (by assumption) ?ra17
    case ya17 => (intro w0 hSw; (try dsimp only at hSw); go_simp; (try with_reducible rfl))
    (try simp only [Act.put, List.getElem_toArray, List.getElem_cons_zero, List.getElem_cons_succ, List.setIfInBounds_toArray, List.set_cons_zero, List.set_cons_succ])
    refine wpAnyH_ready (rs := [20]) (by kernel_rfl) (by simp) ?_
    refine (AllReadyH.cons rfl (fun K hK => ?_) AllReadyH.nil)
    go_simp
    refine (dTrainI (t := u.tr) (b := true) (((unhide HN13).below (unhide HB16)).below bw0) (((unhide HX13).s.s.below (unhide HB16)).below bw0) (unhide HSM) (by omega) (by simp [unhide HR])).mono ?_
    rintro e w17 ⟨rfl, hb17⟩
    dsimp only
    have hB17 : Below w13.heap.size w13 w17 := below_then (unhide HB16) (below_then bw0 hb17)
    have hn17 := (unhide HN13).bn.below hB17
    have ht17 := (unhide HT13).bt.below hB17
    have hx17 := (unhide HX13).b.below hB17
    have nl17 := hn17.1
    have tl17 := ht17.1
    have xl17 := hx17.1
    have HB17 := hide hB17
    have hH17 : (fun w' => w'.cell? ⟨N, 0, none⟩ = some (.slice a1 n.pieces.length k1) ∧ w'.cell? ⟨N, 1, none⟩ = some (.slice a2 n.joints.length k2) ∧ w'.cell? ⟨T, 0, none⟩ = some (.int .i64 t.front.piece) ∧ w'.cell? ⟨T, 1, none⟩ = some (.int .i64 t.front.at_) ∧ w'.cell? ⟨T, 2, none⟩ = some (.int .i64 t.front.way) ∧ w'.cell? ⟨T, 3, none⟩ = some (.int .i64 t.long) ∧ w'.cell? ⟨T, 4, none⟩ = some (.slice ta t.back.length tc) ∧ w'.cell? ⟨X, 0, none⟩ = some (.int .i64 u.code) ∧ w'.cell? ⟨X, 1, none⟩ = some (.int .i64 u.far) ∧ w'.cell? ⟨X, 2, none⟩ = some (.int .i64 u.joint) ∧ w'.cell? ⟨X, 3, none⟩ = some (.int .i64 u.tr.front.piece) ∧ w'.cell? ⟨X, 4, none⟩ = some (.int .i64 u.tr.front.at_) ∧ w'.cell? ⟨X, 5, none⟩ = some (.int .i64 u.tr.front.way) ∧ w'.cell? ⟨X, 6, none⟩ = some (.int .i64 u.tr.long) ∧ w'.cell? ⟨X, 7, none⟩ = some (.slice pa u.tr.back.length pc) ∧ w'.cell? ⟨X, 8, none⟩ = some (.slice oa u.over.length oc)) w17 := ⟨hn17.2.1 0 _ rfl, hn17.2.1 1 _ rfl, ht17.2.1 0 _ rfl, ht17.2.1 1 _ rfl, ht17.2.1 2 _ rfl, ht17.2.1 3 _ rfl, ht17.2.1 4 _ rfl, hx17.2.1 0 _ rfl, hx17.2.1 1 _ rfl, hx17.2.1 2 _ rfl, hx17.2.1 3 _ rfl, hx17.2.1 4 _ rfl, hx17.2.1 5 _ rfl, hx17.2.1 6 _ rfl, hx17.2.1 7 _ rfl, hx17.2.1 8 _ rfl⟩
    clear hb17 hB17 hn17 ht17 hx17
    refine hK.out _ _ hH17 (fun hHeld => ?_)
    clear hK K
    (try simp only [Act.put, List.getElem_toArray, List.getElem_cons_zero, List.getElem_cons_succ, List.setIfInBounds_toArray, List.set_cons_zero, List.set_cons_succ])
    refine wpAnyH_take (i := 21) (v := ?va18) rfl (by kernel_rfl) (by kernel_rfl) (by kernel_rfl) (fun _ _ _ h => h) (Or.inl ⟨by rfl, ?ya18⟩) (by assumption) ?ra18
    case ya18 => (intro w0 hSw; (try dsimp only at hSw); go_simp; (try with_reducible rfl))
    (try simp only [Act.put, List.getElem_toArray, List.getElem_cons_zero, List.getElem_cons_succ, List.setIfInBounds_toArray, List.set_cons_zero, List.set_cons_succ])
    refine wpAnyH_take (i := 22) (v := ?va19) rfl (by kernel_rfl) (by kernel_rfl) (by kernel_rfl) (fun _ _ _ h => h) (Or.inl ⟨by rfl, ?ya19⟩) (by assumption) ?ra19
    case ya19 => (intro w0 hSw; (try dsimp only at hSw); go_simp; (try with_reducible rfl))
    (try simp only [Act.put, List.getElem_toArray, List.getElem_cons_zero, List.getElem_cons_succ, List.setIfInBounds_toArray, List.set_cons_zero, List.set_cons_succ])
    refine wpAnyH_done (by kernel_rfl) ?_ _
    clear hHeld hH14 hH15 hH16 hH17 nl14 nl15 nl16 nl17 tl14 tl15 tl16 tl17 xl14 xl15 xl16 xl17
    clear n0 n1 nl t0 t1 t2 t3 t4 tl x0 x1 x2 x3 x4 x5 x6 x7 x8 xl
    have HN18 := hide ((unhide HN13).below (unhide HB17))
    have HT18 := hide ((unhide HT13).below (unhide HB17))
    have HM18 := hide ((unhide HM13).below (unhide HB17))
    have HX18 := hide ((unhide HX13).below (unhide HB17))
    have HB18 := hide ((unhide HB13).trans ((unhide HB17).mono (unhide HB13).size))
    clear HN13 HT13 HM13 HX13 HB13 HB14 HB15 HB16 HB17 HP15
    have hwab : IntKind.i64.wrap (a + b) = a + b := wrap_small (by omega) (by omega)
    have n0 := (unhide HN18).bn.2.1 0 _ rfl
    have n1 := (unhide HN18).bn.2.1 1 _ rfl
    have nl := (unhide HN18).bn.1
    have t0 := (unhide HT18).bt.2.1 0 _ rfl
    have t1 := (unhide HT18).bt.2.1 1 _ rfl
    have t2 := (unhide HT18).bt.2.1 2 _ rfl
    have t3 := (unhide HT18).bt.2.1 3 _ rfl
    have t4 := (unhide HT18).bt.2.1 4 _ rfl
    have tl := (unhide HT18).bt.1
    go_wp2_with fail
    clear n0 n1 nl t0 t1 t2 t3 t4 tl
    refine (dMoveI (F := a + b) (unhide HN18) (unhide HT18).s (unhide HM18).gl (unhide HSM) hbk).mono ?_
    rintro e w19 ⟨y, fa, fc, ga, gc, hy, rfl, hM19, hb19⟩
    dsimp only
    by_cases hc : u.code = 0
    ·have hyz : (u.code != 0) = false := by simp [hc]
     have HC := hide hc
     clear hc
     have HY := hide hy
     clear hy
     have HN19 := hide ((unhide HN18).below hb19)
     have HT19 := hide ((unhide HT18).below hb19)
     have HM19 := hide ((unhide HM18).below hb19)
     have HX19 := hide ((unhide HX18).below hb19)
     have HB19 := hide ((unhide HB18).trans (hb19.mono (unhide HB18).size))
     clear hb19 HN18 HT18 HM18 HX18 HB18
     have hBx := Mw.box hM19 gc 38
     have hAl : Below w19.heap.size w19 (w19.alloc (.cells #[.int .i64 y.code, .int .i64 y.far, .int .i64 y.joint, .int .i64 y.tr.front.piece, .int .i64 y.tr.front.at_, .int .i64 y.tr.front.way, .int .i64 y.tr.long, .slice fa y.tr.back.length fc, .slice ga y.over.length gc] 38)) := bw0
     have n0 := (unhide HN19).bn.2.1 0 _ rfl
     have n1 := (unhide HN19).bn.2.1 1 _ rfl
     have nl := (unhide HN19).bn.1
     have x0 := (unhide HX19).b.2.1 0 _ rfl
     have x1 := (unhide HX19).b.2.1 1 _ rfl
     have x2 := (unhide HX19).b.2.1 2 _ rfl
     have x3 := (unhide HX19).b.2.1 3 _ rfl
     have x4 := (unhide HX19).b.2.1 4 _ rfl
     have x5 := (unhide HX19).b.2.1 5 _ rfl
     have x6 := (unhide HX19).b.2.1 6 _ rfl
     have x7 := (unhide HX19).b.2.1 7 _ rfl
     have x8 := (unhide HX19).b.2.1 8 _ rfl
     have xl := (unhide HX19).b.1
     have eN1 : N ≠ w19.heap.size := Nat.ne_of_lt nl
     have eN2 : w19.heap.size ≠ N := eN1.symm
     have eX1 : X ≠ w19.heap.size := Nat.ne_of_lt xl
     have eX2 : w19.heap.size ≠ X := eX1.symm
     go_wp2_with fail
     clear n0 n1 nl x0 x1 x2 x3 x4 x5 x6 x7 x8 xl
     clear eN1 eN2 eX1 eX2
     obtain ⟨w20, hwa⟩ : ∃ w20, w19.alloc (.cells #[.int .i64 y.code, .int .i64 y.far, .int .i64 y.joint, .int .i64 y.tr.front.piece, .int .i64 y.tr.front.at_, .int .i64 y.tr.front.way, .int .i64 y.tr.long, .slice fa y.tr.back.length fc, .slice ga y.over.length gc] 38) = w20 := ⟨_, rfl⟩
     obtain ⟨Z, hBe⟩ : ∃ Z, w19.heap.size = Z := ⟨_, rfl⟩
     rw [hwa] at hBx hAl ⊢
     rw [hBe] at hBx ⊢
     have HZ20 := hide hBx
     have HN20 := hide ((unhide HN19).below hAl)
     have HT20 := hide ((unhide HT19).below hAl)
     have HM20 := hide ((unhide HM19).below hAl)
     have HX20 := hide ((unhide HX19).below hAl)
     have HB20 := hide ((unhide HB19).trans (hAl.mono (unhide HB19).size))
     clear hM19 hBx hAl hwa hBe HN19 HT19 HM19 HX19 HB19
     refine (dMoveI (t := u.tr) (F := b) (unhide HN20) (unhide HX20).s.s (unhide HM20).gl (unhide HSM) (by omega)).mono ?_
     rintro e w21 ⟨z, ca, cc, da, dc, hz, rfl, hM21, hb21⟩
     dsimp only
     obtain ⟨q1, q2, q3⟩ := mv_on (unhide HSR) ha.1 hb.1 (by omega) (unhide HU) (unhide HY) hz (unhide HC)
     have hzf := (hz.facts (unhide HF).sits ⟨hb.1, by omega⟩).far
     have hwz : IntKind.i64.wrap (z.far + a) = y.far := (wrap_small (by omega) (by omega)).trans q2
     have hzl := hz.len.1
     clear hz q2 hzf hyz
     obtain ⟨zc0, zf0, zj0, zt0, zo0⟩ := z
     dsimp only at q1 q3 hwz hzl hM21 ⊢
     subst q1 q3
     have HN21 := hide ((unhide HN20).below hb21)
     have HT21 := hide ((unhide HT20).below hb21)
     have HM21 := hide ((unhide HM20).below hb21)
     have HX21 := hide ((unhide HX20).below hb21)
     have HZ21 := hide ((unhide HZ20).below hb21)
     have HB21 := hide ((unhide HB20).trans (hb21.mono (unhide HB20).size))
     clear hb21 HN20 HT20 HM20 HX20 HZ20 HB20
     have hBx := Mw.box hM21 dc 38
     (try dsimp only at hBx)
     have hAl : Below w21.heap.size w21 (w21.alloc (.cells #[.int .i64 y.code, .int .i64 zf0, .int .i64 zj0, .int .i64 y.tr.front.piece, .int .i64 y.tr.front.at_, .int .i64 y.tr.front.way, .int .i64 y.tr.long, .slice ca y.tr.back.length cc, .slice da zo0.length dc] 38)) := bw0
     have z0 := (unhide HZ21).b.2.1 0 _ rfl
     have z1 := (unhide HZ21).b.2.1 1 _ rfl
     have z2 := (unhide HZ21).b.2.1 2 _ rfl
     have z3 := (unhide HZ21).b.2.1 3 _ rfl
     have z4 := (unhide HZ21).b.2.1 4 _ rfl
     have z5 := (unhide HZ21).b.2.1 5 _ rfl
     have z6 := (unhide HZ21).b.2.1 6 _ rfl
     have z7 := (unhide HZ21).b.2.1 7 _ rfl
     have z8 := (unhide HZ21).b.2.1 8 _ rfl
     have zl := (unhide HZ21).b.1
     have eZ1 : Z ≠ w21.heap.size := Nat.ne_of_lt zl
     have eZ2 : w21.heap.size ≠ Z := eZ1.symm
     go_wp2_with fail
     clear z0 z1 z2 z3 z4 z5 z6 z7 z8 zl
     clear eZ1 eZ2
     obtain ⟨w22, hwa⟩ : ∃ w22, w21.alloc (.cells #[.int .i64 y.code, .int .i64 zf0, .int .i64 zj0, .int .i64 y.tr.front.piece, .int .i64 y.tr.front.at_, .int .i64 y.tr.front.way, .int .i64 y.tr.long, .slice ca y.tr.back.length cc, .slice da zo0.length dc] 38) = w22 := ⟨_, rfl⟩
     obtain ⟨V, hBe⟩ : ∃ V, w21.heap.size = V := ⟨_, rfl⟩
     rw [hwa] at hBx hAl ⊢
     rw [hBe] at hBx ⊢
     have HV22 := hide hBx
     have HN22 := hide ((unhide HN21).below hAl)
     have HT22 := hide ((unhide HT21).below hAl)
     have HM22 := hide ((unhide HM21).below hAl)
     have HX22 := hide ((unhide HX21).below hAl)
     have HZ22 := hide ((unhide HZ21).below hAl)
     have HB22 := hide ((unhide HB21).trans (hAl.mono (unhide HB21).size))
     clear hM21 hBx hAl hwa hBe HN21 HT21 HM21 HX21 HZ21 HB21
     refine (wTrain_same y.tr ca fa cc fc _ (unhide HV22).s.s.sts (unhide HZ22).s.s.sts (by omega)).mono ?_
     rintro e w23 ⟨rfl, hb23⟩
     dsimp only
     go_wp2_with fail
     go_ret
     exact ⟨rfl, (unhide HB22).trans (hb23.mono (unhide HB22).size)⟩
    ·have hyz : (u.code != 0) = true := by simp [hc]
     obtain ⟨q1, q2⟩ := mv_bar (unhide HSR) ha.1 hb.1 (by omega) (unhide HU) hy hc
     have HC := hide hc
     clear hc hy
     obtain ⟨yc0, yf0, yj0, yt0, yo0⟩ := y
     dsimp only at q1 q2 hM19 ⊢
     subst q1 q2
     have HN19 := hide ((unhide HN18).below hb19)
     have HT19 := hide ((unhide HT18).below hb19)
     have HM19 := hide ((unhide HM18).below hb19)
     have HX19 := hide ((unhide HX18).below hb19)
     have HB19 := hide ((unhide HB18).trans (hb19.mono (unhide HB18).size))
     clear hb19 HN18 HT18 HM18 HX18 HB18
     have hBx := Mw.box hM19 gc 38
     (try dsimp only at hBx)
     have hAl : Below w19.heap.size w19 (w19.alloc (.cells #[.int .i64 u.code, .int .i64 yf0, .int .i64 yj0, .int .i64 u.tr.front.piece, .int .i64 u.tr.front.at_, .int .i64 u.tr.front.way, .int .i64 u.tr.long, .slice fa u.tr.back.length fc, .slice ga yo0.length gc] 38)) := bw0
     have x0 := (unhide HX19).b.2.1 0 _ rfl
     have x1 := (unhide HX19).b.2.1 1 _ rfl
     have x2 := (unhide HX19).b.2.1 2 _ rfl
     have x3 := (unhide HX19).b.2.1 3 _ rfl
     have x4 := (unhide HX19).b.2.1 4 _ rfl
     have x5 := (unhide HX19).b.2.1 5 _ rfl
     have x6 := (unhide HX19).b.2.1 6 _ rfl
     have x7 := (unhide HX19).b.2.1 7 _ rfl
     have x8 := (unhide HX19).b.2.1 8 _ rfl
     have xl := (unhide HX19).b.1
     have eX1 : X ≠ w19.heap.size := Nat.ne_of_lt xl
     have eX2 : w19.heap.size ≠ X := eX1.symm
     go_wp2_with fail
     clear x0 x1 x2 x3 x4 x5 x6 x7 x8 xl
     clear eX1 eX2
     obtain ⟨w20, hwa⟩ : ∃ w20, w19.alloc (.cells #[.int .i64 u.code, .int .i64 yf0, .int .i64 yj0, .int .i64 u.tr.front.piece, .int .i64 u.tr.front.at_, .int .i64 u.tr.front.way, .int .i64 u.tr.long, .slice fa u.tr.back.length fc, .slice ga yo0.length gc] 38) = w20 := ⟨_, rfl⟩
     obtain ⟨Z, hBe⟩ : ∃ Z, w19.heap.size = Z := ⟨_, rfl⟩
     rw [hwa] at hBx hAl ⊢
     rw [hBe] at hBx ⊢
     have HZ20 := hide hBx
     have HN20 := hide ((unhide HN19).below hAl)
     have HT20 := hide ((unhide HT19).below hAl)
     have HM20 := hide ((unhide HM19).below hAl)
     have HX20 := hide ((unhide HX19).below hAl)
     have HB20 := hide ((unhide HB19).trans (hAl.mono (unhide HB19).size))
     clear hM19 hBx hAl hwa hBe HN19 HT19 HM19 HX19 HB19
     refine (wTrain_same u.tr fa pa fc pc _ (unhide HZ20).s.s.sts (unhide HX20).s.s.sts (by omega)).mono ?_
     rintro e w21 ⟨rfl, hb21⟩
     dsimp only
     go_wp2_with fail
     go_ret
     exact ⟨rfl, (unhide HB20).trans (hb21.mono (unhide HB20).size)⟩
end Go.Proofs.YtbdggfpfpjijoaaGreatDoor

