import Derived.Test.YtjacbppeebnjfaaGreatMImpl3
import Derived.Test.YtjacbppeebnjfaaGreatMRead
import Derived.BigRegion
namespace Go.Proofs.YtjacbppeebnjfaaGreat
open Go.RowKit

def endsName : String := String.ofList ([108, 111, 111, 112, 46, 101, 120, 97, 109, 112, 108, 101, 47, 102, 111, 111, 116, 112, 108, 97, 116, 101, 47, 105, 109, 112, 108, 46, 101, 110, 100, 115].map Char.ofNat)

theorem ShV.calls {v : Value} {kd : Int} {es : List Ed} (h : ShV v kd es) : ∃ u x f, v = .iface u x ∧ (∀ w, (method 355 u x endsName).run Tryz.prog w = .ok (f, x) w) ∧ (∀ w, (callFunc f #[x]).run Tryz.prog w = .ok (.enter f #[x]) w)
  ∧ ∀ w, Calls Tryz.prog f #[x] w fun e w' => ∃ B, e = .returned (.slice (some ⟨B, 0, none⟩) es.length es.length) ∧ EdsAt w.heap.size w' (some ⟨B, 0, none⟩) es ∧ Below w.heap.size w w' := by
 rcases h with ⟨a, rfl, rfl, rfl⟩ | ⟨a, b, rfl, rfl, rfl⟩ | ⟨a, b, c, rfl, rfl, rfl⟩ | ⟨a, b, c, d, rfl, rfl, rfl⟩
 ·exact ⟨_, _, 159, rfl, fun w => by kernel_rfl, fun w => by kernel_rfl, fun w => ends1_any a w⟩
 ·exact ⟨_, _, 157, rfl, fun w => by kernel_rfl, fun w => by kernel_rfl, fun w => ends2_any a b w⟩
 ·exact ⟨_, _, 156, rfl, fun w => by kernel_rfl, fun w => by kernel_rfl, fun w => ends3_any a b c w⟩
 ·exact ⟨_, _, 158, rfl, fun w => by kernel_rfl, fun w => by kernel_rfl, fun w => ends4_any a b c d w⟩

theorem upon_ends {P : Program} {o : Oper} {a : Act} {K : Act → World → Prop} {Q : Exit → Act → World → Prop} {n u f : Nat} {v : Value} {name : String} {w : World} {g : FuncId × Value → World → Result Next}
  (hn : name = endsName) (hm : (method n u v endsName).run P w = .ok (f, v) w) (h : Oper.upon P o a K Q (g (f, v) w)) : Oper.upon P o a K Q (((method n u v name).run P w).andThen g) := by
 subst hn
 rw [hm]
 exact h

theorem info_pair : (Tryz.prog.info? 196).map (fun i => (i.zero, i.size, i.bytes)) = some (some (.agg #[.int .i64 0, .int .i64 0]), 2, 16) := by kernel_rfl

def cnt (js : List Jt) (es : List Ed) (q : Nat) : Value := .int .i64 ((uses js ((q / 2 : Nat) : Int) ((q % 2 : Nat) : Int) + usesIn es ((q / 2 : Nat) : Int) ((q % 2 : Nat) : Int) : Nat) : Int)

theorem row_madeN (w : World) (z : Array Value) (n : Nat) (t : TypeId) {N : Nat} (h : N = w.heap.size) : (w.alloc (.cells (madeCells z n) t)).rowIs N t n (fun i => z[i % z.size]!) := h ▸ row_made w z n t

theorem cnt_start (i : Nat) : (#[Value.int .i64 0, Value.int .i64 0] : Array Value)[i % (#[Value.int .i64 0, Value.int .i64 0] : Array Value).size]! = cnt [] [] i := by
 rcases Nat.mod_two_eq_zero_or_one i with h | h <;> simp [h, cnt, uses, usesIn]

theorem cnt_none (js : List Jt) (k : Nat) (hk : k < js.length) (q : Nat) : cnt (js.take k) js[k].ends q = cnt (js.take (k + 1)) [] q := by
 simp [cnt, uses_succ js _ _ k hk, usesIn]

theorem cnt_step (js : List Jt) (es : List Ed) (m pn sn : Nat) (hm : m < es.length) (he : es[m] = ⟨pn, sn⟩) (hs : sn ≤ 1) (q : Nat) :
  (if q = pn * 2 + sn then .int .i64 (((uses js pn sn + usesIn (es.take m) pn sn : Nat) : Int) + 1) else cnt js (es.take m) q) = cnt js (es.take (m + 1)) q := by
 unfold cnt
 rw [usesIn_succ es _ _ m hm, he]
 by_cases hq : q = pn * 2 + sn
 ·rw [if_pos hq]
  have h1 : q / 2 = pn := by omega
  have h2 : q % 2 = sn := by omega
  rw [h1, h2, if_pos (by simp [isEd])]
  congr 1
 ·rw [if_neg hq, if_neg (by
   simp [isEd]
   omega)]
  rfl

set_option maxRecDepth 100000 in
set_option maxHeartbeats 1000000 in
theorem wrongEnds_any (v : Value) (n : Nt) (w : World) {L : Nat} (hv : NetAt L w v n) (hl : n.pieces.length ≤ 100) (hl' : n.joints.length ≤ 120) (hF : ∀ i (h : i < n.joints.length), JtFits n.pieces.length n.joints[i]) :
  Calls Tryz.prog 124 #[v] w fun e w' => ∃ r : Int, e = .returned (.int .i64 r) ∧ IsFirst (Bad5 n.joints) n.pieces.length r ∧ Below w.heap.size w w' := by
 obtain ⟨a, c, ca, cc, rfl, hp, hj⟩ := hv
 have hmk := run_make_rows (P := Tryz.prog) 63 196 _ 2 16 (by kernel_rfl) info_pair n.pieces.length (by omega) (by omega)
 go_enter Tryz.func124, Tryz.ntmps124
 go_wp2_with fail
 go_loopw [19] (fun x wr => ∃ k : Nat, k ≤ n.joints.length ∧ x = .int .i64 k ∧ wr.rowIs (w.heap.size + 1) 196 (n.pieces.length * 2) (cnt (n.joints.take k) []) ∧ Below w.heap.size w wr) (fun x _ => n.joints.length - (intOf x).toNat)
 case atStart => exact ⟨0, Nat.zero_le _, rfl, (row_madeN _ _ _ _ (by simp)).congr fun i _ => cnt_start i, bw0⟩
 case round =>
  obtain ⟨k, hk, rfl, hrow, hb⟩ := hrel
  clear hmk
  by_cases hlt : k < n.joints.length
  ·obtain ⟨b, off, ea, ec, rfl, hbs, c0, c1, c2, he⟩ := hj.below hb k hlt
   have hfit := hF k hlt
   have hsz := hb.size
   have hb0 : Below wr.heap.size wr (wr.alloc (.cells #[.int .i64 n.joints[k].kind, .string n.joints[k].name, .slice ea n.joints[k].ends.length ec] 56)) := bw0
   have heA := he.below hb0
   have HROW := hide hrow
   have hM := hrow.lt
   have HFIT := hide hfit
   clear hrow hfit
   go_wp2_with fail
   refine (shapeOf_any _ _ _ _ _ _ heA ⟨(unhide HFIT).1, (unhide HFIT).2.1⟩).mono ?_
   rintro e w1 ⟨sv, rfl, hsv, hb1⟩
   have hb1' := below_then hb0 hb1
   obtain ⟨u, x, f, rfl, hm, hcf, hcall⟩ := hsv.calls
   have HM := hide hm
   have HC := hide hcall
   clear hm hcall
   go_wp2_with fail
   refine upon_ends (by decide) (unhide HM _) ?_
   go_wp2_with fail
   refine (unhide HC _).mono ?_
   rintro e w2 ⟨B, rfl, hE, hb2⟩
   have hb2' := below_then hb1' hb2
   have hrow2 := (unhide HROW).of_block (hb2'.block _ hM)
   have hM2 := hrow2.lt
   have hE2 := hE.mono (L' := w.heap.size + 2) (by have := hb1'.size; omega)
   have HROW2 := hide hrow2
   clear hrow2 hcf hE
   go_wp2_with fail
   go_loopw [33] (fun x wq => ∃ m : Nat, m ≤ n.joints[k].ends.length ∧ x = .int .i64 m ∧ wq.rowIs (w.heap.size + 1) 196 (n.pieces.length * 2) (cnt (n.joints.take k) (n.joints[k].ends.take m)) ∧ Keeps (w.heap.size + 2) w2 wq ∧ Below w.heap.size w wq) (fun x _ => n.joints[k].ends.length - (intOf x).toNat)
   case atStart => exact ⟨0, Nat.zero_le _, rfl, unhide HROW2, keeps_below _ (Below.refl _ _), below_then hb hb2'⟩
   case round =>
    obtain ⟨m, hm, rfl, hrow, hkp, hbq⟩ := hrel
    have hMq := hrow.lt
    by_cases hlt2 : m < n.joints[k].ends.length
    ·obtain ⟨B', off', hq, hbs', x0, y0⟩ := hE2.keeps hkp m hlt2
     obtain ⟨rfl, rfl⟩ : B = B' ∧ 0 = off' := by simpa using hq
     have hef := (unhide HFIT).2.2 m hlt2
     generalize hx : n.joints[k].ends[m] = ed at *
     obtain ⟨p0, s0⟩ := ed
     obtain ⟨⟨hp0, hp1⟩, hs0, hs1⟩ := hef
     obtain ⟨pn, rfl⟩ := Int.eq_ofNat_of_zero_le hp0
     obtain ⟨sn, rfl⟩ := Int.eq_ofNat_of_zero_le hs0
     have HX := hide hx
     clear hx hq
     simp only [Nat.zero_add] at x0 y0
     dsimp only at hp1 hs1 x0 y0
     have y1 := hrow.cell (i := pn * 2 + sn) (by omega)
     have z1 := hrow.frozen (pn * 2 + sn)
     have q1 : (pn * 2 + sn) / 2 = pn := by omega
     have q2 : (pn * 2 + sn) % 2 = sn := by omega
     unfold cnt at y1
     rw [q1, q2] at y1
     clear q1 q2
     have hu1 := uses_le n.joints pn sn 4 (fun i h => by have := hF i h; have h2 := this.2.1; have h3 := this.1.2; omega) k hk
     have hu2 := usesIn_le (n.joints[k].ends.take m) pn sn
     have hu3 : (n.joints[k].ends.take m).length ≤ m := List.length_take_le _ _
     have hu4 : n.joints[k].ends.length ≤ 4 := by have h2 := (unhide HFIT).2.1; have h3 := (unhide HFIT).1.2; omega
     have HROW := hide hrow
     clear hrow
     go_wp2_with fail
     go_region
     go_wp2
     refine ⟨⟨m + 1, by omega, by go_num, ?_, hkp.trans ((keeps_setCell _ (p := ⟨w.heap.size + 1, pn * 2 + sn, none⟩) (Nat.lt_succ_self _) _).trans (keeps_below _ bw0)), (bw1 hbq)⟩, by simp [intOf]; omega⟩
     refine ((((unhide HROW).set _ _).alloc _).drew).congr fun q _ => ?_
     exact (cnt_step _ _ _ _ _ hlt2 (unhide HX) (by omega) q)
    ·go_wp2
     refine ⟨⟨k + 1, by omega, by go_num, hrow.congr fun q _ => ?_, hbq⟩, by simp [intOf]; omega⟩
     have e1 : n.joints[k].ends.take m = n.joints[k].ends := List.take_of_length_le (by omega)
     rw [e1]
     exact cnt_none _ _ hlt _
  ·have e1 : n.joints.take k = n.joints := List.take_of_length_le (by omega)
   rw [e1] at hrow
   clear hF e1
   have hM := hrow.lt
   have HROW := hide hrow
   clear hrow
   go_wp2_with fail
   go_loopw [52] (fun x wq => ∃ i : Nat, i ≤ n.pieces.length ∧ x = .int .i64 i ∧ (∀ j, j < i → ¬ Bad5 n.joints j) ∧ wq.rowIs (w.heap.size + 1) 196 (n.pieces.length * 2) (cnt n.joints []) ∧ Below w.heap.size w wq) (fun x _ => n.pieces.length - (intOf x).toNat)
   case atStart => exact ⟨0, Nat.zero_le _, rfl, fun j h => by omega, unhide HROW, hb⟩
   case round =>
    clear hM HROW hb
    obtain ⟨i, hi, rfl, hall, hrow, hb⟩ := hrel
    have hM := hrow.lt
    by_cases hlt2 : i < n.pieces.length
    ·have y0 : wr.cell? ⟨w.heap.size + 1, i * 2, none⟩ = some (.int .i64 (uses n.joints i 0 : Nat)) := by
      have h1 : i * 2 / 2 = i := by omega
      have h2 : i * 2 % 2 = 0 := by omega
      rw [hrow.cell (i := i * 2) (by omega)]
      simp [cnt, h1, h2, usesIn]
     have y1 : wr.cell? ⟨w.heap.size + 1, i * 2 + 1, none⟩ = some (.int .i64 (uses n.joints i 1 : Nat)) := by
      have h1 : (i * 2 + 1) / 2 = i := by omega
      have h2 : (i * 2 + 1) % 2 = 1 := by omega
      rw [hrow.cell (i := i * 2 + 1) (by omega)]
      simp [cnt, h1, h2, usesIn]
     have HROW := hide hrow
     clear hrow
     by_cases hu0 : uses n.joints i 0 = 1
     ·by_cases hu1 : uses n.joints i 1 = 1
      ·have g0 : ((uses n.joints i 0 : Int) != 1) = false := by simp [hu0]
       have g1 : ((uses n.joints i 1 : Int) != 1) = false := by simp [hu1]
       have H0 := hide hu0
       have H1 := hide hu1
       clear hu0 hu1
       go_wp2
       refine ⟨⟨i + 1, by omega, by go_num, fun j h => ?_, (unhide HROW).alloc _, (bw1 hb)⟩, by simp [intOf]; omega⟩
       by_cases e : j = i
       ·subst e
        rintro (h5 | h5)
        ·exact h5 (unhide H0)
        ·exact h5 (unhide H1)
       ·exact hall j (by omega)
      ·have g0 : ((uses n.joints i 0 : Int) != 1) = false := by simp [hu0]
       have g1 : ((uses n.joints i 1 : Int) != 1) = true := by rw [bne_iff_ne]; omega
       have H1 := hide hu1
       clear hu0 hu1
       go_wp2
       go_ret
       exact ⟨i, rfl, first_of hlt2 (Or.inr (unhide H1)) hall, (bw1 hb)⟩
     ·have g0 : ((uses n.joints i 0 : Int) != 1) = true := by rw [bne_iff_ne]; omega
      have H0 := hide hu0
      clear hu0
      go_wp2
      go_ret
      exact ⟨i, rfl, first_of hlt2 (Or.inl (unhide H0)) hall, (bw1 hb)⟩
    ·go_wp2
     go_ret
     exact ⟨-1, rfl, none_of fun j h => hall j (by omega), hb⟩
end Go.Proofs.YtjacbppeebnjfaaGreat

namespace Go.Proofs.YtjacbppeebnjfaaGreat
open Go.RowKit

theorem first_all {p : Nat → Prop} {n : Nat} (h : IsFirst p n (-1)) : ∀ k, k < n → ¬ p k := by
 rcases h with ⟨_, h⟩ | ⟨i, _, h, _⟩
 ·exact h
 ·omega

set_option maxHeartbeats 1000000 in
theorem implNetOk_any (v : Value) (n : Nt) (w : World) {L : Nat} (hv : NetAt L w v n) (hl : n.pieces.length ≤ 1048576) (hl' : n.joints.length ≤ 1048576)
  (hle : ∀ i (h : i < n.joints.length), n.joints[i].name.size ≤ maxLen) (hnm : ∀ i (h : i < n.pieces.length), n.pieces[i].name.size ≤ maxLen) :
  Calls Tryz.prog 99 #[v] w fun e w' => ∃ c a : Int, e = .returned (.agg #[.int .i64 c, .int .i64 a]) ∧ NetRes n c a ∧ Below w.heap.size w w' := by
 have hvv := hv
 obtain ⟨a, c, ca, cc, rfl, hp, hj⟩ := hv
 by_cases hout : n.pieces.length = 0 ∨ 100 < n.pieces.length ∨ 120 < n.joints.length
 ·have HO := hide (netRes1 hout)
  by_cases h0 : n.pieces.length = 0
  ·have e0 : ((n.pieces.length : Int) == 0) = true := by simp [h0]
   clear h0 hout
   go_enter Tryz.func99, Tryz.ntmps99
   go_wp2
   exact bodyPost_ret (v := .agg #[.int .i64 1, .int .i64 0]) (by simp [results, Tryz.results99, go_sem]) rfl ⟨1, 0, rfl, unhide HO, bw0⟩
  ·have e0 : ((n.pieces.length : Int) == 0) = false := by simp [h0]
   clear h0
   by_cases h1 : 100 < (n.pieces.length : Int)
   ·clear hout
    go_enter Tryz.func99, Tryz.ntmps99
    go_wp2
    exact bodyPost_ret (v := .agg #[.int .i64 1, .int .i64 0]) (by simp [results, Tryz.results99, go_sem]) rfl ⟨1, 0, rfl, unhide HO, bw0⟩
   ·have h2 : 120 < (n.joints.length : Int) := by
     have : ¬ n.pieces.length = 0 := by simpa using e0
     omega
    clear hout
    go_enter Tryz.func99, Tryz.ntmps99
    go_wp2
    exact bodyPost_ret (v := .agg #[.int .i64 1, .int .i64 0]) (by simp [results, Tryz.results99, go_sem]) rfl ⟨1, 0, rfl, unhide HO, bw0⟩
 ·have HO := hide hout
  have e0 : ((n.pieces.length : Int) == 0) = false := by rw [beq_eq_false_iff_ne]; omega
  have e1 : decide (100 < (n.pieces.length : Int)) = false := by simp; omega
  have e2 : decide (120 < (n.joints.length : Int)) = false := by simp; omega
  have g1 : n.pieces.length ≤ 100 := by omega
  have g2 : n.joints.length ≤ 120 := by omega
  clear hout
  go_enter Tryz.func99, Tryz.ntmps99
  go_wp2_with fail
  refine (wrongPiece_any a n.pieces ca _ (L := L) ?hA g1 hnm).mono ?_
  case hA => exact hp.below bw0
  rintro e w1 ⟨r2, rfl, h2, hb1⟩
  have hbw1 := Below.trans (bw0 : Below w.heap.size w _) (hb1.mono (by simp <;> omega))
  have hB1_1 : Boxed w1 w.heap.size [.slice a n.pieces.length ca, .slice c n.joints.length cc] := ((boxed_alloc _ _ _).below bw0).below hb1
  have hB2_1 : Boxed w1 (w.heap.size + 1) [.int .i64 0, .int .i64 0] := (boxedN _ _ _ (by simp)).below hb1
  have b0_1 := hB1_1.2.1 0 _ rfl
  have b1_1 := hB1_1.2.1 1 _ rfl
  have d0_1 := hB2_1.2.1 0 _ rfl
  have d1_1 := hB2_1.2.1 1 _ rfl
  have z_1 := hB2_1.2.2
  have H2 := hide h2
  clear h2
  cases q2 : (r2 != -1)
  rotate_left
  ·have hq : r2 ≠ -1 := by simpa using q2
   have HB := hide (netRes2 (unhide HO) (unhide H2) hq)
   clear hq
   go_wp2
   exact bodyPost_ret (v := .agg #[.int .i64 2, .int .i64 r2]) (by simp [results, Tryz.results99, go_sem, d0_1, d1_1]) rfl ⟨2, r2, rfl, unhide HB, (bw1 hbw1)⟩
  obtain rfl : r2 = -1 := by simpa using q2
  clear q2
  go_wp2_with fail
  refine (wrongJoint_any _ n _ (hvv.below hbw1) g2).mono ?_
  rintro e w2 ⟨r3, rfl, h3, hb2⟩
  have hbw2 := below_then hbw1 hb2
  have hB1_2 := hB1_1.below hb2
  have hB2_2 := hB2_1.below hb2
  have b0_2 := hB1_2.2.1 0 _ rfl
  have b1_2 := hB1_2.2.1 1 _ rfl
  have d0_2 := hB2_2.2.1 0 _ rfl
  have d1_2 := hB2_2.2.1 1 _ rfl
  have z_2 := hB2_2.2.2
  have H3 := hide h3
  clear h3 b0_1 b1_1 d0_1 d1_1 z_1
  cases q3 : (r3 != -1)
  rotate_left
  ·have hq : r3 ≠ -1 := by simpa using q3
   have HB := hide (netRes3 (unhide HO) (unhide H2) (unhide H3) hq)
   clear hq
   go_wp2
   exact bodyPost_ret (v := .agg #[.int .i64 3, .int .i64 r3]) (by simp [results, Tryz.results99, go_sem, d0_2, d1_2]) rfl ⟨3, r3, rfl, unhide HB, (bw1 hbw2)⟩
  obtain rfl : r3 = -1 := by simpa using q3
  clear q3
  have HF : Hid (∀ i (h : i < n.joints.length), JtFits n.pieces.length n.joints[i]) := fun i h => Classical.byContradiction fun hc => first_all (unhide H3) i h ⟨h, hc⟩
  go_wp2_with fail
  refine (wrongJointName_any c n.joints cc _ (hj.below hbw2) g2 hle (fun i h => ((fits_iff _ _).1 (unhide HF i h)).1)).mono ?_
  rintro e w3 ⟨r4, rfl, h4, hb3⟩
  have hbw3 := below_then hbw2 hb3
  have hB1_3 := hB1_2.below hb3
  have hB2_3 := hB2_2.below hb3
  have b0_3 := hB1_3.2.1 0 _ rfl
  have b1_3 := hB1_3.2.1 1 _ rfl
  have d0_3 := hB2_3.2.1 0 _ rfl
  have d1_3 := hB2_3.2.1 1 _ rfl
  have z_3 := hB2_3.2.2
  have H4 := hide h4
  clear h4 b0_2 b1_2 d0_2 d1_2 z_2
  cases q4 : (r4 != -1)
  rotate_left
  ·have hq : r4 ≠ -1 := by simpa using q4
   have HB := hide (netRes4 (unhide HO) (unhide H2) (unhide H3) (unhide H4) hq)
   clear hq
   go_wp2
   exact bodyPost_ret (v := .agg #[.int .i64 4, .int .i64 r4]) (by simp [results, Tryz.results99, go_sem, d0_3, d1_3]) rfl ⟨4, r4, rfl, unhide HB, (bw1 hbw3)⟩
  obtain rfl : r4 = -1 := by simpa using q4
  clear q4
  go_wp2_with fail
  refine (wrongEnds_any _ n _ (hvv.below hbw3) g1 g2 (unhide HF)).mono ?_
  rintro e w4 ⟨r5, rfl, h5, hb4⟩
  have hbw4 := below_then hbw3 hb4
  have hB1_4 := hB1_3.below hb4
  have hB2_4 := hB2_3.below hb4
  have b0_4 := hB1_4.2.1 0 _ rfl
  have b1_4 := hB1_4.2.1 1 _ rfl
  have d0_4 := hB2_4.2.1 0 _ rfl
  have d1_4 := hB2_4.2.1 1 _ rfl
  have z_4 := hB2_4.2.2
  have H5 := hide h5
  clear h5 b0_3 b1_3 d0_3 d1_3 z_3
  cases q5 : (r5 != -1)
  rotate_left
  ·have hq : r5 ≠ -1 := by simpa using q5
   have HB := hide (netRes5 (unhide HO) (unhide H2) (unhide H3) (unhide H4) (unhide H5) hq)
   clear hq
   go_wp2
   exact bodyPost_ret (v := .agg #[.int .i64 5, .int .i64 r5]) (by simp [results, Tryz.results99, go_sem, d0_4, d1_4]) rfl ⟨5, r5, rfl, unhide HB, (bw1 hbw4)⟩
  obtain rfl : r5 = -1 := by simpa using q5
  clear q5
  have HB := hide (netRes0 (unhide HO) (unhide H2) (unhide H3) (unhide H4) (unhide H5))
  go_wp2
  exact bodyPost_ret (v := .agg #[.int .i64 0, .int .i64 0]) (by simp [results, Tryz.results99, go_sem, d0_4, d1_4]) rfl ⟨0, 0, rfl, unhide HB, (bw1 hbw4)⟩
end Go.Proofs.YtjacbppeebnjfaaGreat

