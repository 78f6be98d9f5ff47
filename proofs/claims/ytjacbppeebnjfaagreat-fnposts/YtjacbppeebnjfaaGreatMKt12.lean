import Derived.Test.YtjacbppeebnjfaaGreatMKt9
import Derived.Test.YtjacbppeebnjfaaGreatMSpec9
import Derived.Test.YtjacbppeebnjfaaGreatMKt1
namespace Go.Proofs.YtjacbppeebnjfaaGreat
open Go.RowKit

set_option maxRecDepth 100000 in
set_option maxHeartbeats 2000000 in
theorem ringAt_any (B i : Nat) (k0 k1 k2 : Value) (s : Sp) (long sp : Int) (xs : List St) (w : World) (h : OwnC w B 0 412 (bodyF k0 k1 k2 s long sp xs)) (hi : i < 201) :
  Calls Tryz.prog 77 #[.pointer (some ⟨B, 8, none⟩), .int .i64 i] w fun e w' => e = .returned (.agg #[.int .i64 (xs.getD i ⟨0, 0⟩).piece, .int .i64 (xs.getD i ⟨0, 0⟩).way]) ∧ Below w.heap.size w w' := by
 have hB := h.1
 have c0 : w.cell? ⟨B, 410, none⟩ = some (.int .i64 (0 : Nat)) := by simpa [bodyF] using (h.2 410 (by omega)).1
 have d0 := (h.2 (8 + i * 2) (by omega)).1
 have d1 := (h.2 (8 + i * 2 + 1) (by omega)).1
 rw [Nat.zero_add, (bodyF_ring k0 k1 k2 s long sp xs hi).1] at d0
 rw [Nat.zero_add, (bodyF_ring k0 k1 k2 s long sp xs hi).2] at d1
 have hm : (0 + i) % 201 = i := by omega
 have hix : (i : Int) < 201 := by omega
 have f1 : ¬ B = w.heap.size := by omega
 have f2 : ¬ w.heap.size = B := by omega
 have HC : Hid ((w.alloc (.cells #[.int .i64 0, .int .i64 0] 67)).drew.cell? ⟨B, 8 + 402, none⟩ = some (.int .i64 (0 : Nat))) := by
  unfold Hid
  rw [(Below.drew (Below.alloc (Below.refl w.heap.size w) (Nat.le_refl _) _)).cell hB]
  exact c0
 clear h
 generalize xs.getD i ⟨0, 0⟩ = x at *
 go_enter Tryz.func77, Tryz.ntmps77
 go_wp2_with fail
 go_region_held3 (fun w' => w'.cell? ⟨B, 8 + i * 2, none⟩ = some (.int .i64 x.piece) ∧ w'.cell? ⟨B, 8 + i * 2 + 1, none⟩ = some (.int .i64 x.way)) (((try dsimp only); (repeat' apply And.intro)) <;> (go_keep; done))
  (first
   | (go_at_call 104; refine (place_any B 8 0 i _ (unhide HC) (by omega) (by omega)).mono ?_; rintro e w1 ⟨rfl, rfl⟩; rw [hm]))
 go_wp2
 exact bodyPost_ret (v := .agg #[.int .i64 x.piece, .int .i64 x.way]) (by simp [results, Tryz.results77, go_sem]) rfl ⟨rfl, bw0⟩

def stepOf (s : Sp) (xs : List St) (i : Nat) : St := if i = 0 then ⟨s.piece, s.way⟩ else xs.getD (i - 1) ⟨0, 0⟩

set_option maxRecDepth 100000 in
set_option maxHeartbeats 2000000 in
theorem stepAt_any (B i : Nat) (k0 k1 k2 : Value) (s : Sp) (long sp : Int) (xs : List St) (w : World) (h : OwnC w B 0 412 (bodyF k0 k1 k2 s long sp xs)) (hi : i < 202) :
  Calls Tryz.prog 43 #[.pointer (some ⟨B, 0, none⟩), .int .i64 i] w fun e w' => e = .returned (.agg #[.int .i64 (stepOf s xs i).piece, .int .i64 (stepOf s xs i).way]) ∧ Below w.heap.size w w' := by
 have hB := h.1
 have c0 : w.cell? ⟨B, 0, none⟩ = some (.int .i64 s.piece) := by simpa [bodyF] using (h.2 0 (by omega)).1
 have c1 : w.cell? ⟨B, 1, none⟩ = some (.int .i64 s.at_) := by simpa [bodyF] using (h.2 1 (by omega)).1
 have c2 : w.cell? ⟨B, 2, none⟩ = some (.int .i64 s.way) := by simpa [bodyF] using (h.2 2 (by omega)).1
 have hB1 : B < w.heap.size + 1 := by omega
 rcases Nat.eq_zero_or_pos i with rfl | hpos
 ·have HS : Hid (stepOf s xs 0 = ⟨s.piece, s.way⟩) := rfl
  clear h
  go_enter Tryz.func43, Tryz.ntmps43
  go_wp2_with fail
  refine (step_any s _).mono ?_
  rintro e w1 ⟨rfl, hb1⟩
  have hR : Boxed w1 w.heap.size [.int .i64 0, .int .i64 0] := (boxed_alloc _ _ _).below hb1
  have hbw : Below w.heap.size w w1 := below_then bw0 hb1
  have r0 := hR.2.1 0 _ rfl
  have r1 := hR.2.1 1 _ rfl
  have rz := hR.2.2
  have rl := hR.1
  go_wp2
  exact bodyPost_ret (v := .agg #[.int .i64 s.piece, .int .i64 s.way]) (by simp [results, Tryz.results43, go_sem, r0, r1]) rfl ⟨by rw [unhide HS], (bw1 hbw)⟩
 ·obtain ⟨j, rfl⟩ : ∃ j, i = j + 1 := ⟨i - 1, by omega⟩
  have hne : (((j + 1 : Nat) : Int) == 0) = false := by rw [beq_eq_false_iff_ne]; omega
  have HS : Hid (stepOf s xs (j + 1) = xs.getD j ⟨0, 0⟩) := by simp [stepOf, Hid]
  have H := hide h
  clear h
  go_enter Tryz.func43, Tryz.ntmps43
  go_wp2_with fail
  refine (ringAt_any B j k0 k1 k2 s long sp xs _ ((unhide H).below ?_) (by omega)).mono ?_
  ·exact bw0
  rintro e w1 ⟨rfl, hb1⟩
  have hR : Boxed w1 w.heap.size [.int .i64 0, .int .i64 0] := (boxed_alloc _ _ _).below hb1
  have hbw : Below w.heap.size w w1 := below_then bw0 hb1
  have r0 := hR.2.1 0 _ rfl
  have r1 := hR.2.1 1 _ rfl
  have rz := hR.2.2
  have rl := hR.1
  generalize xs.getD j ⟨0, 0⟩ = y at *
  go_wp2
  exact bodyPost_ret (v := .agg #[.int .i64 y.piece, .int .i64 y.way]) (by simp [results, Tryz.results43, go_sem, r0, r1]) rfl ⟨by rw [unhide HS], (bw1 hbw)⟩

end Go.Proofs.YtjacbppeebnjfaaGreat

namespace Go.Proofs.YtjacbppeebnjfaaGreat
open Go.RowKit

structure BodyIs (f : Nat → Value) (fs : Nat) (k0 k1 k2 : Value) (s : Sp) (long sp : Int) (xs : List St) : Prop where
 lt : fs < 201
 c0 : f 0 = .int .i64 s.piece
 c1 : f 1 = .int .i64 s.at_
 c2 : f 2 = .int .i64 s.way
 c3 : f 3 = k0
 c4 : f 4 = k1
 c5 : f 5 = k2
 c6 : f 6 = .int .i64 long
 c7 : f 7 = .int .i64 sp
 c410 : f 410 = .int .i64 fs
 c411 : f 411 = .int .i64 xs.length
 few : xs.length ≤ 201
 ring : ∀ i, i < xs.length → f (8 + ((fs + i) % 201) * 2) = .int .i64 (xs.getD i ⟨0, 0⟩).piece ∧ f (8 + ((fs + i) % 201) * 2 + 1) = .int .i64 (xs.getD i ⟨0, 0⟩).way

def GB (w : World) (B : Nat) (k0 k1 k2 : Value) (s : Sp) (long sp : Int) (xs : List St) : Prop := ∃ f fs, OwnC w B 0 412 f ∧ BodyIs f fs k0 k1 k2 s long sp xs

theorem bodyF_is (k0 k1 k2 : Value) (s : Sp) (long sp : Int) (xs : List St) (h : xs.length ≤ 201) : BodyIs (bodyF k0 k1 k2 s long sp xs) 0 k0 k1 k2 s long sp xs := by
 refine ⟨by omega, by simp [bodyF], by simp [bodyF], by simp [bodyF], by simp [bodyF], by simp [bodyF], by simp [bodyF], by simp [bodyF], by simp [bodyF], by simp [bodyF], by simp [bodyF], h, fun i hi => ?_⟩
 rw [show (0 + i) % 201 = i by omega]
 exact bodyF_ring k0 k1 k2 s long sp xs (by omega)

theorem gb_of {w : World} {B : Nat} {k0 k1 k2 : Value} {s : Sp} {long sp : Int} {xs : List St} (h : OwnC w B 0 412 (bodyF k0 k1 k2 s long sp xs)) (hx : xs.length ≤ 201) : GB w B k0 k1 k2 s long sp xs := ⟨_, 0, h, bodyF_is _ _ _ _ _ _ _ hx⟩
theorem GB.below {w w' : World} {B : Nat} {k0 k1 k2 : Value} {s : Sp} {long sp : Int} {xs : List St} (h : GB w B k0 k1 k2 s long sp xs) (hb : Below w.heap.size w w') : GB w' B k0 k1 k2 s long sp xs := by
 obtain ⟨f, fs, ho, hi⟩ := h
 exact ⟨f, fs, ho.below hb, hi⟩
theorem GB.lt {w : World} {B : Nat} {k0 k1 k2 : Value} {s : Sp} {long sp : Int} {xs : List St} (h : GB w B k0 k1 k2 s long sp xs) : B < w.heap.size := by
 obtain ⟨f, fs, ho, hi⟩ := h
 exact ho.1
theorem GB.cells {w : World} {B : Nat} {k0 k1 k2 : Value} {s : Sp} {long sp : Int} {xs : List St} (h : GB w B k0 k1 k2 s long sp xs) :
  w.cell? ⟨B, 0, none⟩ = some (.int .i64 s.piece) ∧ w.cell? ⟨B, 1, none⟩ = some (.int .i64 s.at_) ∧ w.cell? ⟨B, 2, none⟩ = some (.int .i64 s.way) ∧ w.cell? ⟨B, 3, none⟩ = some k0 ∧ w.cell? ⟨B, 4, none⟩ = some k1 ∧ w.cell? ⟨B, 5, none⟩ = some k2
  ∧ w.cell? ⟨B, 6, none⟩ = some (.int .i64 long) ∧ w.cell? ⟨B, 7, none⟩ = some (.int .i64 sp) ∧ w.cell? ⟨B, 411, none⟩ = some (.int .i64 xs.length) := by
 obtain ⟨f, fs, ho, hi⟩ := h
 have g : ∀ j, j < 412 → w.cell? ⟨B, j, none⟩ = some (f j) := fun j hj => by simpa using (ho.2 j hj).1
 refine ⟨?_, ?_, ?_, ?_, ?_, ?_, ?_, ?_, ?_⟩
 ·rw [g 0 (by omega), hi.c0]
 ·rw [g 1 (by omega), hi.c1]
 ·rw [g 2 (by omega), hi.c2]
 ·rw [g 3 (by omega), hi.c3]
 ·rw [g 4 (by omega), hi.c4]
 ·rw [g 5 (by omega), hi.c5]
 ·rw [g 6 (by omega), hi.c6]
 ·rw [g 7 (by omega), hi.c7]
 ·rw [g 411 (by omega), hi.c411]

set_option maxRecDepth 100000 in
set_option maxHeartbeats 2000000 in
theorem gRingAt_any (B i : Nat) (k0 k1 k2 : Value) (s : Sp) (long sp : Int) (xs : List St) (w : World) (h : GB w B k0 k1 k2 s long sp xs) (hi : i < xs.length) :
  Calls Tryz.prog 77 #[.pointer (some ⟨B, 8, none⟩), .int .i64 i] w fun e w' => e = .returned (.agg #[.int .i64 (xs.getD i ⟨0, 0⟩).piece, .int .i64 (xs.getD i ⟨0, 0⟩).way]) ∧ Below w.heap.size w w' := by
 obtain ⟨f, fs, ho, hbi⟩ := h
 have hB := ho.1
 have hfew := hbi.few
 have hfs := hbi.lt
 have c0 : w.cell? ⟨B, 410, none⟩ = some (.int .i64 fs) := by have := (ho.2 410 (by omega)).1; rw [hbi.c410] at this; simpa using this
 obtain ⟨m, hm⟩ : ∃ m, (fs + i) % 201 = m := ⟨_, rfl⟩
 have hm2 : m < 201 := by omega
 have d0 := (ho.2 (8 + m * 2) (by omega)).1
 have d1 := (ho.2 (8 + m * 2 + 1) (by omega)).1
 have hr := hbi.ring i hi
 rw [hm] at hr
 rw [Nat.zero_add, hr.1] at d0
 rw [Nat.zero_add, hr.2] at d1
 have HM := hide hm
 have hix : (m : Int) < 201 := by omega
 have f1 : ¬ B = w.heap.size := by omega
 have f2 : ¬ w.heap.size = B := by omega
 have HC : Hid ((w.alloc (.cells #[.int .i64 0, .int .i64 0] 67)).drew.cell? ⟨B, 8 + 402, none⟩ = some (.int .i64 fs)) := by
  unfold Hid
  rw [(Below.drew (Below.alloc (Below.refl w.heap.size w) (Nat.le_refl _) _)).cell hB]
  exact c0
 clear ho hbi hr hm c0
 generalize xs.getD i ⟨0, 0⟩ = x at *
 go_enter Tryz.func77, Tryz.ntmps77
 go_wp2_with fail
 go_region_held3 (fun w' => w'.cell? ⟨B, 8 + m * 2, none⟩ = some (.int .i64 x.piece) ∧ w'.cell? ⟨B, 8 + m * 2 + 1, none⟩ = some (.int .i64 x.way)) (((try dsimp only); (repeat' apply And.intro)) <;> (go_keep; done))
  (first
   | (go_at_call 104; refine (place_any B 8 fs i _ (unhide HC) (by omega) (by omega)).mono ?_; rintro e w1 ⟨rfl, rfl⟩; rw [unhide HM]))
 go_wp2
 exact bodyPost_ret (v := .agg #[.int .i64 x.piece, .int .i64 x.way]) (by simp [results, Tryz.results77, go_sem]) rfl ⟨rfl, bw0⟩

set_option maxRecDepth 100000 in
set_option maxHeartbeats 2000000 in
theorem gStepAt_any (B i : Nat) (k0 k1 k2 : Value) (s : Sp) (long sp : Int) (xs : List St) (w : World) (h : GB w B k0 k1 k2 s long sp xs) (hi : i ≤ xs.length) :
  Calls Tryz.prog 43 #[.pointer (some ⟨B, 0, none⟩), .int .i64 i] w fun e w' => e = .returned (.agg #[.int .i64 (stepOf s xs i).piece, .int .i64 (stepOf s xs i).way]) ∧ Below w.heap.size w w' := by
 have hB := h.lt
 obtain ⟨c0, c1, c2, _⟩ := h.cells
 have hfew : xs.length ≤ 201 := by obtain ⟨f, fs, _, hh⟩ := h; exact hh.few
 have hB1 : B < w.heap.size + 1 := by omega
 rcases Nat.eq_zero_or_pos i with rfl | hpos
 ·have HS : Hid (stepOf s xs 0 = ⟨s.piece, s.way⟩) := rfl
  clear h
  go_enter Tryz.func43, Tryz.ntmps43
  go_wp2_with fail
  refine (step_any s _).mono ?_
  rintro e w1 ⟨rfl, hb1⟩
  have hR : Boxed w1 w.heap.size [.int .i64 0, .int .i64 0] := (boxed_alloc _ _ _).below hb1
  have hbw : Below w.heap.size w w1 := below_then bw0 hb1
  have r0 := hR.2.1 0 _ rfl
  have r1 := hR.2.1 1 _ rfl
  have rz := hR.2.2
  have rl := hR.1
  go_wp2
  exact bodyPost_ret (v := .agg #[.int .i64 s.piece, .int .i64 s.way]) (by simp [results, Tryz.results43, go_sem, r0, r1]) rfl ⟨by rw [unhide HS], (bw1 hbw)⟩
 ·obtain ⟨j, rfl⟩ : ∃ j, i = j + 1 := ⟨i - 1, by omega⟩
  have hne : (((j + 1 : Nat) : Int) == 0) = false := by rw [beq_eq_false_iff_ne]; omega
  have HS : Hid (stepOf s xs (j + 1) = xs.getD j ⟨0, 0⟩) := by simp [stepOf, Hid]
  have H := hide h
  clear h
  go_enter Tryz.func43, Tryz.ntmps43
  go_wp2_with fail
  refine (gRingAt_any B j k0 k1 k2 s long sp xs _ ((unhide H).below ?_) (by omega)).mono ?_
  ·exact bw0
  rintro e w1 ⟨rfl, hb1⟩
  have hR : Boxed w1 w.heap.size [.int .i64 0, .int .i64 0] := (boxed_alloc _ _ _).below hb1
  have hbw : Below w.heap.size w w1 := below_then bw0 hb1
  have r0 := hR.2.1 0 _ rfl
  have r1 := hR.2.1 1 _ rfl
  have rz := hR.2.2
  have rl := hR.1
  generalize xs.getD j ⟨0, 0⟩ = y at *
  go_wp2
  exact bodyPost_ret (v := .agg #[.int .i64 y.piece, .int .i64 y.way]) (by simp [results, Tryz.results43, go_sem, r0, r1]) rfl ⟨by rw [unhide HS], (bw1 hbw)⟩

end Go.Proofs.YtjacbppeebnjfaaGreat

namespace Go.Proofs.YtjacbppeebnjfaaGreat
open Go.RowKit

end Go.Proofs.YtjacbppeebnjfaaGreat

namespace Go.Proofs.YtjacbppeebnjfaaGreat
open Go.RowKit

def LeadsBy (n : Nt) (zs : List Int) (x ah : St) : Prop := ∃ i k, ∃ hz : i < zs.length, StandsAt n.joints (hd x.piece x.way) i k ∧ Leads n x ah zs[i]
def SitsAll (n : Nt) (zs : List Int) (s : Sp) (xs : List St) : Prop := ∀ j, j < xs.length → LeadsBy n zs (stepOf s xs (j + 1)) (stepOf s xs j)

theorem leadsBy_iff {n : Nt} (hG : NetGood n) {zs : List Int} {x ah : St} (hx : StepOk n x) {i k : Nat} (hst : StandsAt n.joints (hd x.piece x.way) i k) (hz : i < zs.length) : LeadsBy n zs x ah ↔ Leads n x ah zs[i] := by
 constructor
 ·rintro ⟨i', k', hz', hst', hl⟩
  obtain ⟨rfl, rfl⟩ := stands_unique (hG.hd hx.1.1 hx.1.2 x.way) hst hst'
  exact hl
 ·exact fun h => ⟨i, k, hz, hst, h⟩

theorem stepOf_ok {n : Nt} {s : Sp} {xs : List St} (hs : StepOk n ⟨s.piece, s.way⟩) (hx : ∀ x ∈ xs, StepOk n x) {j : Nat} (hj : j ≤ xs.length) : StepOk n (stepOf s xs j) := by
 unfold stepOf
 split
 ·exact hs
 ·have h1 : j - 1 < xs.length := by omega
  have h2 : xs.getD (j - 1) ⟨0, 0⟩ = xs[j - 1] := by simp [List.getD, List.getElem?_eq_getElem h1]
  rw [h2]
  exact hx _ (List.getElem_mem h1)

set_option maxRecDepth 100000 in
set_option maxHeartbeats 4000000 in
theorem bsits_any (B : Nat) (n : Nt) (ka ksh kst : Option Addr) (kca kcsh kcst : Nat) (s : Sp) (long sp : Int) (xs : List St) (zq : Option Addr) (zs : List Int) (zc : Nat) (w : World) {L' : Nat}
  (h : OwnC w B 0 412 (bodyF (.slice ka n.pieces.length kca) (.slice ksh n.joints.length kcsh) (.slice kst n.pieces.length kcst) s long sp xs)) (hk : TrkAt 0 w (.agg #[.slice ka n.pieces.length kca, .slice ksh n.joints.length kcsh, .slice kst n.pieces.length kcst]) n) (hG : NetGood n)
  (hx : xs.length ≤ 200) (hs : StepOk n ⟨s.piece, s.way⟩) (hxs : ∀ x ∈ xs, StepOk n x) (hz : IntsAt L' w zq zs) (hzl : zs.length = n.joints.length) :
  Calls Tryz.prog 45 #[.pointer (some ⟨B, 0, none⟩), .slice zq zs.length zc] w fun e w' => RetB (SitsAll n zs s xs) e ∧ Below w.heap.size w w' := by
 have hB := h.1
 have c411 : w.cell? ⟨B, 411, none⟩ = some (.int .i64 xs.length) := by simpa [bodyF] using (h.2 411 (by omega)).1
 have H := hide h
 have HXS := hide hxs
 have HS := hide hs
 have HZL := hide hzl
 clear h hxs hs hzl
 go_enter Tryz.func45, Tryz.ntmps45
 go_wp2_with fail
 go_loopw [13] (fun x wr => ∃ k : Nat, k ≤ xs.length ∧ x = .int .i64 k ∧ (∀ j, j < k → LeadsBy n zs (stepOf s xs (j + 1)) (stepOf s xs j)) ∧ Below w.heap.size w wr) (fun x _ => xs.length - (intOf x).toNat)
 case atStart => exact ⟨0, Nat.zero_le _, rfl, fun j h => by omega, Below.refl _ _⟩
 case round =>
  obtain ⟨k, hk', rfl, hall, hb⟩ := hrel
  have HALL := hide hall
  clear hall c411
  by_cases hlt : k < xs.length
  ·have hownr := (unhide H).below hb
   have HO := hide hownr
   clear hownr
   go_wp2_with fail
   refine (stepAt_any B k _ _ _ s long sp xs _ (unhide HO) (by omega)).mono ?_
   rintro e w1 ⟨rfl, hb1⟩
   go_wp2_with fail
   refine (stepAt_any B (k + 1) _ _ _ s long sp xs _ ((unhide HO).below hb1) (by omega)).mono ?_
   rintro e w2 ⟨rfl, hb2⟩
   have hb2' := below_then hb1 hb2
   have hok := stepOf_ok (unhide HS) (unhide HXS) (j := k + 1) (by omega)
   have hok0 := stepOf_ok (unhide HS) (unhide HXS) (j := k) (by omega)
   obtain ⟨i, kk, hst⟩ := stands_some (hG.hd hok.1.1 hok.1.2 (stepOf s xs (k + 1)).way)
   have hil : i < zs.length := by rw [unhide HZL]; exact hst.1
   have hiff := leadsBy_iff hG (ah := stepOf s xs k) hok hst hil
   have hbw2 := below_then hb hb2'
   have hkw := hk.below hbw2
   have hBw2 : B < w2.heap.size := Nat.lt_of_lt_of_le hB hbw2.size
   have hBw3 : B < w2.heap.size + 1 + 1 := by omega
   have hBw4 : B < w2.heap.size + 1 := by omega
   have hown2 := (unhide H).below hbw2
   have d3 : w2.cell? ⟨B, 3, none⟩ = some (.slice ka n.pieces.length kca) := by simpa [bodyF] using (hown2.2 3 (by omega)).1
   have d4 : w2.cell? ⟨B, 4, none⟩ = some (.slice ksh n.joints.length kcsh) := by simpa [bodyF] using (hown2.2 4 (by omega)).1
   have d5 : w2.cell? ⟨B, 5, none⟩ = some (.slice kst n.pieces.length kcst) := by simpa [bodyF] using (hown2.2 5 (by omega)).1
   obtain ⟨zb, zoff, rfl, hzb, z0⟩ := hz.below hbw2 i hil
   have hzb1 := hzb.2
   have hzb2 : zb < w2.heap.size + 1 := by omega
   have hzb3 : zb < w2.heap.size + 1 + 1 := by omega
   have hii : (i : Int) < (zs.length : Int) := by omega
   have HOK := hide hok
   have HOK0 := hide hok0
   have HST := hide hst
   have HIFF := hide hiff
   obtain ⟨x1, hx1⟩ : ∃ x1, stepOf s xs (k + 1) = x1 := ⟨_, rfl⟩
   obtain ⟨x0, hx0⟩ : ∃ x0, stepOf s xs k = x0 := ⟨_, rfl⟩
   have HX1 := hide hx1
   have HX0 := hide hx0
   rw [hx1] at HOK HST HIFF
   rw [hx0] at HOK0 HIFF
   rw [hx1, hx0]
   obtain ⟨xp, xy⟩ := x1
   obtain ⟨ap, ay⟩ := x0
   generalize hzi : zs[i] = z at *
   clear hok hok0 hst hiff hown2 hx1 hx0 hzi
   dsimp only
   by_cases hL : Leads n ⟨xp, xy⟩ ⟨ap, ay⟩ z
   ·have HL := hide hL
    clear hL
    go_wp2_with fail
    refine wp_region_grown (by kernel_rfl) (by kernel_rfl) (fun hgn hgc => ?_)
    repeat (go_big_quiet_step (first
     | (go_at_call 80; rename_i g; exact g.call (endAhead_v ⟨xp, xy⟩ _))
     | (go_at_call 79; rename_i g; exact g.call (jointAt_any _ n (hd xp xy) i kk _ (hkw.below (below_then bw0 g.below)) hG ((unhide HOK).fits xy) (unhide HST)))
     | (go_at_call 78; rename_i g; exact g.call (leads_T _ n ⟨xp, xy⟩ ⟨ap, ay⟩ z _ (hkw.below (below_then bw0 g.below)) hG (unhide HOK) (unhide HOK0) (unhide HL)))))
    refine wpQuiet_nil ?_
    intro wq hwq
    have hbq : Below w2.heap.size w2 wq := by obtain ⟨g, rfl⟩ := hwq; exact below_then bw0 g.below
    clear hwq hgc hgn
    go_wp2
    refine ⟨⟨k + 1, by omega, by go_num, fun j hj => ?_, below_then hbw2 hbq⟩, by simp [intOf]; omega⟩
    by_cases e : j = k
    ·rw [e, unhide HX1, unhide HX0]
     exact (unhide HIFF).2 (unhide HL)
    ·exact unhide HALL j (by omega)
   ·have HL := hide hL
    clear hL
    go_wp2_with fail
    refine wp_region_grown (by kernel_rfl) (by kernel_rfl) (fun hgn hgc => ?_)
    repeat (go_big_quiet_step (first
     | (go_at_call 80; rename_i g; exact g.call (endAhead_v ⟨xp, xy⟩ _))
     | (go_at_call 79; rename_i g; exact g.call (jointAt_any _ n (hd xp xy) i kk _ (hkw.below (below_then bw0 g.below)) hG ((unhide HOK).fits xy) (unhide HST)))
     | (go_at_call 78; rename_i g; exact g.call (leads_F _ n ⟨xp, xy⟩ ⟨ap, ay⟩ z _ (hkw.below (below_then bw0 g.below)) hG (unhide HOK) (unhide HOK0) (unhide HL)))))
    refine wpQuiet_nil ?_
    intro wq hwq
    have hbq : Below w2.heap.size w2 wq := by obtain ⟨g, rfl⟩ := hwq; exact below_then bw0 g.below
    clear hwq hgc hgn
    go_wp2
    go_ret
    exact ⟨retB_false fun h => by
     have h1 := h k hlt
     rw [unhide HX1, unhide HX0] at h1
     exact unhide HL ((unhide HIFF).1 h1), below_then hbw2 hbq⟩
  ·go_wp2
   go_ret
   exact ⟨retB_true fun j hj => unhide HALL j (by omega), hb⟩

end Go.Proofs.YtjacbppeebnjfaaGreat

namespace Go.Proofs.YtjacbppeebnjfaaGreat
open Go.RowKit

def SitsRight (n : Nt) (zs : List Int) (t : Tr) : Prop := TrainRight n t ∧ LiesFit n.joints zs ∧ SitsAll n zs t.front t.back

end Go.Proofs.YtjacbppeebnjfaaGreat

