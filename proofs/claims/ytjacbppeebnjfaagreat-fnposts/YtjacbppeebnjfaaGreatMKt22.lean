import Derived.Test.YtjacbppeebnjfaaGreatMKt12
import Derived.Test.YtjacbppeebnjfaaGreatMPlain
import Derived.Deep.RegionLaw
import Derived.Deep.AppendLies
import Derived.Test.YtjacbppeebnjfaaGreatMSpec12
namespace Go.Proofs.YtjacbppeebnjfaaGreat
open Go.RowKit

def stF (p : St) : List Value := [.int .i64 p.piece, .int .i64 p.way]
theorem stF_len (p : St) : (stF p).length = 2 := rfl
abbrev StRow (w : World) (base : Nat) (v : Value) (ps : List St) : Prop := Row w base 67 2 stF v ps

theorem stRow_at {w : World} {base : Nat} {v : Value} {ps : List St} (h : StRow w base v ps) : ∃ a cap, v = .slice a ps.length cap ∧ ps.length ≤ cap ∧ StsAt base w a ps := by
 obtain ⟨a, cap, hv, hc, hx⟩ := h.shape stF_len
 refine ⟨a, cap, hv, hc, fun i hi => ?_⟩
 obtain ⟨g, ha, hg, hj⟩ := hx i hi
 have e0 := hj 0 (by omega)
 have e1 := hj 1 (by omega)
 simp only [stF] at e0 e1
 exact ⟨g, 0, ha, hg, by simpa using e0, by simpa using e1⟩
theorem stRow_sts {w : World} {base : Nat} {a : Option Addr} {m cap : Nat} {ps : List St} (h : StRow w base (.slice a m cap) ps) : StsAt 0 w a ps := by
 obtain ⟨a', cap', hv, _, hx⟩ := stRow_at (h.mono (Nat.zero_le _))
 simp at hv
 rw [hv.1]
 exact hx

theorem setCell_size (w : World) (p : Addr) (v : Value) : (w.setCell p v).heap.size = w.heap.size := by simp [World.setCell]

theorem Boxed.setAt {w : World} {N : Nat} {vs : List Value} (h : Boxed w N vs) {i : Nat} (hi : i < vs.length) (x : Value) : Boxed (w.setCell ⟨N, i, none⟩ x) N (vs.set i x) := by
 refine ⟨by simpa [World.setCell] using h.1, fun j v hj => ?_, fun j => by simpa using h.2.2 j⟩
 by_cases e : j = i
 ·subst e
  rw [World.cell?_setCell_same _ _ _ (h.2.1 j _ (List.getElem?_eq_getElem hi))]
  simpa [hi] using hj
 ·rw [World.cell?_setCell_other _ _ _ _ (by first | (simp; done) | (simp; omega))]
  rw [List.getElem?_set_ne (by omega)] at hj
  exact h.2.1 j v hj

theorem st_news {W : World} {N : Nat} {x : St} (h : Boxed W N [.int .i64 x.piece, .int .i64 x.way]) : ∀ j u, (stF x)[j]? = some u → W.cell? ((⟨N, 0, none⟩ : Addr).add j) = some u := by
 intro j u hj
 match j, hj with
 | 0, hj => simp [stF] at hj; subst hj; simpa [Addr.add] using h.2.1 0 _ rfl
 | 1, hj => simp [stF] at hj; subst hj; simpa [Addr.add] using h.2.1 1 _ rfl
theorem st_one (x : St) : ∀ u ∈ stF x, u.oneCell' = true := by
 intro u hu
 simp [stF] at hu
 rcases hu with rfl | rfl <;> rfl

end Go.Proofs.YtjacbppeebnjfaaGreat

namespace Go.Proofs.YtjacbppeebnjfaaGreat
open Go.RowKit

def RingC (w : World) (B o fs : Nat) (xs : List St) : Prop :=
 ∃ f : Nat → Value, OwnC w B o 404 f ∧ fs < 201 ∧ xs.length ≤ 201 ∧ f 402 = .int .i64 fs ∧ f 403 = .int .i64 xs.length
  ∧ ∀ i, i < xs.length → f (((fs + i) % 201) * 2) = .int .i64 (xs.getD i ⟨0, 0⟩).piece ∧ f (((fs + i) % 201) * 2 + 1) = .int .i64 (xs.getD i ⟨0, 0⟩).way

theorem RingC.lt {w : World} {B o fs : Nat} {xs : List St} (h : RingC w B o fs xs) : B < w.heap.size := by
 obtain ⟨f, ho, _⟩ := h
 exact ho.1
theorem RingC.below {w w' : World} {B o fs : Nat} {xs : List St} (h : RingC w B o fs xs) (hb : Below w.heap.size w w') : RingC w' B o fs xs := by
 obtain ⟨f, ho, hr⟩ := h
 exact ⟨f, ho.below hb, hr⟩
theorem RingC.only {w w' : World} {B o fs C : Nat} {xs : List St} (h : RingC w B o fs xs) (ho : Only (fun k => k = C) w w') (hb : B ≠ C) : RingC w' B o fs xs := by
 obtain ⟨f, hf, hr⟩ := h
 exact ⟨f, hf.only ho hb, hr⟩
theorem RingC.cells {w : World} {B o fs : Nat} {xs : List St} (h : RingC w B o fs xs) : w.cell? ⟨B, o + 402, none⟩ = some (.int .i64 fs) ∧ w.cell? ⟨B, o + 403, none⟩ = some (.int .i64 xs.length) ∧ (∀ j, j < 404 → w.frozen? ⟨B, o + j, none⟩ = false) ∧ fs < 201 ∧ xs.length ≤ 201 := by
 obtain ⟨f, ho, h1, h2, h3, h4, _⟩ := h
 refine ⟨?_, ?_, fun j hj => (ho.2 j hj).2, h1, h2⟩
 ·rw [(ho.2 402 (by omega)).1, h3]
 ·rw [(ho.2 403 (by omega)).1, h4]
theorem GB.ring {w : World} {B : Nat} {k0 k1 k2 : Value} {s : Sp} {long sp : Int} {xs : List St} (h : GB w B k0 k1 k2 s long sp xs) : ∃ fs, RingC w B 8 fs xs := by
 obtain ⟨f, fs, ho, hi⟩ := h
 refine ⟨fs, fun j => f (8 + j), ⟨ho.1, fun j hj => ?_⟩, hi.lt, hi.few, ?_, ?_, fun i hx => ?_⟩
 ·have := ho.2 (8 + j) (by omega)
  simpa using this
 ·show f (8 + 402) = _
  exact hi.c410
 ·show f (8 + 403) = _
  exact hi.c411
 ·exact hi.ring i hx

set_option maxRecDepth 100000 in
set_option maxHeartbeats 2000000 in
theorem ringAtC_any (B o i fs m : Nat) (x : St) (w : World) (hB : B < w.heap.size) (c0 : w.cell? ⟨B, o + 402, none⟩ = some (.int .i64 fs)) (hfs : fs < 201) (hi : i ≤ 201) (hm : (fs + i) % 201 = m)
  (d0 : w.cell? ⟨B, o + m * 2, none⟩ = some (.int .i64 x.piece)) (d1 : w.cell? ⟨B, o + m * 2 + 1, none⟩ = some (.int .i64 x.way)) :
  Calls Tryz.prog 77 #[.pointer (some ⟨B, o, none⟩), .int .i64 i] w fun e w' => e = .returned (.agg #[.int .i64 x.piece, .int .i64 x.way]) ∧ Below w.heap.size w w' := by
 have hm2 : m < 201 := by omega
 have HM := hide hm
 have hix : (m : Int) < 201 := by omega
 have f1 : ¬ B = w.heap.size := by omega
 have f2 : ¬ w.heap.size = B := by omega
 have HC : Hid ((w.alloc (.cells #[.int .i64 0, .int .i64 0] 67)).drew.cell? ⟨B, o + 402, none⟩ = some (.int .i64 fs)) := by
  unfold Hid
  rw [(Below.drew (Below.alloc (Below.refl w.heap.size w) (Nat.le_refl _) _)).cell hB]
  exact c0
 clear hm c0
 go_enter Tryz.func77, Tryz.ntmps77
 go_wp2_with fail
 go_region_held3 (fun w' => w'.cell? ⟨B, o + m * 2, none⟩ = some (.int .i64 x.piece) ∧ w'.cell? ⟨B, o + m * 2 + 1, none⟩ = some (.int .i64 x.way)) (((try dsimp only); (repeat' apply And.intro)) <;> (go_keep; done))
  (first
   | (go_at_call 104; refine (place_any B o fs i _ (unhide HC) (by omega) (by omega)).mono ?_; rintro e w1 ⟨rfl, rfl⟩; rw [unhide HM]))
 go_wp2
 exact bodyPost_ret (v := .agg #[.int .i64 x.piece, .int .i64 x.way]) (by simp [results, Tryz.results77, go_sem]) rfl ⟨rfl, bw0⟩

theorem RingC.at {w : World} {B o fs : Nat} {xs : List St} (h : RingC w B o fs xs) {i : Nat} (hi : i < xs.length) :
  w.cell? ⟨B, o + ((fs + i) % 201) * 2, none⟩ = some (.int .i64 (xs.getD i ⟨0, 0⟩).piece) ∧ w.cell? ⟨B, o + ((fs + i) % 201) * 2 + 1, none⟩ = some (.int .i64 (xs.getD i ⟨0, 0⟩).way) := by
 obtain ⟨f, ho, _, _, _, _, hring⟩ := h
 have hm : (fs + i) % 201 < 201 := Nat.mod_lt _ (by omega)
 have hr := hring i hi
 exact ⟨by rw [(ho.2 (((fs + i) % 201) * 2) (by omega)).1, hr.1], by rw [Nat.add_assoc, (ho.2 (((fs + i) % 201) * 2 + 1) (by omega)).1, hr.2]⟩

theorem RingC.drop {w : World} {B o fs : Nat} {xs : List St} {x : St} (h : RingC w B o fs (xs ++ [x])) : RingC (w.setCell ⟨B, o + 403, none⟩ (.int .i64 xs.length)) B o fs xs := by
 obtain ⟨f, ho, h1, h2, h3, h4, h5⟩ := h
 simp at h2
 refine ⟨fun j => if j = 403 then .int .i64 xs.length else f j, ho.set (by omega) _, h1, by omega, by simpa using h3, by simp, fun i hi => ?_⟩
 have hm : (fs + i) % 201 < 201 := Nat.mod_lt _ (by omega)
 have := h5 i (by simp; omega)
 have hg : (xs ++ [x]).getD i ⟨0, 0⟩ = xs.getD i ⟨0, 0⟩ := by simp [List.getElem?_append_left hi]
 rw [hg] at this
 dsimp only
 rw [if_neg (by omega), if_neg (by omega)]
 exact this

set_option maxRecDepth 100000 in
set_option maxHeartbeats 2000000 in
theorem takeFar_any (B o fs : Nat) (xs : List St) (x : St) (w : World) (h : RingC w B o fs (xs ++ [x])) :
  Calls Tryz.prog 108 #[.pointer (some ⟨B, o, none⟩)] w fun e w' => e = .returned (.tuple #[.agg #[.int .i64 x.piece, .int .i64 x.way], .bool true]) ∧ RingC w' B o fs xs ∧ Only (fun k => k = B) w w' ∧ Below w.heap.size (w.setCell ⟨B, o + 403, none⟩ (.int .i64 xs.length)) w' := by
 have hB := h.lt
 obtain ⟨c0, c1, cz, hfs, hfew⟩ := h.cells
 have hz3 := cz 403 (by omega)
 simp only [List.length_append, List.length_singleton] at c1 hfew
 have hne : (((xs.length + 1 : Nat) : Int) == 0) = false := by rw [beq_eq_false_iff_ne]; omega
 have hd := h.drop
 have hin : xs.length < (xs ++ [x]).length := by simp
 have hget : (xs ++ [x]).getD xs.length ⟨0, 0⟩ = x := by simp
 have nB : ¬ B = w.heap.size := by omega
 have nB2 : ¬ w.heap.size = B := by omega
 have hat := h.at hin
 rw [hget] at hat
 obtain ⟨m, hm⟩ : ∃ m, (fs + xs.length) % 201 = m := ⟨_, rfl⟩
 have hm2 : m < 201 := by omega
 rw [hm] at hat
 have HM := hide hm
 obtain ⟨a0, a1⟩ := hat
 have H0 : Hid (((w.setCell ⟨B, o + 403, none⟩ (.int .i64 xs.length)).alloc (.cells #[.int .i64 0, .int .i64 0] 67)).cell? ⟨B, o + 402, none⟩ = some (.int .i64 fs)) := by
  unfold Hid
  rw [World.cell?_alloc_past _ _ _ (by simpa [World.setCell] using hB), World.cell?_setCell_other _ _ _ _ (by simp)]
  exact c0
 have H1 : Hid (((w.setCell ⟨B, o + 403, none⟩ (.int .i64 xs.length)).alloc (.cells #[.int .i64 0, .int .i64 0] 67)).cell? ⟨B, o + m * 2, none⟩ = some (.int .i64 x.piece)) := by
  unfold Hid
  rw [World.cell?_alloc_past _ _ _ (by simpa [World.setCell] using hB), World.cell?_setCell_other _ _ _ _ (by first | (simp; done) | (simp; omega))]
  exact a0
 have H2 : Hid (((w.setCell ⟨B, o + 403, none⟩ (.int .i64 xs.length)).alloc (.cells #[.int .i64 0, .int .i64 0] 67)).cell? ⟨B, o + m * 2 + 1, none⟩ = some (.int .i64 x.way)) := by
  unfold Hid
  rw [World.cell?_alloc_past _ _ _ (by simpa [World.setCell] using hB), World.cell?_setCell_other _ _ _ _ (by first | (simp; done) | (simp; omega))]
  exact a1
 have HD := hide hd
 clear h hd hget hin cz hm a0 a1
 go_enter Tryz.func108, Tryz.ntmps108
 go_wp2_with fail
 refine (ringAtC_any B o xs.length fs m x _ (by simpa [World.setCell] using Nat.lt_succ_of_lt hB) (unhide H0) hfs (by omega) (unhide HM) (unhide H1) (unhide H2)).mono ?_
 rintro e w1 ⟨rfl, hb1⟩
 have hR : Boxed w1 w.heap.size [.int .i64 0, .int .i64 0] := (boxedN _ _ _ (by simp [World.setCell])).below hb1
 have hRC := ((unhide HD).below ((Below.refl _ _).alloc (Nat.le_refl _) (.cells #[.int .i64 0, .int .i64 0] 67))).below hb1
 have hon : Only (fun k => k = B) w w1 := (((only_setCell (S := fun k => k = B) w (p := ⟨B, o + 403, none⟩) rfl (.int .i64 xs.length))).trans (only_of_below ((Below.refl _ _).alloc (Nat.le_refl _) _))).trans (only_of_below hb1)
 have r0 := hR.2.1 0 _ rfl
 have r1 := hR.2.1 1 _ rfl
 have rz := hR.2.2
 have rl := hR.1
 have HRC := hide hRC
 have HON := hide hon
 clear hRC hon
 go_wp2
 refine bodyPost_ret (v := .tuple #[.agg #[.int .i64 x.piece, .int .i64 x.way], .bool true]) (by simp [results, Tryz.results108, go_sem, r0, r1]) rfl ⟨rfl, ?_, ?_, ?_⟩
 ·obtain ⟨f, ho, hr⟩ := unhide HRC
  refine ⟨f, ho.of_block ?_ (by simp [World.setCell]), hr⟩
  rw [Below.heap_setCell _ _ _ B (by simpa using nB), Below.heap_setCell _ _ _ B (by simpa using nB)]
 ·exact (unhide HON).on bw0
 ·have hbs : Below w.heap.size (w.setCell ⟨B, o + 403, none⟩ (.int .i64 xs.length)) w1 := (((Below.refl w.heap.size (w.setCell ⟨B, o + 403, none⟩ (.int .i64 xs.length))).alloc (by simp [World.setCell]) _)).trans (hb1.mono (by simp [World.setCell]))
  exact (bw1 hbs)

theorem RingC.near {w : World} {B o fs : Nat} {xs : List St} (h : RingC w B o fs xs) (hx : xs.length ≤ 200) (x : St) {m : Nat} (hm : (fs + 200) % 201 = m) :
  RingC ((((w.setCell ⟨B, o + 402, none⟩ (.int .i64 m)).setCell ⟨B, o + m * 2, none⟩ (.int .i64 x.piece)).setCell ⟨B, o + (m * 2 + 1), none⟩ (.int .i64 x.way)).setCell ⟨B, o + 403, none⟩ (.int .i64 ((xs.length : Int) + 1))) B o m (x :: xs) := by
 obtain ⟨f, ho, h1, h2, h3, h4, h5⟩ := h
 have hm2 : m < 201 := by omega
 refine ⟨_, ((((ho.set (i := 402) (by omega) (.int .i64 m)).set (i := m * 2) (by omega) (.int .i64 x.piece)).set (i := m * 2 + 1) (by omega) (.int .i64 x.way)).set (i := 403) (by omega) (.int .i64 ((xs.length : Int) + 1))), hm2, by simp; omega, ?_, ?_, fun i hi => ?_⟩
 ·try dsimp only
  rw [if_neg (by omega), if_neg (by omega), if_neg (by omega), if_pos rfl]
 ·try dsimp only
  rw [if_pos rfl]
  simp
 ·try dsimp only
  cases i with
  | zero =>
   have e0 : (m + 0) % 201 = m := by omega
   rw [e0]
   simp only [List.getD_cons_zero]
   constructor
   ·rw [if_neg (by omega), if_neg (by omega)]
    simp
   ·rw [if_neg (by omega)]
    simp
  | succ i =>
   simp at hi
   have e0 : (m + (i + 1)) % 201 = (fs + i) % 201 := by omega
   have hlt : (fs + i) % 201 < 201 := Nat.mod_lt _ (by omega)
   have hne : (fs + i) % 201 ≠ m := by omega
   rw [e0]
   simp only [List.getD_cons_succ]
   have := h5 i hi
   constructor
   ·rw [if_neg (by omega), if_neg (by omega), if_neg (by omega), if_neg (by omega)]
    exact this.1
   ·rw [if_neg (by omega), if_neg (by omega), if_neg (by omega), if_neg (by omega)]
    exact this.2

set_option maxRecDepth 100000 in
set_option maxHeartbeats 4000000 in
theorem addNear_any (B o fs : Nat) (xs : List St) (x : St) (w : World) (h : RingC w B o fs xs) (hx : xs.length ≤ 200) :
  Calls Tryz.prog 84 #[.pointer (some ⟨B, o, none⟩), .agg #[.int .i64 x.piece, .int .i64 x.way]] w fun e w' => (∃ v, e = .returned v) ∧ (∃ fs', fs' = (fs + 200) % 201 ∧ RingC w' B o fs' (x :: xs) ∧ Below w.heap.size ((((w.setCell ⟨B, o + 402, none⟩ (.int .i64 fs')).setCell ⟨B, o + fs' * 2, none⟩ (.int .i64 x.piece)).setCell ⟨B, o + fs' * 2 + 1, none⟩ (.int .i64 x.way)).setCell ⟨B, o + 403, none⟩ (.int .i64 ((xs.length : Int) + 1))) w') ∧ Only (fun k => k = B) w w' := by
 have hB := h.lt
 obtain ⟨c0, c1, cz, hfs, hfew⟩ := h.cells
 obtain ⟨m, hm⟩ : ∃ m, (fs + 200) % 201 = m := ⟨_, rfl⟩
 have hm2 : m < 201 := by omega
 have hix : (m : Int) < 201 := by omega
 have hnear := h.near hx x hm
 rw [← Nat.add_assoc o (m * 2) 1] at hnear
 obtain ⟨f, ho, _⟩ := h
 have d0 := (ho.2 (m * 2) (by omega)).1
 have d1 := (ho.2 (m * 2 + 1) (by omega)).1
 have z0 := cz (m * 2) (by omega)
 have z1 := cz (m * 2 + 1) (by omega)
 rw [← Nat.add_assoc] at d1 z1
 have e1 : ¬ o + 402 = o + m * 2 := by omega
 have e2 : ¬ o + m * 2 = o + 402 := by omega
 have e3 : ¬ o + 402 = o + m * 2 + 1 := by omega
 have e4 : ¬ o + m * 2 + 1 = o + 402 := by omega
 have e5 : ¬ o + 403 = o + m * 2 := by omega
 have e6 : ¬ o + m * 2 = o + 403 := by omega
 have e7 : ¬ o + 403 = o + m * 2 + 1 := by omega
 have e8 : ¬ o + m * 2 + 1 = o + 403 := by omega
 have g1 : ¬ 402 = m * 2 := by omega
 have g2 : ¬ m * 2 = 402 := by omega
 have g5 : ¬ 403 = m * 2 := by omega
 have g6 : ¬ m * 2 = 403 := by omega
 have z2 := cz 402 (by omega)
 have z3 := cz 403 (by omega)
 have nB : ¬ B = w.heap.size := by omega
 have nB2 : ¬ w.heap.size = B := by omega
 have HC : Hid ((w.alloc (.cells #[.int .i64 x.piece, .int .i64 x.way] 67)).cell? ⟨B, o + 402, none⟩ = some (.int .i64 fs)) := by
  unfold Hid
  rw [World.cell?_alloc_past _ _ _ hB]
  exact c0
 have HM := hide hm
 have HN := hide hnear
 clear hm hnear ho cz
 go_enter Tryz.func84, Tryz.ntmps84
 go_wp2_with fail
 refine (place_any B o fs 200 _ (unhide HC) (by omega) (by omega)).mono ?_
 rintro e w1 ⟨rfl, rfl⟩
 rw [unhide HM]
 go_wp2_with fail
 go_region
 go_wp2
 go_end0
 refine ⟨⟨_, rfl⟩, ⟨m, (unhide HM).symm, (unhide HN).below bw0, ?_⟩, ?_⟩
 ·refine Below.drew (Below.alloc (Below.refl _ _) ?_ _)
  simp [World.setCell]
 refine ((((only_setCell (S := fun k => k = B) w (p := ⟨B, o + 402, none⟩) rfl (.int .i64 m)).trans (only_setCell (S := fun k => k = B) _ (p := ⟨B, o + m * 2, none⟩) rfl (.int .i64 x.piece))).trans (only_setCell (S := fun k => k = B) _ (p := ⟨B, o + m * 2 + 1, none⟩) rfl (.int .i64 x.way))).trans (only_setCell (S := fun k => k = B) _ (p := ⟨B, o + 403, none⟩) rfl (.int .i64 ((xs.length : Int) + 1)))).trans (only_of_below ?_)
 exact bw0

end Go.Proofs.YtjacbppeebnjfaaGreat

namespace Go.Proofs.YtjacbppeebnjfaaGreat
open Go.RowKit

theorem RingC.kept {w w' : World} {B o fs M : Nat} {xs : List St} (h : RingC w B o fs xs) (hb : Below M w w') (hB : B < M) : RingC w' B o fs xs := by
 obtain ⟨f, ho, hr⟩ := h
 exact ⟨f, ho.of_block (hb.block B hB) hb.size, hr⟩

end Go.Proofs.YtjacbppeebnjfaaGreat

namespace Go.Proofs.YtjacbppeebnjfaaGreat

def trn (x : St) : St := ⟨x.piece, -x.way⟩
def takeLen (n : Nt) (long : Int) : Int → List St → List St
 | _, [] => []
 | h, x :: r => if h < long then x :: takeLen n long (h + lenOf n x.piece) r else []

theorem takeLen_take (n : Nt) (long : Int) : ∀ (zs : List St) (h : Int), ∃ k, k ≤ zs.length ∧ takeLen n long h zs = zs.take k ∧ (∀ j, j < k → h + sumLen n (zs.take j) < long) ∧ (k = zs.length ∨ long ≤ h + sumLen n (zs.take k)) := by
 intro zs
 induction zs with
 | nil => intro h; exact ⟨0, by simp, by simp [takeLen], fun j hj => by omega, Or.inl rfl⟩
 | cons x r ih =>
  intro h
  by_cases hl : h < long
  ·obtain ⟨k, h1, h2, h3, h4⟩ := ih (h + lenOf n x.piece)
   refine ⟨k + 1, by simp; omega, by simp [takeLen, hl, h2], fun j hj => ?_, ?_⟩
   ·cases j with
    | zero => simpa [sumLen_nil] using hl
    | succ j =>
     have := h3 j (by omega)
     simp only [List.take_succ_cons, sumLen_cons]
     omega
   ·rcases h4 with h4 | h4
    ·exact Or.inl (by simp [h4])
    ·right
     simp only [List.take_succ_cons, sumLen_cons]
     omega
  ·exact ⟨0, by simp, by simp [takeLen, hl], fun j hj => by omega, Or.inr (by simp [sumLen_nil]; omega)⟩

def turnTail (n : Nt) (t : Tr) : Sp := ⟨(tailOf n t).piece, (tailOf n t).at_, -(tailOf n t).way⟩

end Go.Proofs.YtjacbppeebnjfaaGreat

namespace Go.Proofs.YtjacbppeebnjfaaGreat
open Go.RowKit

def NxBack (n : Nt) (zs : List Int) (s : St) (r : Option (St × St)) : Prop :=
 ∃ i k q, StandsAt n.joints (hd s.piece (-s.way)) i k ∧ OverIs n zs i k q ∧ ((q.2 ≠ 0 ∧ r = none) ∨ (q.2 = 0 ∧ r = some (twd q.1, twd q.1)))

theorem stands_fits {n : Nt} (hG : NetGood n) {e : Ed} {i k : Nat} (h : StandsAt n.joints e i k) : EdFits n.pieces.length e := by
 obtain ⟨hi, hk, he⟩ := h
 have := (hG.fits i hi).2.2 k hk
 rw [he] at this
 exact this

theorem nxBack_fun {n : Nt} (hG : NetGood n) {zs : List Int} : ∀ s a b, NxBack n zs s a → NxBack n zs s b → a = b := by
 rintro s a b ⟨i, k, q, hst, ⟨h1, h2, h3⟩, h⟩ ⟨i', k', q', hst', ⟨g1, g2, g3⟩, g⟩
 have hf := stands_fits hG hst
 have hu : uses n.joints (hd s.piece (-s.way)).piece (hd s.piece (-s.way)).side = 1 := by
  have := hG.hd (p := s.piece) hf.1.1 hf.1.2 (-s.way)
  exact this
 obtain ⟨rfl, rfl⟩ := stands_unique hu hst hst'
 rw [h3] at g3
 subst g3
 rcases h with ⟨h, rfl⟩ | ⟨h, rfl⟩ <;> rcases g with ⟨g, rfl⟩ | ⟨g, rfl⟩
 ·rfl
 ·exact absurd g h
 ·exact absurd h g
 ·rfl

theorem endOf_fits {n : Nt} (hG : NetGood n) {i : Nat} (hi : i < n.joints.length) {k : Nat} (hk : k < n.joints[i].ends.length) : EdFits n.pieces.length (endOf n.joints[i] k) := by
 have := (hG.fits i hi).2.2 k hk
 unfold endOf
 simpa [List.getD, List.getElem?_eq_getElem hk] using this

theorem overJ_fits {n : Nt} (hG : NetGood n) {i k : Nat} (hi : i < n.joints.length) (hk : k < n.joints[i].ends.length) {z : Int} {q : Ed × Int} (h : overJ n.joints[i] k z = q) (h0 : q.2 = 0) : EdFits n.pieces.length q.1 := by
 have hK := hG.kind hi
 obtain ⟨⟨h1, h4⟩, hl⟩ := hK
 subst h
 unfold overJ at h0 ⊢
 have h5 : n.joints[i].kind = 1 ∨ n.joints[i].kind = 2 ∨ n.joints[i].kind = 3 ∨ n.joints[i].kind = 4 := by omega
 rcases h5 with h | h | h | h
 ·simp [h] at h0
 ·simp only [h] at h0 ⊢
  simp only [if_true] at h0 ⊢
  exact endOf_fits hG hi (by omega)
 ·have hk3 : k = 0 ∨ k = 1 ∨ k = 2 := by omega
  by_cases hz : z = 0
  ·simp [h, hz] at h0
  ·by_cases hz2 : z = 2
   ·rcases hk3 with rfl | rfl | rfl
    ·simp [h, hz2]
     exact endOf_fits hG hi (by omega)
    ·simp [h, hz2] at h0
    ·simp [h, hz2]
     exact endOf_fits hG hi (by omega)
   ·rcases hk3 with rfl | rfl | rfl
    ·simp [h, hz, hz2]
     exact endOf_fits hG hi (by omega)
    ·simp [h, hz, hz2]
     exact endOf_fits hG hi (by omega)
    ·simp [h, hz, hz2] at h0
 ·simp only [h] at h0 ⊢
  simp at h0 ⊢
  have hk4 : k < 4 := by omega
  split
  ·exact endOf_fits hG hi (by omega)
  ·split
   ·exact endOf_fits hG hi (by omega)
   ·split <;> exact endOf_fits hG hi (by omega)

theorem twd_ok {n : Nt} {e : Ed} (h : EdFits n.pieces.length e) : StepOk n (twd e) := ⟨h.1, by unfold twd; dsimp only; split <;> simp⟩

def BackAt (n : Nt) (w0 : World) (k0 k1 k2 zv : Value) (C : Nat) (s : St) (w : World) : Prop :=
 Below w0.heap.size w0 w ∧ StepOk n s ∧ Boxed w C [k0, k1, k2, zv, .int .i64 s.piece, .int .i64 s.way]
theorem BackAt.kept {n : Nt} {w0 : World} {k0 k1 k2 zv : Value} {C : Nat} {s : St} {a b : World} {M : Nat} (h : BackAt n w0 k0 k1 k2 zv C s a) (hb : Below M a b) (hC : C < M) (h0 : w0.heap.size ≤ C) : BackAt n w0 k0 k1 k2 zv C s b := by
 obtain ⟨h1, h2, h3⟩ := h
 exact ⟨h1.trans (hb.mono (by omega)), h2, h3.kept hb hC⟩

end Go.Proofs.YtjacbppeebnjfaaGreat

namespace Go.Proofs.YtjacbppeebnjfaaGreat
open Go.RowKit

def PlaceGood (n : Nt) (zs : List Int) (s : Sp) (long : Int) : Prop := NetRes n 0 0 ∧ LiesFit n.joints zs ∧ SpotOk n s ∧ (1 ≤ long ∧ long ≤ 100000)
def noTr : Tr := ⟨⟨0, 0, 0⟩, 0, []⟩
def PlaceAns (n : Nt) (zs : List Int) (s : Sp) (long : Int) (ok : Bool) (t : Tr) : Prop :=
 (PlaceGood n zs s long ∧ ∃ xs r, LayOk (NxBack n zs) n (behind n s - long) ⟨s.piece, s.way⟩ xs r ∧ ok = true ∧ t = ⟨s, long, xs⟩)
 ∨ ((¬ PlaceGood n zs s long ∨ PlaceGood n zs s long ∧ LayNo (NxBack n zs) n (behind n s - long) ⟨s.piece, s.way⟩) ∧ ok = false ∧ t = noTr)
theorem PlaceAns.unique {n : Nt} {zs : List Int} {s : Sp} {long : Int} {ok ok' : Bool} {t t' : Tr} (h : PlaceAns n zs s long ok t) (g : PlaceAns n zs s long ok' t') : ok = ok' ∧ t = t' := by
 rcases h with ⟨hg, xs, r, hl, rfl, rfl⟩ | ⟨h, rfl, rfl⟩ <;> rcases g with ⟨gg, ys, q, gl, rfl, rfl⟩ | ⟨g, rfl, rfl⟩
 ·obtain ⟨rfl, rfl⟩ := layOk_unique (nxBack_fun (netGood hg.1)) hl gl
  exact ⟨rfl, rfl⟩
 ·rcases g with g | ⟨_, g⟩
  ·exact absurd hg g
  ·exact absurd g (layOk_no (nxBack_fun (netGood hg.1)) hl)
 ·rcases h with h | ⟨_, h⟩
  ·exact absurd gg h
  ·exact absurd h (layOk_no (nxBack_fun (netGood gg.1)) gl)
 ·exact ⟨rfl, rfl⟩
theorem PlaceAns.len {n : Nt} {zs : List Int} {s : Sp} {long : Int} {ok : Bool} {t : Tr} (h : PlaceAns n zs s long ok t) : t.back.length ≤ 200 := by
 rcases h with ⟨hg, xs, r, ⟨_, hl, _⟩, rfl, rfl⟩ | ⟨h, rfl, rfl⟩
 ·exact hl.few
 ·simp [noTr]

def RetPl (n : Nt) (zs : List Int) (s : Sp) (long : Int) (base : Nat) (e : Ending) (w' : World) : Prop :=
 ∃ ok t a cap, PlaceAns n zs s long ok t ∧ e = .returned (.agg #[.bool ok, .int .i64 t.front.piece, .int .i64 t.front.at_, .int .i64 t.front.way, .int .i64 t.long, .slice a t.back.length cap]) ∧ StRow w' base (.slice a t.back.length cap) t.back

theorem retPl_no {n : Nt} {zs : List Int} {s : Sp} {long : Int} {base : Nat} {w' : World} (h : ¬ PlaceGood n zs s long ∨ PlaceGood n zs s long ∧ LayNo (NxBack n zs) n (behind n s - long) ⟨s.piece, s.way⟩) :
  RetPl n zs s long base (.returned (.agg #[.bool false, .int .i64 0, .int .i64 0, .int .i64 0, .int .i64 0, .slice none 0 0])) w' :=
 ⟨false, noTr, none, 0, Or.inr ⟨h, rfl, rfl⟩, rfl, Row.nil _ _ _ _ _⟩

theorem below_set6 {B N : Nat} {a w : World} (h : Below B a w) (hN : B ≤ N) (v0 v1 v2 v3 v4 v5 : Value) :
  Below B a ((((((w.setCell ⟨N, 0, none⟩ v0).setCell ⟨N, 1, none⟩ v1).setCell ⟨N, 2, none⟩ v2).setCell ⟨N, 3, none⟩ v3).setCell ⟨N, 4, none⟩ v4).setCell ⟨N, 5, none⟩ v5) :=
 (((((h.setCell (p := ⟨N, 0, none⟩) hN v0).setCell (p := ⟨N, 1, none⟩) hN v1).setCell (p := ⟨N, 2, none⟩) hN v2).setCell (p := ⟨N, 3, none⟩) hN v3).setCell (p := ⟨N, 4, none⟩) hN v4).setCell (p := ⟨N, 5, none⟩) hN v5

end Go.Proofs.YtjacbppeebnjfaaGreat

namespace Go.Proofs.YtjacbppeebnjfaaGreat
open Go.RowKit

def turnList (t : Tr) : List St := ((((⟨t.front.piece, t.front.way⟩ : St) :: t.back).dropLast).reverse).map trn
def turnBack (n : Nt) (t : Tr) : List St := takeLen n t.long (behind n (turnTail n t)) (turnList t)
def turnOf (n : Nt) (t : Tr) : Tr := ⟨turnTail n t, t.long, turnBack n t⟩
def TurnIs (n : Nt) (t t' : Tr) : Prop := (TrainRight n t ∧ t' = turnOf n t) ∨ (¬ TrainRight n t ∧ t' = noTr)
theorem TurnIs.unique {n : Nt} {t a b : Tr} (h : TurnIs n t a) (g : TurnIs n t b) : a = b := by
 rcases h with ⟨h1, rfl⟩ | ⟨h1, rfl⟩ <;> rcases g with ⟨g1, rfl⟩ | ⟨g1, rfl⟩
 ·rfl
 ·exact absurd h1 g1
 ·exact absurd g1 h1
 ·rfl
theorem takeLen_in {n : Nt} {long h : Int} (hl : h < long) (x : St) (r : List St) : takeLen n long h (x :: r) = x :: takeLen n long (h + lenOf n x.piece) r := by simp [takeLen, hl]
theorem takeLen_out {n : Nt} {long h : Int} (hl : ¬ h < long) (xs : List St) : takeLen n long h xs = [] := by cases xs <;> simp [takeLen, hl]

end Go.Proofs.YtjacbppeebnjfaaGreat

