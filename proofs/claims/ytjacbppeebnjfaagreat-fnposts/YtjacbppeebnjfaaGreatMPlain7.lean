import Derived.Test.YtjacbppeebnjfaaGreatMKt22
import Derived.Test.YtjacbppeebnjfaaGreatMSpec14
import Derived.Test.YtjacbppeebnjfaaGreatMKt27
import Derived.Test.YtjacbppeebnjfaaGreatMSpec12
namespace Go.Proofs.YtjacbppeebnjfaaGreat
open Go.RowKit

structure Mv where
 s : Sp
 xs : List St
 far : Int
 over : List Pt

def rolledSp (n : Nt) (s : Sp) (left : Int) : Sp := ⟨s.piece, s.at_ + s.way * (rollTo n s left - behind n s), s.way⟩
def rollM (n : Nt) (long F : Int) (m : Mv) : Mv :=
 ⟨rolledSp n m.s (F - m.far), takeLen n long (behind n (rolledSp n m.s (F - m.far))) m.xs, m.far + (rollTo n m.s (F - m.far) - behind n m.s), m.over ++ [partOf n ⟨m.s.piece, m.s.way⟩ (behind n m.s) (rollTo n m.s (F - m.far))]⟩
def enterM (n : Nt) (m : Mv) (e : Ed) : Mv := ⟨enterSp n e, ⟨m.s.piece, m.s.way⟩ :: m.xs, m.far, m.over⟩
def Ahead (n : Nt) (zs : List Int) (s : Sp) (i : Nat) (r : Ed × Int) : Prop := ∃ k, StandsAt n.joints (hd s.piece s.way) i k ∧ OverIs n zs i k r
theorem Ahead.unique {n : Nt} (hG : NetGood n) {zs : List Int} {s : Sp} (hs : SpotOk n s) {i j : Nat} {r q : Ed × Int} (h : Ahead n zs s i r) (g : Ahead n zs s j q) : i = j ∧ r = q := by
 obtain ⟨k, h1, h2⟩ := h
 obtain ⟨k', g1, g2⟩ := g
 obtain ⟨rfl, rfl⟩ := stands_unique (hG.hd hs.1.1 hs.1.2 s.way) h1 g1
 obtain ⟨a, b, e⟩ := h2
 obtain ⟨c, d, f⟩ := g2
 exact ⟨rfl, e.symm.trans f⟩

inductive MStep (n : Nt) (zs : List Int) (long F : Int) : Mv → Mv → Prop
 | roll {m : Mv} : m.far < F → 0 < room n m.s → MStep n zs long F m (rollM n long F m)
 | enter {m : Mv} {i : Nat} {e : Ed} : m.far < F → room n m.s = 0 → Ahead n zs m.s i (e, 0) → m.xs.length < 200 → MStep n zs long F m (enterM n m e)
inductive Goes (n : Nt) (zs : List Int) (long F : Int) (m0 : Mv) : Mv → Prop
 | start : Goes n zs long F m0 m0
 | step {m m' : Mv} : Goes n zs long F m0 m → MStep n zs long F m m' → Goes n zs long F m0 m'
def MEnd (n : Nt) (zs : List Int) (F : Int) (m : Mv) (code joint : Int) : Prop :=
 (m.far = F ∧ code = 0 ∧ joint = -1) ∨ (m.far < F ∧ room n m.s = 0 ∧ ∃ i r, Ahead n zs m.s i r ∧ ((r.2 ≠ 0 ∧ code = r.2 ∧ joint = i) ∨ (r.2 = 0 ∧ m.xs.length = 200 ∧ code = 6 ∧ joint = i)))

structure MvOk (n : Nt) (long F : Int) (m : Mv) : Prop where
 spot : SpotOk n m.s
 steps : ∀ x ∈ m.xs, StepOk n x
 len : m.xs.length ≤ 200
 trim : ∀ j, j < m.xs.length → behind n m.s + sumLen n (m.xs.take j) < long
 enough : long ≤ behind n m.s + sumLen n m.xs
 far0 : 0 ≤ m.far
 farF : m.far ≤ F
 over : (m.over.length : Int) ≤ m.far

theorem roll_le {n : Nt} (hG : NetGood n) {s : Sp} (hs : SpotOk n s) {left : Int} (h0 : 0 ≤ left) : behind n s ≤ rollTo n s left ∧ rollTo n s left ≤ lenOf n s.piece ∧ rollTo n s left - behind n s ≤ left ∧ (0 < room n s → 0 < left → behind n s < rollTo n s left) := by
 have hlen := hG.len hs.1.1 hs.1.2
 have h3 := hs.2.2
 have hb : behind n s = lenOf n s.piece - room n s := rfl
 have hr : 0 ≤ room n s := by unfold room; split <;> omega
 unfold rollTo
 split <;> omega

theorem rolled_ok {n : Nt} (hG : NetGood n) {s : Sp} (hs : SpotOk n s) {left : Int} (h0 : 0 ≤ left) : SpotOk n (rolledSp n s left) ∧ behind n (rolledSp n s left) = rollTo n s left := by
 have hlen := hG.len hs.1.1 hs.1.2
 obtain ⟨h1, h2, _⟩ := roll_le hG hs h0
 have h3 := hs.2.2
 obtain ⟨r, hr⟩ : ∃ r, rollTo n s left = r := ⟨_, rfl⟩
 rw [hr] at h1 h2
 unfold rolledSp SpotOk
 rw [hr]
 unfold behind room at h1 ⊢
 dsimp only
 rcases hs.2.1 with hy | hy
 ·rw [hy] at h1 ⊢
  simp only [if_true] at h1 ⊢
  exact ⟨⟨hs.1, by simp, by omega, by omega⟩, by omega⟩
 ·rw [hy] at h1 ⊢
  simp only [show ¬ (-1 : Int) = 1 by decide, if_false] at h1 ⊢
  exact ⟨⟨hs.1, by simp, by omega, by omega⟩, by omega⟩

theorem sumLen_nonneg {n : Nt} (hG : NetGood n) {xs : List St} (h : ∀ x ∈ xs, StepOk n x) : 0 ≤ sumLen n xs := by
 induction xs with
 | nil => simp [sumLen_nil]
 | cons x r ih =>
  have := ih (fun y hy => h y (List.mem_cons_of_mem _ hy))
  have h1 := h x List.mem_cons_self
  have := hG.len h1.1.1 h1.1.2
  rw [sumLen_cons]
  omega

theorem enterSp_ok {n : Nt} (hG : NetGood n) {e : Ed} (he : EdFits n.pieces.length e) : SpotOk n (enterSp n e) ∧ behind n (enterSp n e) = 0 ∧ (enterSp n e).piece = e.piece := by
 have hlen := hG.len he.1.1 he.1.2
 unfold enterSp
 split
 ·refine ⟨⟨he.1, Or.inl rfl, ?_⟩, ?_, rfl⟩
  ·dsimp only; omega
  ·simp [behind, room]
 ·refine ⟨⟨he.1, Or.inr rfl, ?_⟩, ?_, rfl⟩
  ·dsimp only; omega
  ·simp [behind, room]

theorem ahead_fits {n : Nt} (hG : NetGood n) {zs : List Int} {s : Sp} {i : Nat} {e : Ed} (h : Ahead n zs s i (e, 0)) : EdFits n.pieces.length e := by
 obtain ⟨k, ⟨h1, h2, _⟩, h4, h5, h6⟩ := h
 exact overJ_fits hG h1 h2 h6 rfl

theorem room_len {n : Nt} {s : Sp} (h : room n s = 0) : behind n s = lenOf n s.piece := by unfold behind; omega

theorem rollM_ok {n : Nt} (hG : NetGood n) {long F : Int} {m : Mv} (h : MvOk n long F m) (hf : m.far < F) (hr : 0 < room n m.s) : MvOk n long F (rollM n long F m) := by
 obtain ⟨h1, h2⟩ := rolled_ok hG h.spot (show (0 : Int) ≤ F - m.far by omega)
 obtain ⟨g1, g2, g3, g4⟩ := roll_le hG h.spot (show (0 : Int) ≤ F - m.far by omega)
 have g5 := g4 hr (by omega)
 obtain ⟨k, k1, k2, k3, k4⟩ := takeLen_take n long m.xs (behind n (rolledSp n m.s (F - m.far)))
 have h0 := h.far0
 have ho := h.over
 have he := h.enough
 unfold rollM
 refine ⟨h1, ?_, ?_, ?_, ?_, ?_, ?_, ?_⟩
 ·dsimp only
  rw [k2]
  exact fun x hx => h.steps x (List.mem_of_mem_take hx)
 ·dsimp only
  rw [k2, List.length_take]
  have := h.len
  omega
 ·dsimp only
  rw [k2]
  intro j hj
  rw [List.length_take] at hj
  rw [List.take_take, show min j k = j by omega]
  exact k3 j (by omega)
 ·dsimp only
  rw [k2]
  rcases k4 with k4 | k4
  ·rw [k4, List.take_length, h2]
   omega
  ·exact k4
 ·dsimp only; omega
 ·dsimp only; omega
 ·dsimp only
  rw [List.length_append]
  simp
  omega

theorem enterM_ok {n : Nt} (hG : NetGood n) {zs : List Int} {long F : Int} (hl : 0 < long) {m : Mv} (h : MvOk n long F m) (hr : room n m.s = 0) {i : Nat} {e : Ed} (ha : Ahead n zs m.s i (e, 0)) (hx : m.xs.length < 200) : MvOk n long F (enterM n m e) := by
 obtain ⟨h1, h2, _⟩ := enterSp_ok hG (ahead_fits hG ha)
 have hb := room_len hr
 have he := h.enough
 unfold enterM
 refine ⟨h1, ?_, ?_, ?_, ?_, h.far0, h.farF, h.over⟩
 ·intro x hx
  rcases List.mem_cons.1 hx with rfl | hx
  ·exact ⟨h.spot.1, h.spot.2.1⟩
  ·exact h.steps x hx
 ·simp; omega
 ·dsimp only
  intro j hj
  rw [h2]
  cases j with
  | zero => simp [sumLen_nil]; exact hl
  | succ j =>
   rw [List.take_succ_cons, sumLen_cons]
   dsimp only
   have := h.trim j (by simp at hj; omega)
   omega
 ·dsimp only
  rw [h2, sumLen_cons]
  dsimp only
  omega

theorem Goes.ok {n : Nt} (hG : NetGood n) {zs : List Int} {long F : Int} (hl : 0 < long) {a b : Mv} (h : Goes n zs long F a b) (ha : MvOk n long F a) : MvOk n long F b := by
 induction h with
 | start => exact ha
 | step _ h2 ih =>
  cases h2 with
  | roll h3 h4 => exact rollM_ok hG ih h3 h4
  | enter h3 h4 h5 h6 => exact enterM_ok hG hl ih h4 h5 h6

theorem takeLen_all {n : Nt} {long : Int} : ∀ {xs : List St} {h : Int}, (∀ j, j < xs.length → h + sumLen n (xs.take j) < long) → takeLen n long h xs = xs := by
 intro xs
 induction xs with
 | nil => intro h _; rfl
 | cons x r ih =>
  intro h hx
  have h0 := hx 0 (by simp)
  simp [sumLen_nil] at h0
  rw [takeLen_in h0, ih (fun j hj => ?_)]
  have := hx (j + 1) (by simp; omega)
  rw [List.take_succ_cons, sumLen_cons] at this
  omega

theorem MvOk.trimmed {n : Nt} {long F : Int} {m : Mv} (h : MvOk n long F m) : takeLen n long (behind n m.s) m.xs = m.xs := takeLen_all h.trim

theorem leave_take {n : Nt} (hG : NetGood n) {long : Int} : ∀ (ys : List St) (h : Int), (∀ x ∈ ys, StepOk n x) → 0 ≤ h → long ≤ h + sumLen n ys.reverse →
  (leaveR n (h + sumLen n ys.reverse - long) ys).2.reverse = takeLen n long h ys.reverse ∧ (leaveR n (h + sumLen n ys.reverse - long) ys).1 = h + sumLen n (takeLen n long h ys.reverse) - long := by
 intro ys
 induction ys with
 | nil =>
  intro h _ _ _
  simp [leaveR, takeLen]
 | cons x r ih =>
  intro h hok h0 hl
  have hx := hok x List.mem_cons_self
  have hlen := hG.len hx.1.1 hx.1.2
  have hr : ∀ y ∈ r, StepOk n y := fun y hy => hok y (List.mem_cons_of_mem _ hy)
  have hnn := sumLen_nonneg hG (xs := r.reverse) (fun y hy => hr y (List.mem_reverse.1 hy))
  rw [List.reverse_cons, sumLen_append, sumLen_cons, sumLen_nil] at hl ⊢
  unfold leaveR
  obtain ⟨k, k1, k2, k3, k4⟩ := takeLen_take n long (r.reverse ++ [x]) h
  by_cases hlt : h + (sumLen n r.reverse + (lenOf n x.piece + 0)) - long < lenOf n x.piece
  ·rw [if_pos hlt]
   have hall : takeLen n long h (r.reverse ++ [x]) = r.reverse ++ [x] := by
    refine takeLen_all fun j hj => ?_
    have hj' : j ≤ r.reverse.length := by simp at hj ⊢; omega
    rw [List.take_append_of_le_length hj']
    have h2 : 0 ≤ sumLen n (r.reverse.drop j) := sumLen_nonneg hG fun y hy => hr y (List.mem_reverse.1 (List.mem_of_mem_drop hy))
    have h3 : sumLen n r.reverse = sumLen n (r.reverse.take j) + sumLen n (r.reverse.drop j) := by rw [← sumLen_append, List.take_append_drop]
    omega
   rw [hall]
   refine ⟨by simp, ?_⟩
   rw [sumLen_append, sumLen_cons, sumLen_nil]
  ·rw [if_neg hlt]
   have e : h + (sumLen n r.reverse + (lenOf n x.piece + 0)) - long - lenOf n x.piece = h + sumLen n r.reverse - long := by omega
   rw [e]
   obtain ⟨i1, i2⟩ := ih h hr h0 (by omega)
   have hsame : takeLen n long h (r.reverse ++ [x]) = takeLen n long h r.reverse := by
    obtain ⟨q, q1, q2, q3, q4⟩ := takeLen_take n long r.reverse h
    have hk : k = q := by
     rcases Nat.lt_trichotomy k q with hh | hh | hh
     ·exfalso
      have := q3 k hh
      rw [← List.take_append_of_le_length (l₂ := [x]) (by omega)] at this
      rcases k4 with k4 | k4
      ·simp at k4 q1
       omega
      ·omega
     ·exact hh
     ·exfalso
      have hq := k3 q hh
      rw [List.take_append_of_le_length q1] at hq
      rcases q4 with q4 | q4
      ·rw [q4, List.take_length] at hq
       omega
      ·omega
    rw [k2, q2, hk, List.take_append_of_le_length q1]
   rw [hsame]
   exact ⟨i1, i2⟩
end Go.Proofs.YtjacbppeebnjfaaGreat

namespace Go.Proofs.YtjacbppeebnjfaaGreat
open Go.RowKit

def spareOf (n : Nt) (long : Int) (s : Sp) (xs : List St) : Int := behind n s + sumLen n xs - long

theorem roll_same {n : Nt} (hG : NetGood n) {long F : Int} {m : Mv} (h : MvOk n long F m) :
  (leaveR n (spareOf n long m.s m.xs + (rollTo n m.s (F - m.far) - behind n m.s)) m.xs.reverse).2.reverse = takeLen n long (behind n (rolledSp n m.s (F - m.far))) m.xs
  ∧ (leaveR n (spareOf n long m.s m.xs + (rollTo n m.s (F - m.far) - behind n m.s)) m.xs.reverse).1 = spareOf n long (rolledSp n m.s (F - m.far)) (takeLen n long (behind n (rolledSp n m.s (F - m.far))) m.xs) := by
 have hf := h.farF
 have he := h.enough
 obtain ⟨_, h2⟩ := rolled_ok hG h.spot (show (0 : Int) ≤ F - m.far by omega)
 obtain ⟨g1, _, _, _⟩ := roll_le hG h.spot (show (0 : Int) ≤ F - m.far by omega)
 have hb := spot_behind hG h.spot
 obtain ⟨k1, k2⟩ := leave_take hG (long := long) m.xs.reverse (rollTo n m.s (F - m.far)) (fun x hx => h.steps x (List.mem_reverse.1 hx)) (by omega) (by rw [List.reverse_reverse]; omega)
 rw [List.reverse_reverse] at k1 k2
 have e : spareOf n long m.s m.xs + (rollTo n m.s (F - m.far) - behind n m.s) = rollTo n m.s (F - m.far) + sumLen n m.xs - long := by unfold spareOf; omega
 rw [e, h2]
 refine ⟨k1, ?_⟩
 rw [k2]
 unfold spareOf
 rw [h2]

theorem roll_none {n : Nt} (hG : NetGood n) {long F : Int} {m : Mv} (h : MvOk n long F m) (h0 : room n m.s = 0 ∨ m.far = F) :
  rollTo n m.s (F - m.far) = behind n m.s ∧ rolledSp n m.s (F - m.far) = m.s ∧ takeLen n long (behind n (rolledSp n m.s (F - m.far))) m.xs = m.xs := by
 have hf := h.farF
 have hlen := hG.len h.spot.1.1 h.spot.1.2
 have hb : behind n m.s = lenOf n m.s.piece - room n m.s := rfl
 have hr : 0 ≤ room n m.s := by have := h.spot.2.2; unfold room; split <;> omega
 have e : rollTo n m.s (F - m.far) = behind n m.s := by
  unfold rollTo
  rcases h0 with h0 | h0
  ·split <;> omega
  ·rw [h0]
   split <;> omega
 have e2 : rolledSp n m.s (F - m.far) = m.s := by
  unfold rolledSp
  rw [e]
  simp
 exact ⟨e, e2, by rw [e2]; exact h.trimmed⟩

theorem roll_end {n : Nt} (hG : NetGood n) {F : Int} {s : Sp} {far : Int} (hs : SpotOk n s) (hf : far ≤ F) (h : far + (rollTo n s (F - far) - behind n s) ≠ F) : room n (rolledSp n s (F - far)) = 0 := by
 obtain ⟨h1, h2⟩ := rolled_ok hG hs (show (0 : Int) ≤ F - far by omega)
 have h3 : behind n (rolledSp n s (F - far)) = lenOf n s.piece - room n (rolledSp n s (F - far)) := rfl
 unfold rollTo at h h2
 split at h <;> rename_i hc
 ·omega
 ·rw [if_neg hc] at h2
  omega

theorem enterM_spare {n : Nt} (hG : NetGood n) {zs : List Int} {long : Int} {m : Mv} (hr : room n m.s = 0) {i : Nat} {e : Ed} (ha : Ahead n zs m.s i (e, 0)) : spareOf n long (enterM n m e).s (enterM n m e).xs = spareOf n long m.s m.xs := by
 obtain ⟨_, h2, _⟩ := enterSp_ok hG (ahead_fits hG ha)
 have hb := room_len hr
 unfold spareOf enterM
 dsimp only
 rw [h2, sumLen_cons]
 dsimp only
 omega

theorem enter_step {n : Nt} {e : Ed} (he : EdFits n.pieces.length e) : enterSp n e = ⟨(trn (twd e)).piece, if (trn (twd e)).way = -1 then lenOf n (trn (twd e)).piece else 0, (trn (twd e)).way⟩ := by
 obtain ⟨_, h1, h2⟩ := he
 unfold enterSp trn twd
 dsimp only
 by_cases h : e.side = 0
 ·simp [h]
 ·have : e.side = 1 := by omega
  simp [this]
end Go.Proofs.YtjacbppeebnjfaaGreat

namespace Go.Proofs.YtjacbppeebnjfaaGreat
open Go.RowKit

set_option maxRecDepth 100000 in
set_option maxHeartbeats 4000000 in
theorem l3count_any (v tv : Value) (n : Nt) (t : Tr) (w : World) {L L' : Nat} (hv : NetAt L w v n) (htv : TrAt L' w tv t) (hG : NetGood n) (hS : SpotOk n t.front) (hsteps : ∀ x ∈ t.back, StepOk n x) (h200 : t.back.length ≤ 1000) :
  Calls Tryz.prog 63 #[v, tv] w fun e w' => e = .returned (.int .i64 (takeLen n t.long (behind n t.front) t.back).length) ∧ Below w.heap.size w w' := by
 have hvv := hv
 have htt := htv
 obtain ⟨x, c, ca, cc, rfl, hp, hj⟩ := hv
 obtain ⟨ba, bc, rfl, hst⟩ := htv
 have HST := hide hsteps
 clear hsteps
 go_enter Tryz.func63, Tryz.ntmps63
 go_wp2_with fail
 refine (l3trim_any _ _ n t _ (hvv.below ?_) (htt.below ?_) hG hS (unhide HST) h200).mono ?_
 ·exact bw0
 ·exact bw0
 rintro e w1 ⟨a, cap, rfl, hrow, hb1⟩
 have hbw1 : Below w.heap.size w w1 := below_then bw0 hb1
 clear hrow
 go_wp2
 go_ret
 exact ⟨rfl, below_then hbw1 bw0⟩
def MoveGiven (n : Nt) (zs : List Int) (t : Tr) (F : Int) : Prop := LiesRight n zs ∧ TrainFits n t ∧ (0 ≤ F ∧ F ≤ 10000)

set_option maxRecDepth 100000 in
set_option maxHeartbeats 4000000 in
theorem l3good_any (v tv : Value) (n : Nt) (zq : Option Addr) (zs : List Int) (zc : Nat) (t : Tr) (F : Int) (w : World) {L L' L'' : Nat} (hv : NetAt L w v n) (hz : IntsAt L' w zq zs) (htv : TrAt L'' w tv t) (hl : n.pieces.length ≤ 1048576) (hl' : n.joints.length ≤ 1048576)
  (hle : ∀ i (h : i < n.joints.length), n.joints[i].ends.length ≤ 1048576 ∧ n.joints[i].name.size ≤ maxLen) (hnm : ∀ i (h : i < n.pieces.length), n.pieces[i].name.size ≤ maxLen) (hbl : t.back.length ≤ 1048576) :
  Calls Tryz.prog 25 #[v, .slice zq zs.length zc, tv, .int .i64 F] w fun e w' => RetB (MoveGiven n zs t F) e ∧ Below w.heap.size w w' := by
 have hvv := hv
 have htt := htv
 obtain ⟨x, c, ca, cc, rfl, hp, hj⟩ := hv
 obtain ⟨ba, bc, rfl, hst⟩ := htv
 go_enter Tryz.func25, Tryz.ntmps25
 go_wp2_with fail
 refine (specLiesOk_any _ n _ zs _ _ (hvv.below ?_) (hz.below ?_) hl hl' hle hnm).mono ?_
 ·exact bw0
 ·exact bw0
 rintro e w1 ⟨⟨rfl, hr1⟩ | ⟨rfl, hr1⟩, hb1⟩
 ·have hbw1 : Below w.heap.size w w1 := below_then bw0 hb1
  have hBn1 : Boxed w1 w.heap.size [.slice x n.pieces.length ca, .slice c n.joints.length cc] := ((boxed_alloc _ _ _).alloc _).below hb1
  have hBt1 : Boxed w1 (w.heap.size + 1) [.int .i64 t.front.piece, .int .i64 t.front.at_, .int .i64 t.front.way, .int .i64 t.long, .slice ba t.back.length bc] := (boxedN _ _ _ (by simp)).below hb1
  have a0 := hBn1.2.1 0 _ rfl
  have a1 := hBn1.2.1 1 _ rfl
  have b0 := hBt1.2.1 0 _ rfl
  have b1 := hBt1.2.1 1 _ rfl
  have b2 := hBt1.2.1 2 _ rfl
  have b3 := hBt1.2.1 3 _ rfl
  have b4 := hBt1.2.1 4 _ rfl
  have hG := netGood hr1.1
  have HR := hide hr1
  clear hr1
  go_wp2_with fail
  refine (l2train_any _ _ n t _ (hvv.below hbw1) (htt.below hbw1) hG hbl).mono ?_
  rintro e w2 ⟨⟨rfl, hf⟩ | ⟨rfl, hf⟩, hb2⟩
  ·have hbw2 := below_then hbw1 hb2
   have HF := hide hf
   clear hf a0 a1 b0 b1 b2 b3 b4
   by_cases hr : 0 ≤ F ∧ F ≤ 10000
   ·go_wp2_with fail
    refine (l1in_T _ _ _ _ (inB_true hr)).mono ?_
    rintro e w3 ⟨rfl, rfl⟩
    go_wp2
    go_ret
    exact ⟨retB_true ⟨unhide HR, unhide HF, hr⟩, hbw2⟩
   ·go_wp2_with fail
    refine (l1in_F _ _ _ _ (inB_false hr)).mono ?_
    rintro e w3 ⟨rfl, rfl⟩
    go_wp2
    go_ret
    exact ⟨retB_false fun h => hr h.2.2, hbw2⟩
  ·have HF := hide hf
   clear hf
   go_wp2
   go_ret
   exact ⟨retB_false fun h => unhide HF h.2.1, below_then hbw1 hb2⟩
 ·have HR := hide hr1
  clear hr1
  go_wp2
  go_ret
  exact ⟨retB_false fun h => unhide HR h.1, below_then bw0 hb1⟩
end Go.Proofs.YtjacbppeebnjfaaGreat

