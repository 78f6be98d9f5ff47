import Derived.Test.YtjacbppeebnjfaaGreatMPlain7
import Derived.Test.YtjacbppeebnjfaaGreatMFe1
set_option linter.unusedSimpArgs false
namespace Go.Proofs.YtjacbppeebnjfaaGreat
open Go.RowKit

def rollBy (n : Nt) (long r : Int) (m : Mv) : Mv := ⟨⟨m.s.piece, m.s.at_ + m.s.way * r, m.s.way⟩, takeLen n long (behind n m.s + r) m.xs, m.far + r, []⟩
def entBy (n : Nt) (m : Mv) (e : Ed) : Mv := ⟨enterSp n e, ⟨m.s.piece, m.s.way⟩ :: m.xs, m.far, []⟩
inductive QS (n : Nt) (zs : List Int) (long F : Int) : Mv → Mv → Prop
 | roll {m : Mv} {r : Int} : 0 < r → r ≤ room n m.s → m.far + r ≤ F → QS n zs long F m (rollBy n long r m)
 | enter {m : Mv} {i : Nat} {e : Ed} : m.far < F → room n m.s = 0 → Ahead n zs m.s i (e, 0) → m.xs.length < 200 → QS n zs long F m (entBy n m e)
inductive QP (n : Nt) (zs : List Int) (long F : Int) : Nat → Mv → Mv → Prop
 | nil {a : Mv} : QP n zs long F 0 a a
 | cons {k : Nat} {a b c : Mv} : QS n zs long F a b → QP n zs long F k b c → QP n zs long F (k + 1) a c
theorem takeLen_twice {n : Nt} {long : Int} : ∀ {xs : List St} {h h' : Int}, h ≤ h' → takeLen n long h' (takeLen n long h xs) = takeLen n long h' xs := by
 intro xs
 induction xs with
 | nil => intro h h' _; rfl
 | cons x r ih =>
  intro h h' hh
  by_cases h1 : h < long
  ·rw [takeLen_in h1]
   by_cases h2 : h' < long
   ·rw [takeLen_in h2, takeLen_in h2, ih (by omega)]
   ·rw [takeLen_out h2, takeLen_out h2]
  ·rw [takeLen_out h1, takeLen_out (by omega), takeLen_out (by omega)]
theorem by_ok {n : Nt} {s : Sp} (hs : SpotOk n s) {r : Int} (h0 : 0 ≤ r) (h1 : r ≤ room n s) : SpotOk n ⟨s.piece, s.at_ + s.way * r, s.way⟩ ∧ behind n ⟨s.piece, s.at_ + s.way * r, s.way⟩ = behind n s + r ∧ room n ⟨s.piece, s.at_ + s.way * r, s.way⟩ = room n s - r := by
 have h3 := hs.2.2
 have h4 := hs.1
 unfold SpotOk behind
 unfold room at h1 ⊢
 dsimp only
 rcases hs.2.1 with hy | hy
 ·rw [hy] at h1 ⊢
  simp only [if_true] at h1 ⊢
  refine ⟨⟨h4, by simp, by omega, by omega⟩, by omega, by omega⟩
 ·rw [hy] at h1 ⊢
  simp only [show ¬ (-1 : Int) = 1 by decide, if_false] at h1 ⊢
  refine ⟨⟨h4, by simp, by omega, by omega⟩, by omega, by omega⟩
theorem QS.spot {n : Nt} (hG : NetGood n) {zs : List Int} {long F : Int} {a b : Mv} (h : QS n zs long F a b) (ha : SpotOk n a.s) : SpotOk n b.s := by
 cases h with
 | roll h1 h2 _ => exact (by_ok ha (by omega) h2).1
 | enter _ _ h3 _ => exact (enterSp_ok hG (ahead_fits hG h3)).1
theorem QP.mono {n : Nt} {zs : List Int} {long F F' : Int} (hF : F ≤ F') {k : Nat} {a b : Mv} (h : QP n zs long F k a b) : QP n zs long F' k a b := by
 induction h with
 | nil => exact .nil
 | cons h1 _ ih =>
  refine .cons ?_ ih
  cases h1 with
  | roll a1 a2 a3 => exact .roll a1 a2 (by omega)
  | enter a1 a2 a3 a4 => exact .enter (by omega) a2 a3 a4

theorem over_two {j : Jt} {k : Nat} {lie : Int} {e : Ed} (h : overJ j k lie = (e, 0)) : overJ j k 1 = (e, 0) ∨ overJ j k 2 = (e, 0) := by
 unfold overJ at h ⊢
 by_cases h2 : lie = 2
 ·subst h2; exact Or.inr h
 ·by_cases h3 : j.kind = 3
  ·by_cases h0 : lie = 0
   ·simp [h3, h0] at h
   ·simp [h3, h0, h2] at h ⊢
    exact Or.inl h
  ·left
   simpa [h3] using h
theorem leads_joined {n : Nt} (hG : NetGood n) {zs : List Int} {s ah : St} (h : LeadsBy n zs s ah) : Joined n s ah := by
 obtain ⟨_, _, _, _, i, k, hi, hst, ho⟩ := h
 rw [joined_iff hG]
 rcases over_two ho with h1 | h1
 ·exact Or.inl ⟨i, k, hi, hst, h1⟩
 ·exact Or.inr ⟨i, k, hi, hst, h1⟩
theorem Ch.imp {R S : St → St → Prop} (h : ∀ a b, R a b → S a b) : ∀ {l : List St} {a : St}, Ch R a l → Ch S a l := by
 intro l
 induction l with
 | nil => intro a _; trivial
 | cons x r ih => intro a g; exact ⟨h _ _ g.1, ih g.2⟩
theorem enter_leads {n : Nt} (hG : NetGood n) {zs : List Int} {s : Sp} {i : Nat} {e : Ed} (h : Ahead n zs s i (e, 0)) : LeadsBy n zs ⟨s.piece, s.way⟩ ⟨(enterSp n e).piece, (enterSp n e).way⟩ := by
 have hf := ahead_fits hG h
 obtain ⟨k, h1, h2, h3, h4⟩ := h
 refine ⟨i, k, h3, h1, i, k, h2, h1, ?_⟩
 rw [h4]
 have he : hd (enterSp n e).piece (-(enterSp n e).way) = e := by
  obtain ⟨p, y⟩ := e
  have h5 := hf.2
  dsimp only at h5
  unfold enterSp
  dsimp only
  by_cases h0 : y = 0
  ·subst h0
   simp [hd]
  ·have : y = 1 := by omega
   subst this
   simp [hd]
 rw [he]
structure MvT (n : Nt) (zs : List Int) (long F : Int) (m : Mv) : Prop where
 ok : MvOk n long F m
 sits : Ch (LeadsBy n zs) ⟨m.s.piece, m.s.way⟩ m.xs
theorem MvT.step {n : Nt} (hG : NetGood n) {zs : List Int} {long F : Int} (hl : 0 < long) {a b : Mv} (h : MvT n zs long F a) (g : MStep n zs long F a b) : MvT n zs long F b := by
 cases g with
 | roll h3 h4 =>
  refine ⟨rollM_ok hG h.ok h3 h4, ?_⟩
  obtain ⟨k, k1, k2, k3, k4⟩ := takeLen_take n long a.xs (behind n (rolledSp n a.s (F - a.far)))
  show Ch (LeadsBy n zs) ⟨a.s.piece, a.s.way⟩ (takeLen n long (behind n (rolledSp n a.s (F - a.far))) a.xs)
  rw [k2]
  exact h.sits.take k
 | enter h3 h4 h5 h6 => exact ⟨enterM_ok hG hl h.ok h4 h5 h6, enter_leads hG h5, h.sits⟩
theorem Goes.mvt {n : Nt} (hG : NetGood n) {zs : List Int} {long F : Int} (hl : 0 < long) {a b : Mv} (g : Goes n zs long F a b) (h : MvT n zs long F a) : MvT n zs long F b := by
 induction g with
 | start => exact h
 | step _ h2 ih => exact ih.step hG hl h2
theorem MvT.fits {n : Nt} (hG : NetGood n) {zs : List Int} {long F : Int} {m : Mv} (h : MvT n zs long F m) (hl : 1 ≤ long ∧ long ≤ 100000) : TrainFits n ⟨m.s, long, m.xs⟩ :=
 ⟨h.ok.spot, hl, h.ok.len, back_ch.2 ⟨h.sits.imp (fun _ _ => leads_joined hG), h.ok.steps, h.ok.trim, h.ok.enough⟩⟩
theorem MvT.of {n : Nt} {zs : List Int} {t : Tr} (hS : SitsRight n zs t) {F : Int} (hF : 0 ≤ F) : MvT n zs t.long F ⟨t.front, t.back, 0, []⟩ := by
 have hf := hS.1.2
 have hb := back_ch.1 hf.2.2.2
 refine ⟨⟨hf.1, hb.2.1, hf.2.2.1, hb.2.2.1, hb.2.2.2, Int.le_refl _, hF, by simp⟩, ?_⟩
 have := hS.2.2
 rw [← sitsFrom_iff, sits_ch] at this
 exact this
theorem MvT.sitsR {n : Nt} {zs : List Int} {long F : Int} {m : Mv} (h : MvT n zs long F m) (hl : 1 ≤ long ∧ long ≤ 100000) (hN : NetRes n 0 0) (hL : LiesFit n.joints zs) : SitsRight n zs ⟨m.s, long, m.xs⟩ :=
 ⟨⟨hN, h.fits (netGood hN) hl⟩, hL, by rw [← sitsFrom_iff, sits_ch]; exact h.sits⟩

theorem Ch.last {R : St → St → Prop} : ∀ {l : List St} {a z : St}, Ch R a (l ++ [z]) → R z (lastOf a l) := by
 intro l
 induction l with
 | nil => intro a z h; exact h.1
 | cons x r ih => intro a z h; exact ih h.2
end Go.Proofs.YtjacbppeebnjfaaGreat

