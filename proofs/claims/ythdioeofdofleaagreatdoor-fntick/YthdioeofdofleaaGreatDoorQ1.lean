import Derived.Test.YthdioeofdofleaaGreatDoorMPlain7
import Derived.Test.YthdioeofdofleaaGreatDoorMFe1
set_option linter.unusedSimpArgs false
namespace Go.Proofs.YthdioeofdofleaaGreatDoor
open Go.RowKit
variable {n : Nt} {s : Sp} {zs : List Int} {long F : Int} {a b : Mv} {k : Nat} {e : Ed}
def rollBy (n : Nt) (long r : Int) (m : Mv) : Mv := ⟨⟨m.s.piece, m.s.at_ + m.s.way * r, m.s.way⟩, zB n long (zm n m.s + r) m.xs, m.far + r, []⟩
def entBy (n : Nt) (m : Mv) (e : Ed) : Mv := ⟨zU n e, ⟨m.s.piece, m.s.way⟩ :: m.xs, m.far, []⟩
inductive QS (n : Nt) (zs : List Int) (long F : Int) : Mv -> Mv -> Prop
 | roll {m : Mv} {r : Int} : 0 < r -> r <= Zl n m.s -> m.far + r <= F -> QS n zs long F m (rollBy n long r m)
 | enter {m : Mv} {i : Nat} {e : Ed} : m.far < F -> Zl n m.s = 0 -> Xj n zs m.s i (e, 0) -> m.xs.length < 200 -> QS n zs long F m (entBy n m e)
inductive QP (n : Nt) (zs : List Int) (long F : Int) : Nat -> Mv -> Mv -> Prop
 | nil {a : Mv} : QP n zs long F 0 a a
 | cons {k : Nat} {a b c : Mv} : QS n zs long F a b -> QP n zs long F k b c -> QP n zs long F (k + 1) a c
theorem by_ok (hs : Zt n s) {r : Int} (h0 : 0 <= r) (h1 : r <= Zl n s) : Zt n ⟨s.piece, s.at_ + s.way * r, s.way⟩ /\ zm n ⟨s.piece, s.at_ + s.way * r, s.way⟩ = zm n s + r /\ Zl n ⟨s.piece, s.at_ + s.way * r, s.way⟩ = Zl n s - r := by
 have h3 := hs.2.2;have h4 := hs.1;unfold Zt zm;unfold Zl at h1 ⊢;dsimp only
 rcases hs.2.1 with hy | hy
 ·rw [hy] at h1 ⊢;simp only [if_true] at h1 ⊢;refine ⟨⟨h4, by simp, by omega, by omega⟩, by omega, by omega⟩
 ·rw [hy] at h1 ⊢;simp only [show ¬ (-1 : Int) = 1 by decide, if_false] at h1 ⊢;refine ⟨⟨h4, by simp, by omega, by omega⟩, by omega, by omega⟩
theorem QS.spot (hG : zr n) (h : QS n zs long F a b) (ha : Zt n a.s) : Zt n b.s := by
 cases h with
 | roll h1 h2 _ => exact (by_ok ha (by omega) h2).1
 | enter _ _ h3 _ => exact (Yv hG (YQ hG h3)).1
theorem QP.mono {F' : Int} (hF : F <= F') (h : QP n zs long F k a b) : QP n zs long F' k a b := by
 induction h with
 | nil => exact .nil
 | cons h1 _ ih =>
  refine .cons ?_ ih
  cases h1 with
  | roll a1 a2 a3 => exact .roll a1 a2 (by omega)
  | enter a1 a2 a3 a4 => exact .enter (by omega) a2 a3 a4

theorem over_two {j : Jt} {lie : Int} (h : Ze j k lie = (e, 0)) : Ze j k 1 = (e, 0) \/ Ze j k 2 = (e, 0) := by
 unfold Ze at h ⊢
 by_cases h2 : lie = 2
 ·subst h2; exact Or.inr h
 ·by_cases h3 : j.kind = 3
  ·by_cases h0 : lie = 0
   ·simp [h3, h0] at h
   ·simp [h3, h0, h2] at h ⊢
    exact Or.inl h
  ·left
   simpa [h3] using h
theorem leads_joined (hG : zr n) {s ah : St} (h : Yp n zs s ah) : Joined n s ah := by
 obtain ⟨_, _, _, _, i, k, hi, hst, ho⟩ := h;rw [qo hG]
 rcases over_two ho with h1 | h1
 ·exact Or.inl ⟨i, k, hi, hst, h1⟩
 ·exact Or.inr ⟨i, k, hi, hst, h1⟩
theorem Ch.imp {R S : St -> St -> Prop} (h : ∀ a b, R a b -> S a b) : ∀ {l : List St} {a : St}, Ch R a l -> Ch S a l := by
 intro l
 induction l with
 | nil => intro a _; trivial
 | cons x r ih => intro a g; exact ⟨h _ _ g.1, ih g.2⟩
theorem enter_leads (hG : zr n) {i : Nat} (h : Xj n zs s i (e, 0)) : Yp n zs ⟨s.piece, s.way⟩ ⟨(zU n e).piece, (zU n e).way⟩ := by
 have hf := YQ hG h;obtain ⟨k, h1, h2, h3, h4⟩ := h;refine ⟨i, k, h3, h1, i, k, h2, h1, ?_⟩;rw [h4]
 have he : hd (zU n e).piece (-(zU n e).way) = e := by
  obtain ⟨p, y⟩ := e;have h5 := hf.2;dsimp only at h5;unfold zU;dsimp only
  by_cases h0 : y = 0
  ·subst h0
   simp [hd]
  ·have : y = 1 := by omega
   subst this
   simp [hd]
 rw [he]
structure MvT (n : Nt) (zs : List Int) (long F : Int) (m : Mv) : Prop where
 ok : xQ n long F m
 sits : Ch (Yp n zs) ⟨m.s.piece, m.s.way⟩ m.xs
theorem MvT.step (hG : zr n) (hl : 0 < long) (h : MvT n zs long F a) (g : uq n zs long F a b) : MvT n zs long F b := by
 cases g with
 | roll h3 h4 =>
  refine ⟨rollM_ok hG h.ok h3 h4, ?_⟩;obtain ⟨k, k1, k2, k3, k4⟩ := xj n long a.xs (zm n (Zo n a.s (F - a.far)))
  show Ch (Yp n zs) ⟨a.s.piece, a.s.way⟩ (zB n long (zm n (Zo n a.s (F - a.far))) a.xs)
  rw [k2];exact h.sits.take k
 | enter h3 h4 h5 h6 => exact ⟨enterM_ok hG hl h.ok h4 h5 h6, enter_leads hG h5, h.sits⟩
theorem xu.mvt (hG : zr n) (hl : 0 < long) (g : xu n zs long F a b) (h : MvT n zs long F a) : MvT n zs long F b := by
 induction g with
 | start => exact h
 | step _ h2 ih => exact ih.step hG hl h2
theorem MvT.fits (hG : zr n) {m : Mv} (h : MvT n zs long F m) (hl : 1 <= long /\ long <= 100000) : zD n ⟨m.s, long, m.xs⟩ :=
 ⟨h.ok.spot, hl, h.ok.len, back_ch.2 ⟨h.sits.imp (fun _ _ => leads_joined hG), h.ok.steps, h.ok.trim, h.ok.enough⟩⟩
theorem MvT.of {t : Tr} (hS : Ve n zs t) (hF : 0 <= F) : MvT n zs t.long F ⟨t.front, t.back, 0, []⟩ := by
 have hf := hS.1.2;have hb := back_ch.1 hf.2.2.2;refine ⟨⟨hf.1, hb.2.1, hf.2.2.1, hb.2.2.1, hb.2.2.2, Int.le_refl _, hF, by simp⟩, ?_⟩;have := hS.2.2;rw [← VO, sits_ch] at this;exact this

theorem Ch.last {R : St -> St -> Prop} : ∀ {l : List St} {a z : St}, Ch R a (l ++ [z]) -> R z (Vy a l) := by
 intro l
 induction l with
 | nil => intro a z h; exact h.1
 | cons x r ih => intro a z h; exact ih h.2
end Go.Proofs.YthdioeofdofleaaGreatDoor
