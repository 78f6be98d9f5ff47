import Derived.Test.YtcggkfpkkhjdhaaGreatMPlain7
import Derived.Test.YtcggkfpkkhjdhaaGreatFe1
set_option linter.unusedSimpArgs false
namespace Go.Proofs.YtcggkfpkkhjdhaaGreat
open Go.RowKit

/-! ### Moves of any size: where one comes does not hang on how the way is cut -/

def strip (m : Mv) : Mv := ⟨m.s, m.xs, m.far, []⟩
def rollBy (n : Nt) (long r : Int) (m : Mv) : Mv := ⟨⟨m.s.piece, m.s.at_ + m.s.way * r, m.s.way⟩, takeLen n long (behind n m.s + r) m.xs, m.far + r, []⟩
def entBy (n : Nt) (m : Mv) (e : Ed) : Mv := ⟨enterSp n e, ⟨m.s.piece, m.s.way⟩ :: m.xs, m.far, []⟩
inductive QS (n : Nt) (zs : List Int) (long F : Int) : Mv → Mv → Prop
  | roll {m : Mv} {r : Int} : 0 < r → r ≤ room n m.s → m.far + r ≤ F → QS n zs long F m (rollBy n long r m)
  | enter {m : Mv} {i : Nat} {e : Ed} : m.far < F → room n m.s = 0 → Ahead n zs m.s i (e, 0) → m.xs.length < 200 → QS n zs long F m (entBy n m e)
inductive QP (n : Nt) (zs : List Int) (long F : Int) : Nat → Mv → Mv → Prop
  | nil {a : Mv} : QP n zs long F 0 a a
  | cons {k : Nat} {a b c : Mv} : QS n zs long F a b → QP n zs long F k b c → QP n zs long F (k + 1) a c
theorem QP.app {n : Nt} {zs : List Int} {long F : Int} {k l : Nat} {a b c : Mv} (h : QP n zs long F k a b) (g : QP n zs long F l b c) : ∃ m, QP n zs long F m a c := by
  induction h with
  | nil => exact ⟨l, g⟩
  | cons h1 _ ih =>
    obtain ⟨m, hm⟩ := ih g
    exact ⟨m + 1, .cons h1 hm⟩
theorem takeLen_twice {n : Nt} {long : Int} : ∀ {xs : List St} {h h' : Int}, h ≤ h' → takeLen n long h' (takeLen n long h xs) = takeLen n long h' xs := by
  intro xs
  induction xs with
  | nil => intro h h' _; rfl
  | cons x r ih =>
    intro h h' hh
    by_cases h1 : h < long
    · rw [takeLen_in h1]
      by_cases h2 : h' < long
      · rw [takeLen_in h2, takeLen_in h2, ih (by omega)]
      · rw [takeLen_out h2, takeLen_out h2]
    · rw [takeLen_out h1, takeLen_out (by omega), takeLen_out (by omega)]
theorem by_ok {n : Nt} {s : Sp} (hs : SpotOk n s) {r : Int} (h0 : 0 ≤ r) (h1 : r ≤ room n s) : SpotOk n ⟨s.piece, s.at_ + s.way * r, s.way⟩ ∧ behind n ⟨s.piece, s.at_ + s.way * r, s.way⟩ = behind n s + r ∧ room n ⟨s.piece, s.at_ + s.way * r, s.way⟩ = room n s - r := by
  have h3 := hs.2.2
  have h4 := hs.1
  unfold SpotOk behind
  unfold room at h1 ⊢
  dsimp only
  rcases hs.2.1 with hy | hy
  · rw [hy] at h1 ⊢
    simp only [if_true] at h1 ⊢
    refine ⟨⟨h4, by simp, by omega, by omega⟩, by omega, by omega⟩
  · rw [hy] at h1 ⊢
    simp only [show ¬ (-1 : Int) = 1 by decide, if_false] at h1 ⊢
    refine ⟨⟨h4, by simp, by omega, by omega⟩, by omega, by omega⟩
theorem roll_roll {n : Nt} {long : Int} {m : Mv} (hs : SpotOk n m.s) {r q : Int} (hr : 0 ≤ r) (hq : 0 ≤ q) (h : r ≤ room n m.s) : rollBy n long q (rollBy n long r m) = rollBy n long (r + q) m := by
  have hb := (by_ok hs hr h).2.1
  unfold rollBy
  dsimp only
  rw [hb, takeLen_twice (by omega)]
  have e1 : m.s.at_ + m.s.way * r + m.s.way * q = m.s.at_ + m.s.way * (r + q) := by rw [Int.mul_add]; omega
  have e2 : behind n m.s + r + q = behind n m.s + (r + q) := by omega
  have e3 : m.far + r + q = m.far + (r + q) := by omega
  rw [e1, e2, e3]
theorem QS.spot {n : Nt} (hG : NetGood n) {zs : List Int} {long F : Int} {a b : Mv} (h : QS n zs long F a b) (ha : SpotOk n a.s) : SpotOk n b.s := by
  cases h with
  | roll h1 h2 _ => exact (by_ok ha (by omega) h2).1
  | enter _ _ h3 _ => exact (enterSp_ok hG (ahead_fits hG h3)).1
theorem qs_no {n : Nt} (hG : NetGood n) {zs : List Int} {long F : Int} {a b : Mv} (ha : SpotOk n a.s) {code joint : Int} (h : MEnd n zs F a code joint) : ¬ QS n zs long F a b := by
  intro g
  rcases h with ⟨h1, _⟩ | ⟨_, h2, i, r, h3, h4⟩
  · cases g with
    | roll g1 _ g3 => omega
    | enter g1 _ _ _ => omega
  · cases g with
    | roll g1 g2 _ => omega
    | enter _ _ g3 g4 =>
      obtain ⟨rfl, rfl⟩ := h3.unique hG ha g3
      rcases h4 with ⟨h5, _⟩ | ⟨_, h6, _⟩
      · exact h5 rfl
      · omega
theorem confl {n : Nt} (hG : NetGood n) {zs : List Int} {long F : Int} {p q : Mv} {c j c' j' : Int} (hp : MEnd n zs F p c j) (hq : MEnd n zs F q c' j') : ∀ (N k l : Nat) (a : Mv), k + l ≤ N → SpotOk n a.s → QP n zs long F k a p → QP n zs long F l a q → p = q := by
  intro N
  induction N with
  | zero =>
    intro k l a hN _ h g
    obtain rfl : k = 0 := by omega
    obtain rfl : l = 0 := by omega
    cases h
    cases g
    rfl
  | succ N ih =>
    intro k l a hN ha h g
    cases h with
    | nil =>
      cases g with
      | nil => rfl
      | cons g1 _ => exact absurd g1 (qs_no hG ha hp)
    | cons h1 h2 =>
      cases g with
      | nil => exact absurd h1 (qs_no hG ha hq)
      | cons g1 g2 =>
        have hb := h1.spot hG ha
        have gb := g1.spot hG ha
        cases h1 with
        | enter a1 a2 a3 a4 =>
          cases g1 with
          | enter b1 b2 b3 b4 =>
            have := (a3.unique hG ha b3).2
            simp at this
            rw [this] at h2 hb
            exact ih _ _ _ (by omega) gb h2 g2
          | roll b1 b2 b3 => omega
        | @roll r a1 a2 a3 =>
          cases g1 with
          | enter b1 b2 b3 b4 => omega
          | @roll t b1 b2 b3 =>
            have e1 := (by_ok ha (show 0 ≤ r by omega) a2).2.2
            have e2 := (by_ok ha (show 0 ≤ t by omega) b2).2.2
            rcases Int.lt_trichotomy r t with hlt | rfl | hgt
            · have e := roll_roll (long := long) ha (show 0 ≤ r by omega) (show 0 ≤ t - r by omega) a2
              rw [show r + (t - r) = t by omega] at e
              rw [← e] at g2
              exact ih _ _ _ (show _ + (_ + 1) ≤ N by omega) hb h2 (.cons (.roll (by omega) (by show _ ≤ room n ⟨_, _, _⟩; rw [e1]; omega) (by show a.far + r + (t - r) ≤ F; omega)) g2)
            · exact ih _ _ _ (by omega) hb h2 g2
            · have e := roll_roll (long := long) ha (show 0 ≤ t by omega) (show 0 ≤ r - t by omega) b2
              rw [show t + (r - t) = r by omega] at e
              rw [← e] at h2
              exact ih _ _ _ (show (_ + 1) + _ ≤ N by omega) gb (.cons (.roll (by omega) (by show _ ≤ room n ⟨_, _, _⟩; rw [e2]; omega) (by show a.far + t + (r - t) ≤ F; omega)) h2) g2
theorem mstep_qs {n : Nt} (hG : NetGood n) {zs : List Int} {long F : Int} {a b : Mv} (ha : SpotOk n a.s) (h : MStep n zs long F a b) : QS n zs long F (strip a) (strip b) := by
  cases h with
  | roll h1 h2 =>
    obtain ⟨g1, g2, g3, g4⟩ := roll_le hG ha (show (0 : Int) ≤ F - a.far by omega)
    have g5 := g4 h2 (by omega)
    have hb := (rolled_ok hG ha (show (0 : Int) ≤ F - a.far by omega)).2
    have e : strip (rollM n long F a) = rollBy n long (rollTo n a.s (F - a.far) - behind n a.s) (strip a) := by
      unfold strip rollM rollBy
      dsimp only
      rw [hb, show behind n a.s + (rollTo n a.s (F - a.far) - behind n a.s) = rollTo n a.s (F - a.far) by omega]
      rfl
    rw [e]
    have hr : behind n a.s = lenOf n a.s.piece - room n a.s := rfl
    exact .roll (by omega) (by show _ ≤ room n a.s; omega) (by show a.far + _ ≤ F; omega)
  | enter h1 h2 h3 h4 => exact .enter (m := strip a) h1 h2 h3 h4
theorem goes_qp {n : Nt} (hG : NetGood n) {zs : List Int} {long F : Int} (hl : 0 < long) {a b : Mv} (h : Goes n zs long F a b) (ha : MvOk n long F a) : ∃ k, QP n zs long F k (strip a) (strip b) := by
  induction h with
  | start => exact ⟨0, .nil⟩
  | step h1 h2 ih =>
    obtain ⟨k, hk⟩ := ih
    exact hk.app (.cons (mstep_qs hG (h1.ok hG hl ha).spot h2) .nil)
theorem QP.mono {n : Nt} {zs : List Int} {long F F' : Int} (hF : F ≤ F') {k : Nat} {a b : Mv} (h : QP n zs long F k a b) : QP n zs long F' k a b := by
  induction h with
  | nil => exact .nil
  | cons h1 _ ih =>
    refine .cons ?_ ih
    cases h1 with
    | roll a1 a2 a3 => exact .roll a1 a2 (by omega)
    | enter a1 a2 a3 a4 => exact .enter (by omega) a2 a3 a4
def shF (d : Int) (m : Mv) : Mv := ⟨m.s, m.xs, m.far + d, []⟩
theorem QP.shift {n : Nt} {zs : List Int} {long F d : Int} {k : Nat} {a b : Mv} (h : QP n zs long F k a b) : QP n zs long (F + d) k (shF d a) (shF d b) := by
  induction h with
  | nil => exact .nil
  | @cons k a b c h1 _ ih =>
    refine .cons (b := shF d b) ?_ ih
    cases h1 with
    | @roll r a1 a2 a3 =>
      have e : shF d (rollBy n long r a) = rollBy n long r (shF d a) := by
        unfold shF rollBy
        dsimp only
        rw [show a.far + r + d = a.far + d + r by omega]
      rw [e]
      exact .roll a1 a2 (by show a.far + d + r ≤ F + d; omega)
    | @enter i e a1 a2 a3 a4 => exact .enter (m := shF d a) (by show a.far + d < F + d; omega) a2 a3 a4
theorem mend_unique {n : Nt} (hG : NetGood n) {zs : List Int} {F : Int} {b : Mv} (hbs : SpotOk n b.s) {code joint code' joint' : Int} (hb : MEnd n zs F b code joint) (hc : MEnd n zs F b code' joint') : code = code' ∧ joint = joint' := by
  rcases hb with ⟨h1, rfl, rfl⟩ | ⟨h1, h2, i, r, h3, h4⟩ <;> rcases hc with ⟨g1, rfl, rfl⟩ | ⟨g1, g2, j, q, g3, g4⟩
  · exact ⟨rfl, rfl⟩
  · omega
  · omega
  · obtain ⟨rfl, rfl⟩ := h3.unique hG hbs g3
    rcases h4 with ⟨h5, rfl, rfl⟩ | ⟨h5, h6, rfl, rfl⟩ <;> rcases g4 with ⟨g5, rfl, rfl⟩ | ⟨g5, g6, rfl, rfl⟩
    · exact ⟨rfl, rfl⟩
    · exact absurd g5 h5
    · exact absurd h5 g5
    · exact ⟨rfl, rfl⟩
/-- A move that was barred is barred as well when it was to go farther. -/
theorem far_bar {n : Nt} (hG : NetGood n) {zs : List Int} {long a b : Int} (hl : 0 < long) (hb : 0 ≤ b) {m0 m y : Mv} (h0 : MvOk n long a m0) (h0' : MvOk n long (a + b) m0) {c j c' j' : Int} (h : Goes n zs long a m0 m) (he : MEnd n zs a m c j) (hc : c ≠ 0) (g : Goes n zs long (a + b) m0 y) (ge : MEnd n zs (a + b) y c' j') : strip y = strip m ∧ c' = c := by
  obtain ⟨k, hk⟩ := goes_qp hG hl h h0
  obtain ⟨l, gl⟩ := goes_qp hG hl g h0'
  have he' : MEnd n zs (a + b) (strip m) c j := by
    rcases he with ⟨_, h1, _⟩ | ⟨h1, h2⟩
    · exact absurd h1 hc
    · exact Or.inr ⟨by show m.far < a + b; omega, h2⟩
  have e := confl hG (p := strip y) (q := strip m) ge he' (l + k) l k (strip m0) (Nat.le_refl _) h0.spot gl (hk.mono (by omega))
  rw [← e] at he'
  exact ⟨e, (mend_unique hG (b := strip y) (g.ok hG hl h0').spot ge he').1⟩
/-- To move on from where a move ended is to move farther at once. -/
theorem far_on {n : Nt} (hG : NetGood n) {zs : List Int} {long a b : Int} (hl : 0 < long) (hb : 0 ≤ b) {m0 m z y : Mv} (h0 : MvOk n long a m0) (h0' : MvOk n long (a + b) m0) {c j c' j' : Int} (h : Goes n zs long a m0 m) (hm : m.far = a) (hz0 : MvOk n long b ⟨m.s, m.xs, 0, []⟩) (hz : Goes n zs long b ⟨m.s, m.xs, 0, []⟩ z) (hze : MEnd n zs b z c j)
    (g : Goes n zs long (a + b) m0 y) (ge : MEnd n zs (a + b) y c' j') : y.s = z.s ∧ y.xs = z.xs ∧ y.far = z.far + a ∧ c' = c := by
  obtain ⟨k, hk⟩ := goes_qp hG hl h h0
  obtain ⟨l, gl⟩ := goes_qp hG hl g h0'
  obtain ⟨q, hq⟩ := goes_qp hG hl hz hz0
  have hq' := hq.shift (d := a)
  have e0 : shF a (strip ⟨m.s, m.xs, 0, []⟩) = strip m := by unfold shF strip; dsimp only; rw [Int.zero_add, hm]
  rw [e0, Int.add_comm b a] at hq'
  obtain ⟨r, hr⟩ := (hk.mono (show a ≤ a + b by omega)).app hq'
  have he' : MEnd n zs (a + b) (shF a (strip z)) c j := by
    rcases hze with ⟨h1, h2⟩ | ⟨h1, h2⟩
    · exact Or.inl ⟨by show z.far + a = a + b; omega, h2⟩
    · exact Or.inr ⟨by show z.far + a < a + b; omega, h2⟩
  have e := confl hG (p := strip y) (q := shF a (strip z)) ge he' (l + r) l r (strip m0) (Nat.le_refl _) h0.spot gl hr
  have hsp := (g.ok hG hl h0').spot
  have hc := (mend_unique hG (b := strip y) hsp ge (by rw [e]; exact he')).1
  have e1 := congrArg Mv.s e
  have e2 := congrArg Mv.xs e
  have e3 := congrArg Mv.far e
  exact ⟨e1, e2, e3, hc⟩

/-! ### What moves stays a train that sits -/

theorem over_two {j : Jt} {k : Nat} {lie : Int} {e : Ed} (h : overJ j k lie = (e, 0)) : overJ j k 1 = (e, 0) ∨ overJ j k 2 = (e, 0) := by
  unfold overJ at h ⊢
  by_cases h2 : lie = 2
  · subst h2; exact Or.inr h
  · by_cases h3 : j.kind = 3
    · by_cases h0 : lie = 0
      · simp [h3, h0] at h
      · simp [h3, h0, h2] at h ⊢
        exact Or.inl h
    · left
      simpa [h3] using h
theorem leads_joined {n : Nt} (hG : NetGood n) {zs : List Int} {s ah : St} (h : LeadsBy n zs s ah) : Joined n s ah := by
  obtain ⟨_, _, _, _, i, k, hi, hst, ho⟩ := h
  rw [joined_iff hG]
  rcases over_two ho with h1 | h1
  · exact Or.inl ⟨i, k, hi, hst, h1⟩
  · exact Or.inr ⟨i, k, hi, hst, h1⟩
theorem Ch.imp {R S : St → St → Prop} (h : ∀ a b, R a b → S a b) : ∀ {l : List St} {a : St}, Ch R a l → Ch S a l := by
  intro l
  induction l with
  | nil => intro a _; trivial
  | cons x r ih => intro a g; exact ⟨h _ _ g.1, ih g.2⟩
theorem enter_leads {n : Nt} (hG : NetGood n) {zs : List Int} {s : Sp} {i : Nat} {e : Ed} (h : Ahead n zs s i (e, 0)) : LeadsBy n zs ⟨s.piece, s.way⟩ ⟨(enterSp n e).piece, (enterSp n e).way⟩ := by
  have hf := ahead_fits hG h
  obtain ⟨k, h1, h2, h3, h4⟩ := h
  refine ⟨i, k, h3, h1, i, k, h2, h1, ?_⟩
  rw [h4]
  have he : hd (enterSp n e).piece (-(enterSp n e).way) = e := by
    obtain ⟨p, y⟩ := e
    have h5 := hf.2
    dsimp only at h5
    unfold enterSp
    dsimp only
    by_cases h0 : y = 0
    · subst h0
      simp [hd]
    · have : y = 1 := by omega
      subst this
      simp [hd]
  rw [he]
/-- A state that is a train, and sits. -/
structure MvT (n : Nt) (zs : List Int) (long F : Int) (m : Mv) : Prop where
  ok : MvOk n long F m
  sits : Ch (LeadsBy n zs) ⟨m.s.piece, m.s.way⟩ m.xs
theorem MvT.step {n : Nt} (hG : NetGood n) {zs : List Int} {long F : Int} (hl : 0 < long) {a b : Mv} (h : MvT n zs long F a) (g : MStep n zs long F a b) : MvT n zs long F b := by
  cases g with
  | roll h3 h4 =>
    refine ⟨rollM_ok hG h.ok h3 h4, ?_⟩
    obtain ⟨k, k1, k2, k3, k4⟩ := takeLen_take n long a.xs (behind n (rolledSp n a.s (F - a.far)))
    show Ch (LeadsBy n zs) ⟨a.s.piece, a.s.way⟩ (takeLen n long (behind n (rolledSp n a.s (F - a.far))) a.xs)
    rw [k2]
    exact h.sits.take k
  | enter h3 h4 h5 h6 => exact ⟨enterM_ok hG hl h.ok h4 h5 h6, enter_leads hG h5, h.sits⟩
theorem Goes.mvt {n : Nt} (hG : NetGood n) {zs : List Int} {long F : Int} (hl : 0 < long) {a b : Mv} (g : Goes n zs long F a b) (h : MvT n zs long F a) : MvT n zs long F b := by
  induction g with
  | start => exact h
  | step _ h2 ih => exact ih.step hG hl h2
theorem MvT.fits {n : Nt} (hG : NetGood n) {zs : List Int} {long F : Int} {m : Mv} (h : MvT n zs long F m) (hl : 1 ≤ long ∧ long ≤ 100000) : TrainFits n ⟨m.s, long, m.xs⟩ :=
  ⟨h.ok.spot, hl, h.ok.len, back_ch.2 ⟨h.sits.imp (fun _ _ => leads_joined hG), h.ok.steps, h.ok.trim, h.ok.enough⟩⟩
theorem MvT.of {n : Nt} {zs : List Int} {t : Tr} (hS : SitsRight n zs t) {F : Int} (hF : 0 ≤ F) : MvT n zs t.long F ⟨t.front, t.back, 0, []⟩ := by
  have hf := hS.1.2
  have hb := back_ch.1 hf.2.2.2
  refine ⟨⟨hf.1, hb.2.1, hf.2.2.1, hb.2.2.1, hb.2.2.2, Int.le_refl _, hF, by simp⟩, ?_⟩
  have := hS.2.2
  rw [← sitsFrom_iff, sits_ch] at this
  exact this
theorem MvT.sitsR {n : Nt} {zs : List Int} {long F : Int} {m : Mv} (h : MvT n zs long F m) (hl : 1 ≤ long ∧ long ≤ 100000) (hN : NetRes n 0 0) (hL : LiesFit n.joints zs) : SitsRight n zs ⟨m.s, long, m.xs⟩ :=
  ⟨⟨hN, h.fits (netGood hN) hl⟩, hL, by rw [← sitsFrom_iff, sits_ch]; exact h.sits⟩
/-- Over parts as long as it came. -/
theorem goes_over {n : Nt} {zs : List Int} {long F : Int} {a b : Mv} (g : Goes n zs long F a b) (h : ptSum a.over = a.far) : ptSum b.over = b.far := by
  induction g with
  | start => exact h
  | step _ h2 ih =>
    cases h2 with
    | roll _ _ =>
      unfold rollM
      dsimp only
      rw [ptSum_append, ptSum_cons, partOf_long, ih]
      simp [ptSum]
    | enter _ _ _ _ => exact ih

/-! ### Back again -/

/-- A state turned, so far on. -/
def turnM (n : Nt) (long f : Int) (m : Mv) : Mv := ⟨turnTail n ⟨m.s, long, m.xs⟩, turnBack n ⟨m.s, long, m.xs⟩, f, []⟩
theorem turn_enter {n : Nt} (hG : NetGood n) {zs : List Int} {long F f : Int} {m : Mv} (hl : 1 ≤ long ∧ long ≤ 100000) (h : MvT n zs long F m) (hr : room n m.s = 0) {i : Nat} {e : Ed} (ha : Ahead n zs m.s i (e, 0)) (hx : m.xs.length < 200) : turnM n long f (entBy n m e) = turnM n long f m := by
  obtain ⟨g1, g2, g3⟩ := enterSp_ok hG (ahead_fits hG ha)
  have hb := room_len hr
  have hlen := hG.len h.ok.spot.1.1 h.ok.spot.1.2
  have hE : MvT n zs long F (enterM n m e) := ⟨enterM_ok hG (by omega) h.ok hr ha hx, enter_leads hG ha, h.sits⟩
  have hF1 := h.fits hG hl
  have hF2 := hE.fits hG hl
  have eT : turnTail n ⟨enterSp n e, long, ⟨m.s.piece, m.s.way⟩ :: m.xs⟩ = turnTail n ⟨m.s, long, m.xs⟩ := by
    unfold turnTail tailOf
    dsimp only
    rw [g2, hb, sumLen_cons]
    show (⟨_, _, _⟩ : Sp) = ⟨_, _, _⟩
    have e1 : lastOf ⟨(enterSp n e).piece, (enterSp n e).way⟩ (⟨m.s.piece, m.s.way⟩ :: m.xs) = lastOf ⟨m.s.piece, m.s.way⟩ m.xs := rfl
    have e2 : (0 : Int) - long + (lenOf n (⟨m.s.piece, m.s.way⟩ : St).piece + sumLen n m.xs) = lenOf n m.s.piece - long + sumLen n m.xs := by show (0 : Int) - long + (lenOf n m.s.piece + _) = _; omega
    rw [e1, e2]
  have eB : turnBack n ⟨enterSp n e, long, ⟨m.s.piece, m.s.way⟩ :: m.xs⟩ = turnBack n ⟨m.s, long, m.xs⟩ := by
    have b1 := (turn_back hG (t := ⟨enterSp n e, long, ⟨m.s.piece, m.s.way⟩ :: m.xs⟩) hF2 rfl).1
    dsimp only at b1
    rw [g2, if_neg (by omega), List.append_nil] at b1
    rw [b1]
    match hxs : m.xs with
    | [] =>
      unfold turnBack turnList
      rfl
    | x :: r =>
      have b2 := (turn_back hG (t := ⟨m.s, long, m.xs⟩) hF1 hxs).1
      dsimp only at b2
      rw [hxs, hb, if_pos (by omega)] at b2
      rw [b2, rv_cons]
  unfold turnM entBy
  dsimp only
  rw [eT, eB]
theorem takeLen_one {n : Nt} {long h : Int} {xs : List St} (hG : NetGood n) (hok : ∀ x ∈ xs, StepOk n x) (ht : ∀ j, j < xs.length → h + sumLen n (xs.take j) < long) :
    (takeLen n long (h + 1) xs = xs) ∨ (∃ ys z, xs = ys ++ [z] ∧ takeLen n long (h + 1) xs = ys ∧ h + 1 + sumLen n ys = long) := by
  rcases List.eq_nil_or_concat xs with rfl | ⟨ys, z, rfl⟩
  · exact Or.inl rfl
  · rw [List.concat_eq_append] at *
    have hlast := ht ys.length (by simp)
    rw [List.take_append_of_le_length (Nat.le_refl _), List.take_length] at hlast
    have hpre : ∀ j, j < ys.length → h + 1 + sumLen n (ys.take j) < long := by
      intro j hj
      have h5 : sumLen n ys = sumLen n (ys.take j) + sumLen n (ys.drop j) := by rw [← sumLen_append, List.take_append_drop]
      have h6 := sum_pos hG (l := ys.drop j) (fun y hy => hok y (by simp [List.mem_of_mem_drop hy]))
      rw [List.length_drop] at h6
      omega
    have e := takeLen_snoc (n := n) (long := long) (R := ys) (h := h + 1) (z := z) hpre
    by_cases hc : h + 1 + sumLen n ys < long
    · left
      rw [e, if_pos hc]
    · right
      exact ⟨ys, z, rfl, by rw [e, if_neg hc, List.append_nil], by omega⟩
theorem rv_snoc (a z : St) (ys : List St) : rv a (ys ++ [z]) = trn (lastOf a ys) :: rv a ys := by
  induction ys generalizing a with
  | nil => rfl
  | cons x r ih =>
    rw [List.cons_append, rv_cons, ih, rv_cons]
    rfl
theorem Ch.last {R : St → St → Prop} : ∀ {l : List St} {a z : St}, Ch R a (l ++ [z]) → R z (lastOf a l) := by
  intro l
  induction l with
  | nil => intro a z h; exact h.1
  | cons x r ih => intro a z h; exact ih h.2
theorem rollBy_mvt {n : Nt} {zs : List Int} {long F r : Int} {m : Mv} (h : MvT n zs long F m) (h0 : 0 ≤ r) (h1 : r ≤ room n m.s) (h2 : m.far + r ≤ F) : MvT n zs long F (rollBy n long r m) := by
  obtain ⟨g1, g2, _⟩ := by_ok h.ok.spot h0 h1
  obtain ⟨k, k1, k2, k3, k4⟩ := takeLen_take n long m.xs (behind n m.s + r)
  have hf := h.ok.far0
  have he := h.ok.enough
  unfold rollBy
  refine ⟨⟨g1, ?_, ?_, ?_, ?_, by dsimp only; omega, by dsimp only; omega, by simp; omega⟩, ?_⟩
  · dsimp only
    rw [k2]
    exact fun x hx => h.ok.steps x (List.mem_of_mem_take hx)
  · dsimp only
    rw [k2, List.length_take]
    have := h.ok.len
    omega
  · dsimp only
    rw [k2, g2]
    intro j hj
    rw [List.length_take] at hj
    rw [List.take_take, show min j k = j by omega]
    exact k3 j (by omega)
  · dsimp only
    rw [k2, g2]
    rcases k4 with k4 | k4
    · rw [k4, List.take_length]
      omega
    · exact k4
  · dsimp only
    rw [k2]
    exact h.sits.take k
theorem room_of (n : Nt) (s : Sp) : room n s = lenOf n s.piece - behind n s := by unfold behind; omega
theorem unitA {n : Nt} (hG : NetGood n) {long : Int} {s s' : Sp} {xs : List St} (h : TrainFits n ⟨s, long, xs⟩) (h' : TrainFits n ⟨s', long, xs⟩) (hp : s'.piece = s.piece) (hy : s'.way = s.way) (hb : behind n s' = behind n s + 1) :
    turnTail n ⟨s, long, xs⟩ = ⟨(turnTail n ⟨s', long, xs⟩).piece, (turnTail n ⟨s', long, xs⟩).at_ + (turnTail n ⟨s', long, xs⟩).way * 1, (turnTail n ⟨s', long, xs⟩).way⟩
    ∧ turnBack n ⟨s, long, xs⟩ = takeLen n long (behind n (turnTail n ⟨s', long, xs⟩) + 1) (turnBack n ⟨s', long, xs⟩) ∧ 1 ≤ room n (turnTail n ⟨s', long, xs⟩) := by
  have b1 := (turnTail_ok hG h).2.1
  have b2 := (turnTail_ok hG h').2.1
  have s0 := (fits_spare hG h).1
  have s1 : spare n ⟨s, long, xs⟩ = behind n s - long + sumLen n xs := rfl
  have s2 : spare n ⟨s', long, xs⟩ = behind n s' - long + sumLen n xs := rfl
  have hq := lastOf_ok (n := n) (s := ⟨s.piece, s.way⟩) (xs := xs) ⟨h.1.1, h.1.2.1⟩ (backOk_steps h.2.2.2)
  dsimp only at b1 b2
  rw [hp, hy] at b2
  have ep : (turnTail n ⟨s', long, xs⟩).piece = (lastOf ⟨s.piece, s.way⟩ xs).piece := by
    show (lastOf ⟨s'.piece, s'.way⟩ xs).piece = _
    rw [hp, hy]
  refine ⟨?_, ?_, by rw [room_of, ep]; omega⟩
  · unfold turnTail tailOf
    dsimp only
    rw [hp, hy, hb]
    rcases hq.2 with hw | hw
    · rw [hw]
      simp
      omega
    · rw [hw]
      simp
      omega
  · have hL : turnList ⟨s', long, xs⟩ = turnList ⟨s, long, xs⟩ := by
      rw [turnList_rv, turnList_rv]
      dsimp only
      rw [hp, hy]
    unfold turnBack
    rw [hL, takeLen_twice (by omega)]
    dsimp only
    congr 1
    omega
theorem unitB {n : Nt} (hG : NetGood n) {long : Int} {s s' : Sp} {ys : List St} {z : St} (h : TrainFits n ⟨s, long, ys ++ [z]⟩) (h' : TrainFits n ⟨s', long, ys⟩) (hp : s'.piece = s.piece) (hy : s'.way = s.way) (hb : behind n s' = behind n s + 1) (hs : behind n s + 1 + sumLen n ys = long) :
    (turnTail n ⟨s', long, ys⟩).piece = (lastOf ⟨s.piece, s.way⟩ ys).piece ∧ (turnTail n ⟨s', long, ys⟩).way = -(lastOf ⟨s.piece, s.way⟩ ys).way ∧ room n (turnTail n ⟨s', long, ys⟩) = 0
    ∧ turnTail n ⟨s, long, ys ++ [z]⟩ = ⟨(enterSp n (hd z.piece z.way)).piece, (enterSp n (hd z.piece z.way)).at_ + (enterSp n (hd z.piece z.way)).way * 1, (enterSp n (hd z.piece z.way)).way⟩
    ∧ turnBack n ⟨s, long, ys ++ [z]⟩ = takeLen n long (behind n (enterSp n (hd z.piece z.way)) + 1) (⟨(turnTail n ⟨s', long, ys⟩).piece, (turnTail n ⟨s', long, ys⟩).way⟩ :: turnBack n ⟨s', long, ys⟩)
    ∧ 1 ≤ room n (enterSp n (hd z.piece z.way)) := by
  have b1 := (turnTail_ok hG h).2.1
  have b2 := (turnTail_ok hG h').2.1
  have hz : StepOk n z := backOk_steps h.2.2.2 z (by simp)
  have hlz := hG.len hz.1.1 hz.1.2
  have hef : EdFits n.pieces.length (hd z.piece z.way) := hz.fits z.way
  obtain ⟨g1, g2, g3⟩ := enterSp_ok hG hef
  have s1 : spare n ⟨s, long, ys ++ [z]⟩ = behind n s - long + sumLen n (ys ++ [z]) := rfl
  have s2 : spare n ⟨s', long, ys⟩ = behind n s' - long + sumLen n ys := rfl
  rw [sumLen_append, sumLen_cons, sumLen_nil] at s1
  have hl1 : lastOf (⟨s.piece, s.way⟩ : St) (ys ++ [z]) = z := lastOf_append _ _ _
  have s1' : spare n ⟨s, long, ys ++ [z]⟩ = lenOf n z.piece - 1 := by omega
  dsimp only at b1 b2
  rw [hl1, s1'] at b1
  rw [hp, hy] at b2
  have ep : (turnTail n ⟨s', long, ys⟩).piece = (lastOf ⟨s.piece, s.way⟩ ys).piece := by
    show (lastOf ⟨s'.piece, s'.way⟩ ys).piece = _
    rw [hp, hy]
  have ew : (turnTail n ⟨s', long, ys⟩).way = -(lastOf ⟨s.piece, s.way⟩ ys).way := by
    show -(lastOf ⟨s'.piece, s'.way⟩ ys).way = _
    rw [hp, hy]
  refine ⟨ep, ew, by rw [room_of, ep]; omega, ?_, ?_, ?_⟩
  · have ht : turnTail n ⟨s, long, ys ++ [z]⟩ = ⟨z.piece, if z.way = -1 then lenOf n z.piece - spare n ⟨s, long, ys ++ [z]⟩ else spare n ⟨s, long, ys ++ [z]⟩, -z.way⟩ := by
      unfold turnTail tailOf
      dsimp only
      rw [hl1]
      rfl
    rw [ht, s1']
    rcases hz.2 with hw | hw
    · rw [hw]
      simp [enterSp, hd]
      omega
    · rw [hw]
      simp [enterSp, hd]
      omega
  · have hTb : turnBack n ⟨s', long, ys⟩ = takeLen n long (lenOf n (lastOf ⟨s.piece, s.way⟩ ys).piece) (rv ⟨s.piece, s.way⟩ ys) := by
      unfold turnBack
      rw [turnList_rv]
      dsimp only
      rw [hp, hy]
      congr 1
      omega
    have hTb1 : turnBack n ⟨s, long, ys ++ [z]⟩ = takeLen n long 1 (trn (lastOf ⟨s.piece, s.way⟩ ys) :: rv ⟨s.piece, s.way⟩ ys) := by
      unfold turnBack
      rw [turnList_rv]
      dsimp only
      rw [rv_snoc]
      congr 1
      omega
    rw [hTb, hTb1, g2, Int.zero_add, turnTail_st]
    dsimp only
    rw [hp, hy]
    by_cases hc : (1 : Int) < long
    · rw [takeLen_in hc, takeLen_in hc, takeLen_twice]
      show lenOf n (lastOf ⟨s.piece, s.way⟩ ys).piece ≤ 1 + lenOf n (lastOf ⟨s.piece, s.way⟩ ys).piece
      omega
    · rw [takeLen_out hc, takeLen_out hc]
  · rw [room_of, g2, g3]
    show 1 ≤ lenOf n z.piece - 0
    omega
/-- One unit of the way, back. -/
theorem back_unit {n : Nt} (hG : NetGood n) {zs : List Int} {long F F' f : Int} {m : Mv} (hl : 1 ≤ long ∧ long ≤ 100000) (h : MvT n zs long F m) (h1 : 1 ≤ room n m.s) (h2 : m.far + 1 ≤ F) (hf : f + 1 ≤ F') : ∃ k, QP n zs long F' k (turnM n long f (rollBy n long 1 m)) (turnM n long (f + 1) m) := by
  have hF1 := h.fits hG hl
  have hF2 := (rollBy_mvt h (show (0 : Int) ≤ 1 by omega) h1 h2).fits hG hl
  have hbe := (by_ok h.ok.spot (show (0 : Int) ≤ 1 by omega) h1).2.1
  have hlen := h.ok.len
  have hsit := h.sits
  have hsteps := h.ok.steps
  have htk := takeLen_one (h := behind n m.s) hG h.ok.steps h.ok.trim
  obtain ⟨s, xs, far, over⟩ := m
  unfold rollBy at hF2 ⊢
  dsimp only at hF1 hF2 hbe htk hlen hsit hsteps ⊢
  obtain ⟨s', hs', hp, hy⟩ : ∃ s' : Sp, (⟨s.piece, s.at_ + s.way * 1, s.way⟩ : Sp) = s' ∧ s'.piece = s.piece ∧ s'.way = s.way := ⟨_, rfl, rfl, rfl⟩
  rw [hs'] at hF2 hbe ⊢
  rcases htk with hx | ⟨ys, z, rfl, hx, hsum⟩
  · rw [hx] at hF2 ⊢
    obtain ⟨e1, e2, e3⟩ := unitA hG hF1 hF2 hp hy hbe
    have e : turnM n long (f + 1) ⟨s, xs, far, over⟩ = rollBy n long 1 (turnM n long f ⟨s', xs, far + 1, []⟩) := by
      unfold turnM rollBy
      dsimp only
      rw [e1, e2]
    rw [e]
    exact ⟨1, .cons (.roll (by omega) e3 hf) .nil⟩
  · rw [hx] at hF2 ⊢
    obtain ⟨e1, e2, e3, e4, e5, e6⟩ := unitB hG hF1 hF2 hp hy hbe hsum
    have hz : StepOk n z := hsteps z (by simp)
    obtain ⟨i, k', hz1, hi1, hst, ho⟩ := leadsBy_at hG hz hsit.last
    have hAh : Ahead n zs (turnTail n ⟨s', long, ys⟩) i (hd z.piece z.way, 0) := ⟨k', by rw [e1, e2]; exact hst, hi1, hz1, ho⟩
    have hbl : (turnBack n ⟨s', long, ys⟩).length < 200 := by
      have k1 := turnBack_len (n := n) (t := ⟨s', long, ys⟩)
      dsimp only at k1
      simp at hlen
      omega
    have e : turnM n long (f + 1) ⟨s, ys ++ [z], far, over⟩ = rollBy n long 1 (entBy n (turnM n long f ⟨s', ys, far + 1, []⟩) (hd z.piece z.way)) := by
      unfold turnM entBy rollBy
      dsimp only
      rw [e4, e5]
    rw [e]
    exact ⟨2, .cons (.enter (m := turnM n long f ⟨s', ys, far + 1, []⟩) (show f < F' by omega) e3 hAh hbl) (.cons (.roll (by omega) e6 hf) .nil)⟩
theorem back_roll {n : Nt} (hG : NetGood n) {zs : List Int} {long F F' : Int} (hl : 1 ≤ long ∧ long ≤ 100000) : ∀ (r : Nat) (f : Int) (m : Mv), MvT n zs long F m → m.over = [] → (r : Int) ≤ room n m.s → m.far + r ≤ F → f + r ≤ F' → ∃ k, QP n zs long F' k (turnM n long f (rollBy n long r m)) (turnM n long (f + r) m) := by
  intro r
  induction r with
  | zero =>
    intro f m h ho _ _ _
    have e : rollBy n long ((0 : Nat) : Int) m = m := by
      obtain ⟨s, xs, far, over⟩ := m
      dsimp only at ho
      subst ho
      unfold rollBy
      dsimp only
      have ht := h.ok.trimmed
      dsimp only at ht
      simp [ht]
    rw [e]
    exact ⟨0, by simpa using QP.nil⟩
  | succ r ih =>
    intro f m h ho h1 h2 h3
    have e : rollBy n long ((r + 1 : Nat) : Int) m = rollBy n long 1 (rollBy n long r m) := by
      rw [roll_roll h.ok.spot (by omega) (by omega) (by omega)]
      congr 1
    rw [e]
    have hm := rollBy_mvt h (show (0 : Int) ≤ r by omega) (by omega) (by omega)
    obtain ⟨k, hk⟩ := back_unit (F' := F') (f := f) hG hl hm (by show 1 ≤ room n ⟨m.s.piece, m.s.at_ + m.s.way * r, m.s.way⟩; rw [(by_ok h.ok.spot (show (0 : Int) ≤ r by omega) (by omega)).2.2]; omega) (by show m.far + r + 1 ≤ F; omega) (by omega)
    obtain ⟨l, hq⟩ := ih (f + 1) m h ho (by omega) (by omega) (by omega)
    have := hk.app hq
    rw [show f + 1 + (r : Int) = f + ((r + 1 : Nat) : Int) by omega] at this
    exact this
theorem goes_far {n : Nt} {zs : List Int} {long F : Int} {a b : Mv} (hG : NetGood n) (hl : 0 < long) (ha : MvOk n long F a) (g : Goes n zs long F a b) : a.far ≤ b.far := by
  induction g with
  | start => exact Int.le_refl _
  | @step m m' h1 h2 ih =>
    cases h2 with
    | roll h3 h4 =>
      have := (roll_le hG (h1.ok hG hl ha).spot (show (0 : Int) ≤ F - m.far by omega)).1
      show a.far ≤ m.far + (rollTo n m.s (F - m.far) - behind n m.s)
      omega
    | enter _ _ _ _ => exact ih
/-- The whole way, back. -/
theorem back_goes {n : Nt} (hG : NetGood n) {zs : List Int} {long F F' : Int} (hl : 1 ≤ long ∧ long ≤ 100000) {a b : Mv} (h : MvT n zs long F a) (g : Goes n zs long F a b) : ∀ f, f + (b.far - a.far) ≤ F' → ∃ k, QP n zs long F' k (turnM n long f b) (turnM n long (f + (b.far - a.far)) a) := by
  induction g with
  | start => intro f _; exact ⟨0, by simpa using QP.nil⟩
  | @step m m' h1 h2 ih =>
    intro f hf
    have hm := h1.mvt hG (by omega) h
    have hq := mstep_qs hG hm.ok.spot h2
    have hms : MvT n zs long F (strip m) := ⟨⟨hm.ok.spot, hm.ok.steps, hm.ok.len, hm.ok.trim, hm.ok.enough, hm.ok.far0, hm.ok.farF, by simp [strip]; exact hm.ok.far0⟩, hm.sits⟩
    have hstr : ∀ (x : Mv) (q : Int), turnM n long q (strip x) = turnM n long q x := fun _ _ => rfl
    generalize hm' : strip m' = y at hq
    have hyf : y.far = m'.far := by rw [← hm']; rfl
    have hy : ∀ q, turnM n long q y = turnM n long q m' := fun q => by rw [← hm', hstr]
    cases hq with
    | @roll r a1 a2 a3 =>
      have hr : m'.far = m.far + r := hyf.symm
      obtain ⟨rn, rfl⟩ := Int.eq_ofNat_of_zero_le (show 0 ≤ r by omega)
      obtain ⟨k, hk⟩ := back_roll (F' := F') hG hl rn f (strip m) hms rfl a2 a3 (by
        have := goes_far hG (by omega) h.ok h1
        omega)
      obtain ⟨l, hq2⟩ := ih (f + rn) (by omega)
      rw [hy, hstr] at hk
      have := hk.app hq2
      rw [show f + (rn : Int) + (m.far - a.far) = f + (m'.far - a.far) by omega] at this
      exact this
    | @enter i e a1 a2 a3 a4 =>
      have hr : m'.far = m.far := hyf.symm
      have e1 := turn_enter (f := f) hG hl hms a2 a3 a4
      rw [hy, hstr] at e1
      rw [e1, hr]
      exact ih f (by omega)
/-- Where a train has come, turned, moved as far: it is the train turned. -/
theorem back_end {n : Nt} (hG : NetGood n) {zs : List Int} {long F : Int} (hl : 1 ≤ long ∧ long ≤ 100000) {a b y : Mv} (ha0 : a.far = 0) (h : MvT n zs long F a) (g : Goes n zs long F a b) {c j : Int} (hv : MvOk n long b.far ⟨turnTail n ⟨b.s, long, b.xs⟩, turnBack n ⟨b.s, long, b.xs⟩, 0, []⟩)
    (hy : Goes n zs long b.far ⟨turnTail n ⟨b.s, long, b.xs⟩, turnBack n ⟨b.s, long, b.xs⟩, 0, []⟩ y) (he : MEnd n zs b.far y c j) : y.s = turnTail n ⟨a.s, long, a.xs⟩ ∧ y.xs = turnBack n ⟨a.s, long, a.xs⟩ ∧ y.far = b.far ∧ c = 0 := by
  obtain ⟨k, hk⟩ := back_goes (F' := b.far) hG hl h g 0 (by omega)
  obtain ⟨l, hq⟩ := goes_qp hG (by omega) hy hv
  have e0 : (0 : Int) + (b.far - a.far) = b.far := by omega
  rw [e0] at hk
  have hend : MEnd n zs b.far (turnM n long b.far a) 0 (-1) := Or.inl ⟨rfl, rfl, rfl⟩
  have e := confl hG (p := strip y) (q := turnM n long b.far a) he hend (l + k) l k _ (Nat.le_refl _) hv.spot hq hk
  have hc := (mend_unique hG (b := strip y) (hy.ok hG (by omega) hv).spot he (by rw [e]; exact hend)).1
  have e3 : (strip y).far = (turnM n long b.far a).far := congrArg Mv.far e
  exact ⟨congrArg Mv.s e, congrArg Mv.xs e, e3, hc⟩
end Go.Proofs.YtcggkfpkkhjdhaaGreat

