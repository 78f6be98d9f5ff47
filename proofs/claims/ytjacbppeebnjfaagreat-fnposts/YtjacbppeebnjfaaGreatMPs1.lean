import Derived.Test.YtjacbppeebnjfaaGreatQ1
set_option linter.unusedSimpArgs false
namespace Go.Proofs.YtjacbppeebnjfaaGreat
open Go.RowKit

def down (x : St) : Nat → List (St × Int)
 | 0 => []
 | b + 1 => (x, ((b + 1 : Nat) : Int)) :: down x b
theorem down_len (x : St) (b : Nat) : (down x b).length = b := by
 induction b with
 | zero => rfl
 | succ b ih => simp [down, ih]
def bu (n : Nt) (s : Sp) (xs : List St) : List (St × Int) := down ⟨s.piece, s.way⟩ (behind n s).toNat ++ xs.flatMap fun x => down x (lenOf n x.piece).toNat
inductive UC (n : Nt) (zs : List Int) (long : Int) (s0 : Sp) (xs0 : List St) : Nat → List (St × Int) → Sp → List St → Prop
 | nil : UC n zs long s0 xs0 0 [] s0 xs0
 | roll {c : Nat} {us : List (St × Int)} {s : Sp} {xs : List St} : UC n zs long s0 xs0 c us s xs → 0 < room n s → UC n zs long s0 xs0 (c + 1) ((⟨s.piece, s.way⟩, behind n s + 1) :: us) ⟨s.piece, s.at_ + s.way * 1, s.way⟩ (takeLen n long (behind n s + 1) xs)
 | enter {c : Nat} {us : List (St × Int)} {s : Sp} {xs : List St} {i : Nat} {e : Ed} : UC n zs long s0 xs0 c us s xs → room n s = 0 → Ahead n zs s i (e, 0) → xs.length < 200 → UC n zs long s0 xs0 (c + 1) us (enterSp n e) (⟨s.piece, s.way⟩ :: xs)
theorem UC.spot {n : Nt} (hG : NetGood n) {zs : List Int} {long : Int} {s0 : Sp} {xs0 : List St} {c : Nat} {us : List (St × Int)} {s : Sp} {xs : List St} (h : UC n zs long s0 xs0 c us s xs) (hs : SpotOk n s0) (hx : ∀ x ∈ xs0, StepOk n x) : SpotOk n s ∧ ∀ x ∈ xs, StepOk n x := by
 induction h with
 | nil => exact ⟨hs, hx⟩
 | roll _ hr ih =>
  refine ⟨(by_ok ih.1 (show (0 : Int) ≤ 1 by omega) (by omega)).1, fun x h => ?_⟩
  obtain ⟨k, _, e, _⟩ := takeLen_take n long _ _ |> fun h => h
  rw [e] at h
  exact ih.2 x (List.mem_of_mem_take h)
 | enter _ _ ha _ ih =>
  refine ⟨(enterSp_ok hG (ahead_fits hG ha)).1, fun x h => ?_⟩
  rcases List.mem_cons.1 h with rfl | h
  ·exact ⟨ih.1.1, ih.1.2.1⟩
  ·exact ih.2 x h
theorem UC.trans {n : Nt} {zs : List Int} {long : Int} {s0 s1 s2 : Sp} {xs0 xs1 xs2 : List St} {c d : Nat} {us vs : List (St × Int)} (h : UC n zs long s0 xs0 c us s1 xs1) (g : UC n zs long s1 xs1 d vs s2 xs2) : UC n zs long s0 xs0 (c + d) (vs ++ us) s2 xs2 := by
 induction g with
 | nil => exact h
 | roll _ hr ih => exact .roll ih hr
 | enter _ hr ha hl ih => exact .enter ih hr ha hl
theorem UC.split {n : Nt} {zs : List Int} {long : Int} {s0 s : Sp} {xs0 xs : List St} {c : Nat} {us : List (St × Int)} (h : UC n zs long s0 xs0 c us s xs) : ∀ k d, c = k + d → ∃ us1 us2 s1 xs1, UC n zs long s0 xs0 k us1 s1 xs1 ∧ UC n zs long s1 xs1 d us2 s xs ∧ us = us2 ++ us1 := by
 induction h with
 | nil =>
  intro k d e
  obtain ⟨rfl, rfl⟩ : k = 0 ∧ d = 0 := by omega
  exact ⟨[], [], _, _, .nil, .nil, rfl⟩
 | @roll c us s xs h hr ih =>
  intro k d e
  rcases Nat.eq_zero_or_pos d with rfl | hd
  ·obtain rfl : k = c + 1 := by omega
   exact ⟨_, [], _, _, .roll h hr, .nil, rfl⟩
  ·obtain ⟨d', rfl⟩ : ∃ d', d = d' + 1 := ⟨d - 1, by omega⟩
   obtain ⟨us1, us2, s1, xs1, h1, h2, rfl⟩ := ih k d' (by omega)
   exact ⟨us1, _, s1, xs1, h1, .roll h2 hr, rfl⟩
 | @enter c us s xs i e' h hr ha hl ih =>
  intro k d e
  rcases Nat.eq_zero_or_pos d with rfl | hd
  ·obtain rfl : k = c + 1 := by omega
   exact ⟨_, [], _, _, .enter h hr ha hl, .nil, rfl⟩
  ·obtain ⟨d', rfl⟩ : ∃ d', d = d' + 1 := ⟨d - 1, by omega⟩
   obtain ⟨us1, us2, s1, xs1, h1, h2, rfl⟩ := ih k d' (by omega)
   exact ⟨us1, _, s1, xs1, h1, .enter h2 hr ha hl, rfl⟩
theorem UC.unique {n : Nt} (hG : NetGood n) {zs : List Int} {long : Int} {s0 : Sp} {xs0 : List St} (hs : SpotOk n s0) (hx : ∀ x ∈ xs0, StepOk n x) {c : Nat} {us : List (St × Int)} {s : Sp} {xs : List St} (h : UC n zs long s0 xs0 c us s xs) : ∀ {us' : List (St × Int)} {s' : Sp} {xs' : List St}, UC n zs long s0 xs0 c us' s' xs' → us = us' ∧ s = s' ∧ xs = xs' := by
 induction h with
 | nil => intro us' s' xs' g; cases g; exact ⟨rfl, rfl, rfl⟩
 | roll _ hr ih =>
  intro us' s' xs' g
  cases g with
  | roll g' _ => obtain ⟨rfl, rfl, rfl⟩ := ih g'; exact ⟨rfl, rfl, rfl⟩
  | enter g' hr' _ _ => obtain ⟨rfl, rfl, rfl⟩ := ih g'; omega
 | enter h hr ha hl ih =>
  intro us' s' xs' g
  cases g with
  | roll g' hr' => obtain ⟨rfl, rfl, rfl⟩ := ih g'; omega
  | enter g' _ ha' _ =>
   obtain ⟨rfl, rfl, rfl⟩ := ih g'
   obtain ⟨_, e⟩ := Ahead.unique hG (h.spot hG hs hx).1 ha ha'
   cases e
   exact ⟨rfl, rfl, rfl⟩
def Stuck (n : Nt) (zs : List Int) (s : Sp) (xs : List St) : Prop := room n s = 0 ∧ ∃ i r, Ahead n zs s i r ∧ (r.2 ≠ 0 ∨ xs.length = 200)
theorem UC.stuck {n : Nt} (hG : NetGood n) {zs : List Int} {long : Int} {s0 : Sp} {xs0 : List St} (hs : SpotOk n s0) (hst : Stuck n zs s0 xs0) {c : Nat} {us : List (St × Int)} {s : Sp} {xs : List St} (h : UC n zs long s0 xs0 c us s xs) : c = 0 ∧ us = [] := by
 induction h with
 | nil => exact ⟨rfl, rfl⟩
 | roll h hr ih =>
  obtain ⟨rfl, rfl⟩ := ih
  cases h
  have := hst.1
  omega
 | enter h hr ha hl ih =>
  obtain ⟨rfl, rfl⟩ := ih
  cases h
  obtain ⟨_, i, r, hr', hc⟩ := hst
  obtain ⟨_, rfl⟩ := Ahead.unique hG hs ha hr'
  rcases hc with hc | hc
  ·exact absurd rfl hc
  ·omega
theorem UC.meet {n : Nt} (hG : NetGood n) {zs : List Int} {long : Int} {s0 : Sp} {xs0 : List St} (hs : SpotOk n s0) (hx : ∀ x ∈ xs0, StepOk n x) {F : Nat} {c c' : Nat} {us us' : List (St × Int)} {s s' : Sp} {xs xs' : List St} (h : UC n zs long s0 xs0 c us s xs) (g : UC n zs long s0 xs0 c' us' s' xs')
  (h1 : us.length ≤ F) (g1 : us'.length ≤ F) (h2 : Stuck n zs s xs ∨ us.length = F) (g2 : Stuck n zs s' xs' ∨ us'.length = F) : us = us' := by
 have key : ∀ {c c' : Nat} {us us' : List (St × Int)} {s s' : Sp} {xs xs' : List St}, UC n zs long s0 xs0 c us s xs → UC n zs long s0 xs0 c' us' s' xs' → us'.length ≤ F → (Stuck n zs s xs ∨ us.length = F) → c ≤ c' → us = us' := fun {c c' us us' s s' xs xs'} h g g1 h2 hc => by
  obtain ⟨us1, us2, s1, xs1, k1, k2, rfl⟩ := g.split c (c' - c) (by omega)
  obtain ⟨rfl, rfl, rfl⟩ := h.unique hG hs hx k1
  rcases h2 with h2 | h2
  ·obtain ⟨hs1, hx1⟩ := k1.spot hG hs hx
   rw [(k2.stuck hG hs1 h2).2]
   rfl
  ·have : us2.length = 0 := by rw [List.length_append] at g1; omega
   rw [List.length_eq_zero_iff.1 this]
   rfl
 rcases Nat.le_total c c' with hc | hc
 ·exact key h g g1 h2 hc
 ·exact (key g h h1 g2 hc).symm

def Nxt (n : Nt) (a b : St × Int) : Prop := (b.1 = a.1 ∧ b.2 = a.2 - 1 ∧ 1 ≤ b.2) ∨ (a.2 = 1 ∧ b.2 = lenOf n b.1.piece)
def Bdry (n : Nt) (l : List (St × Int)) : Prop := ∀ u r, l = u :: r → u.2 = lenOf n u.1.piece
def NxtAll (n : Nt) : List (St × Int) → Prop
 | [] => True
 | [_] => True
 | a :: b :: r => Nxt n a b ∧ NxtAll n (b :: r)
theorem NxtAll.get {n : Nt} : ∀ {l : List (St × Int)}, NxtAll n l → ∀ {i : Nat} {a b : St × Int}, l[i]? = some a → l[i + 1]? = some b → Nxt n a b
 | [], _, i, a, b, h, _ => by simp at h
 | [x], _, i, a, b, _, h => by simp at h
 | x :: y :: r, hn, 0, a, b, h, g => by simp at h g; subst h g; exact hn.1
 | x :: y :: r, hn, i + 1, a, b, h, g => NxtAll.get hn.2 (i := i) (by simpa using h) (by simpa using g)
theorem down_head (x : St) (b : Nat) (h : 0 < b) : ∃ r, down x b = (x, (b : Int)) :: r := by
 obtain ⟨b', rfl⟩ : ∃ b', b = b' + 1 := ⟨b - 1, by omega⟩
 exact ⟨_, rfl⟩
theorem down_app {n : Nt} (x : St) : ∀ (b : Nat) {l : List (St × Int)}, NxtAll n l → Bdry n l → NxtAll n (down x b ++ l)
 | 0, l, h, _ => h
 | 1, [], _, _ => trivial
 | 1, u :: r, h, hb => ⟨Or.inr ⟨rfl, hb u r rfl⟩, h⟩
 | b + 2, l, h, hb => ⟨Or.inl ⟨rfl, by dsimp only; omega, by dsimp only; omega⟩, down_app x (b + 1) h hb⟩
def fl (n : Nt) (xs : List St) : List (St × Int) := xs.flatMap fun x => down x (lenOf n x.piece).toNat
theorem fl_cons (n : Nt) (x : St) (xs : List St) : fl n (x :: xs) = down x (lenOf n x.piece).toNat ++ fl n xs := by simp [fl]
theorem fl_app (n : Nt) (xs ys : List St) : fl n (xs ++ ys) = fl n xs ++ fl n ys := by simp [fl]
theorem fl_bdry {n : Nt} (hG : NetGood n) {xs : List St} (hx : ∀ x ∈ xs, StepOk n x) : Bdry n (fl n xs) := by
 cases xs with
 | nil => intro u r h; cases h
 | cons x r =>
  have h1 := hx x List.mem_cons_self
  have hl := hG.len h1.1.1 h1.1.2
  obtain ⟨q, hq⟩ := down_head x (lenOf n x.piece).toNat (by omega)
  intro u l h
  rw [fl_cons, hq] at h
  cases h
  dsimp only
  omega
theorem fl_nxt {n : Nt} (hG : NetGood n) {xs : List St} (hx : ∀ x ∈ xs, StepOk n x) : NxtAll n (fl n xs) := by
 induction xs with
 | nil => trivial
 | cons x r ih =>
  rw [fl_cons]
  exact down_app x _ (ih fun y hy => hx y (List.mem_cons_of_mem _ hy)) (fl_bdry hG fun y hy => hx y (List.mem_cons_of_mem _ hy))
theorem fl_len {n : Nt} (hG : NetGood n) {xs : List St} (hx : ∀ x ∈ xs, StepOk n x) : ((fl n xs).length : Int) = sumLen n xs := by
 induction xs with
 | nil => simp [fl, sumLen_nil]
 | cons x r ih =>
  have h1 := hx x List.mem_cons_self
  have hl := hG.len h1.1.1 h1.1.2
  rw [fl_cons, sumLen_cons, List.length_append, down_len]
  have := ih fun y hy => hx y (List.mem_cons_of_mem _ hy)
  omega
theorem bu_eq (n : Nt) (s : Sp) (xs : List St) : bu n s xs = down ⟨s.piece, s.way⟩ (behind n s).toNat ++ fl n xs := rfl
theorem behind_nonneg {n : Nt} {s : Sp} (hs : SpotOk n s) : 0 ≤ behind n s := by
 have := hs.2.2
 unfold behind room
 split <;> omega
theorem UC.win {n : Nt} (hG : NetGood n) {zs : List Int} {long : Int} {s0 : Sp} {xs0 : List St} (hs : SpotOk n s0) (hx : ∀ x ∈ xs0, StepOk n x) {c : Nat} {us : List (St × Int)} {s : Sp} {xs : List St} (h : UC n zs long s0 xs0 c us s xs) : NxtAll n (us ++ bu n s0 xs0) ∧ ∃ rest, us ++ bu n s0 xs0 = bu n s xs ++ rest ∧ Bdry n rest := by
 induction h with
 | nil => exact ⟨down_app _ _ (fl_nxt hG hx) (fl_bdry hG hx), [], by simp, fun u r h => by cases h⟩
 | @roll c us s xs h hr ih =>
  obtain ⟨hs1, hx1⟩ := h.spot hG hs hx
  obtain ⟨ih1, rest, ih2, ih3⟩ := ih
  have hb0 := behind_nonneg hs1
  obtain ⟨_, e2, _⟩ := by_ok hs1 (show (0 : Int) ≤ 1 by omega) (show (1 : Int) ≤ room n s by omega)
  obtain ⟨k, hk, ek, _, _⟩ := takeLen_take n long xs (behind n s + 1)
  have eb : bu n ⟨s.piece, s.at_ + s.way * 1, s.way⟩ xs = (⟨s.piece, s.way⟩, behind n s + 1) :: bu n s xs := by
   rw [bu_eq, bu_eq, e2]
   dsimp only
   rw [show (behind n s + 1).toNat = (behind n s).toNat + 1 by omega]
   rw [down]
   simp
   omega
  refine ⟨?_, fl n (xs.drop k) ++ rest, ?_, ?_⟩
  ·rw [List.cons_append]
   cases hl : us ++ bu n s0 xs0 with
   | nil => exact trivial
   | cons u r =>
    refine ⟨?_, by rw [← hl]; exact ih1⟩
    rw [hl] at ih2
    rw [bu_eq] at ih2
    rcases Nat.eq_zero_or_pos (behind n s).toNat with h0 | h0
    ·right
     refine ⟨by dsimp only; omega, ?_⟩
     rw [h0] at ih2
     simp only [down, List.nil_append] at ih2
     cases hf : fl n xs with
     | nil =>
      rw [hf, List.nil_append] at ih2
      exact ih3 u r ih2.symm
     | cons u' r' =>
      rw [hf] at ih2
      simp only [List.cons_append, List.cons.injEq] at ih2
      rw [ih2.1]
      exact fl_bdry hG hx1 u' r' hf
    ·left
     obtain ⟨q, hq⟩ := down_head ⟨s.piece, s.way⟩ (behind n s).toNat h0
     rw [hq] at ih2
     simp only [List.cons_append, List.cons.injEq] at ih2
     rw [ih2.1]
     exact ⟨rfl, by dsimp only; omega, by dsimp only; omega⟩
  ·rw [List.cons_append, ih2, ek, ← List.cons_append, ← eb, bu_eq, bu_eq, List.append_assoc, List.append_assoc]
   congr 1
   rw [← List.append_assoc, ← fl_app, List.take_append_drop]
  ·intro u r hu
   cases hd : xs.drop k with
   | nil =>
    rw [hd] at hu
    exact ih3 u r hu
   | cons x q =>
    have hxk : ∀ y ∈ xs.drop k, StepOk n y := fun y hy => hx1 y (List.mem_of_mem_drop hy)
    rw [hd] at hu hxk
    cases hf : fl n (x :: q) with
    | nil =>
     have h1 := hxk x List.mem_cons_self
     have hl := hG.len h1.1.1 h1.1.2
     have := fl_len hG hxk
     rw [hf, sumLen_cons] at this
     have := sumLen_nonneg hG (fun y hy => hxk y (List.mem_cons_of_mem x hy))
     simp at *
     omega
    | cons u' r' =>
     rw [hf] at hu
     simp only [List.cons_append, List.cons.injEq] at hu
     rw [← hu.1]
     exact fl_bdry hG hxk u' r' hf
 | @enter c us s xs i e h hr ha hl ih =>
  obtain ⟨hs1, hx1⟩ := h.spot hG hs hx
  obtain ⟨ih1, rest, ih2, ih3⟩ := ih
  obtain ⟨_, e2, _⟩ := enterSp_ok hG (ahead_fits hG ha)
  refine ⟨ih1, rest, ?_, ih3⟩
  rw [ih2, bu_eq, bu_eq, e2, fl_cons]
  dsimp only
  rw [room_len hr]
  simp [down]

def unR (x : Sx) : List (St × Int) := (down x.step x.high.toNat).take (x.high - x.low).toNat
def ur (sx : List Sx) : List (St × Int) := sx.reverse.flatMap unR
theorem ur_snoc (sx : List Sx) (x : Sx) : ur (sx ++ [x]) = unR x ++ ur sx := by simp [ur]
theorem roll_uc {n : Nt} {zs : List Int} {long : Int} {s0 : Sp} {xs0 : List St} {us : List (St × Int)} {s : Sp} {xs : List St} {c : Nat} (h : UC n zs long s0 xs0 c us s xs) (hs : SpotOk n s) : ∀ r : Nat, (r : Int) + 1 ≤ room n s →
  UC n zs long s0 xs0 (c + (r + 1)) ((down ⟨s.piece, s.way⟩ ((behind n s).toNat + (r + 1))).take (r + 1) ++ us) ⟨s.piece, s.at_ + s.way * ((r : Int) + 1), s.way⟩ (takeLen n long (behind n s + ((r : Int) + 1)) xs) := by
 intro r
 have hb0 := behind_nonneg hs
 induction r with
 | zero =>
  intro hr
  have g := UC.roll h (show 0 < room n s by omega)
  have e : down ⟨s.piece, s.way⟩ ((behind n s).toNat + (0 + 1)) = (⟨s.piece, s.way⟩, behind n s + 1) :: down ⟨s.piece, s.way⟩ (behind n s).toNat := by
   show down ⟨s.piece, s.way⟩ ((behind n s).toNat + 1) = _
   rw [down]
   congr 2
   omega
  rw [e]
  simpa using g
 | succ r ih =>
  intro hr
  have g := ih (by omega)
  obtain ⟨_, e2, e3⟩ := by_ok hs (show (0 : Int) ≤ (r : Int) + 1 by omega) (by omega)
  have g' := UC.roll g (by rw [e3]; omega)
  rw [e2, takeLen_twice (by omega)] at g'
  dsimp only at g'
  have e : (down ⟨s.piece, s.way⟩ ((behind n s).toNat + (r + 1 + 1))).take (r + 1 + 1) = (⟨s.piece, s.way⟩, behind n s + ((r : Int) + 1) + 1) :: (down ⟨s.piece, s.way⟩ ((behind n s).toNat + (r + 1))).take (r + 1) := by
   show (down ⟨s.piece, s.way⟩ ((behind n s).toNat + (r + 1) + 1)).take (r + 1 + 1) = _
   rw [down, List.take_succ_cons]
   congr 2
   omega
  have e4 : s.at_ + s.way * ((r : Int) + 1) + s.way * 1 = s.at_ + s.way * (((r + 1 : Nat) : Int) + 1) := by
   rw [Int.add_assoc, ← Int.mul_add]
   congr 2
  have e5 : behind n s + ((r : Int) + 1) + 1 = behind n s + (((r + 1 : Nat) : Int) + 1) := by omega
  rw [e, List.cons_append, ← e4, ← e5]
  exact g'
def lenS : List Sx → Int
 | [] => 0
 | x :: r => (x.high - x.low) + lenS r
theorem lenS_app (l k : List Sx) : lenS (l ++ k) = lenS l + lenS k := by
 induction l with
 | nil => simp [lenS]
 | cons x r ih => simp only [List.cons_append, lenS, ih]; omega
def OvN (n : Nt) (zs : List Int) (long : Int) (m m2 : Mv) (lo hi : Int) : Prop :=
 m2.over = m.over ++ (if lo < hi then [partOf n ⟨m.s.piece, m.s.way⟩ lo hi] else []) ∧ (∀ s0 xs0 c us, UC n zs long s0 xs0 c us m.s m.xs → ∃ c', UC n zs long s0 xs0 c' (unR ⟨⟨m.s.piece, m.s.way⟩, lo, hi⟩ ++ us) m2.s m2.xs) ∧ lo ≤ hi ∧ m2.far = m.far + (hi - lo)
def OvS (n : Nt) (zs : List Int) (long : Int) (m0 m : Mv) (sx : List Sx) : Prop := partsL n sx = m.over ∧ (∃ c, UC n zs long m0.s m0.xs c (ur sx) m.s m.xs) ∧ (∀ x ∈ sx, x.low ≤ x.high) ∧ m.far = m0.far + lenS sx
theorem OvS.snoc {n : Nt} {zs : List Int} {long : Int} {m0 m m2 : Mv} {sx : List Sx} {lo hi : Int} (h : OvS n zs long m0 m sx) (g : OvN n zs long m m2 lo hi) : OvS n zs long m0 m2 (sx ++ [⟨⟨m.s.piece, m.s.way⟩, lo, hi⟩]) := by
 obtain ⟨h1, ⟨c, h2⟩, h3, h4⟩ := h
 refine ⟨by rw [partsL_snoc, h1, g.1], ?_, fun x hx => ?_, ?_⟩
 ·rw [ur_snoc]
  exact g.2.1 _ _ c _ h2
 ·rcases List.mem_append.1 hx with hx | hx
  ·exact h3 x hx
  ·rw [List.mem_singleton.1 hx]
   exact g.2.2.1
 ·rw [lenS_app, g.2.2.2, h4]
  simp only [lenS]
  omega
theorem OvS.enter {n : Nt} {zs : List Int} {long : Int} {m0 m : Mv} {sx : List Sx} {i : Nat} {e : Ed} (h : OvS n zs long m0 m sx) (hr : room n m.s = 0) (ha : Ahead n zs m.s i (e, 0)) (hl : m.xs.length < 200) : OvS n zs long m0 (enterM n m e) sx := by
 obtain ⟨h1, ⟨c, h2⟩, h3⟩ := h
 exact ⟨h1, ⟨c + 1, .enter h2 hr ha hl⟩, h3⟩
theorem ovN_roll {n : Nt} (hG : NetGood n) {zs : List Int} {long F : Int} {m : Mv} (hM : MvOk n long F m) (hlt : behind n m.s < rollTo n m.s (F - m.far)) : OvN n zs long m (rollM n long F m) (behind n m.s) (rollTo n m.s (F - m.far)) := by
 have hf := hM.farF
 have hb0 := behind_nonneg hM.spot
 have hb : behind n m.s = lenOf n m.s.piece - room n m.s := rfl
 obtain ⟨g1, g2, g3, g4⟩ := roll_le hG hM.spot (show (0 : Int) ≤ F - m.far by omega)
 refine ⟨by rw [if_pos hlt]; rfl, fun s0 xs0 c us h => ?_, by omega, rfl⟩
 obtain ⟨r, hr⟩ : ∃ r : Nat, rollTo n m.s (F - m.far) - behind n m.s = (r : Int) + 1 := ⟨(rollTo n m.s (F - m.far) - behind n m.s - 1).toNat, by omega⟩
 have g := roll_uc h hM.spot r (by omega)
 refine ⟨c + (r + 1), ?_⟩
 have e1 : unR ⟨⟨m.s.piece, m.s.way⟩, behind n m.s, rollTo n m.s (F - m.far)⟩ = (down ⟨m.s.piece, m.s.way⟩ ((behind n m.s).toNat + (r + 1))).take (r + 1) := by
  unfold unR
  dsimp only
  rw [show (rollTo n m.s (F - m.far)).toNat = (behind n m.s).toNat + (r + 1) by omega, show (rollTo n m.s (F - m.far) - behind n m.s).toNat = r + 1 by omega]
 have e2 : (rollM n long F m).s = ⟨m.s.piece, m.s.at_ + m.s.way * ((r : Int) + 1), m.s.way⟩ := by
  unfold rollM rolledSp
  dsimp only
  rw [hr]
 have e3 : (rollM n long F m).xs = takeLen n long (behind n m.s + ((r : Int) + 1)) m.xs := by
  show takeLen n long (behind n (rolledSp n m.s (F - m.far))) m.xs = _
  rw [(rolled_ok hG hM.spot (show (0 : Int) ≤ F - m.far by omega)).2]
  congr 1
  omega
 rw [e1, e2, e3]
 exact g
theorem ovN_none {n : Nt} {zs : List Int} {long : Int} (m : Mv) {lo hi : Int} (h : ¬ lo < hi) (hle : lo ≤ hi) : OvN n zs long m m lo hi := by
 refine ⟨by rw [if_neg h, List.append_nil], fun s0 xs0 c us h' => ⟨c, ?_⟩, hle, by omega⟩
 have e : unR ⟨⟨m.s.piece, m.s.way⟩, lo, hi⟩ = [] := by
  unfold unR
  dsimp only
  rw [show (hi - lo).toNat = 0 by omega, List.take_zero]
 rw [e]
 exact h'

end Go.Proofs.YtjacbppeebnjfaaGreat

set_option linter.unusedSimpArgs false
namespace Go.Proofs.YtjacbppeebnjfaaGreat
open Go.RowKit

def PostOk (n : Nt) (p : Int × Int) : Prop := (0 ≤ p.1 ∧ p.1 < n.pieces.length) ∧ 1 ≤ p.2 ∧ p.2 ≤ lenOf n p.1 - 1
def beh (n : Nt) (p : Int × Int) (way : Int) : Int := behind n ⟨p.1, p.2, way⟩
def AtU (n : Nt) (p : Int × Int) (u : St × Int) : Prop := p.1 = u.1.piece ∧ beh n p u.1.way = u.2
instance (n : Nt) (p : Int × Int) (u : St × Int) : Decidable (AtU n p u) := by unfold AtU; infer_instance
theorem beh_in {n : Nt} {p : Int × Int} (h : PostOk n p) (way : Int) : 1 ≤ beh n p way ∧ beh n p way ≤ lenOf n p.1 - 1 := by
 have := h.2
 unfold beh behind room
 dsimp only
 split <;> omega
def axleSp (n : Nt) (s : Sp) (xs : List St) (a : Int) : Sp := if a = 0 then s else tailOf n ⟨s, a, takeLen n a (behind n s) xs⟩
theorem spot_at {n : Nt} {s : Sp} {p : Int × Int} (hp : s.piece = p.1) : s.at_ = p.2 ↔ beh n p s.way = behind n s := by
 unfold beh behind room
 rw [← hp]
 dsimp only
 split <;> omega
theorem bu_get0 {n : Nt} {s : Sp} {xs : List St} (h : 0 < behind n s) : (bu n s xs)[0]? = some (⟨s.piece, s.way⟩, behind n s) := by
 obtain ⟨r, hr⟩ := down_head ⟨s.piece, s.way⟩ (behind n s).toNat (by omega)
 rw [bu_eq, hr]
 simp
 omega
theorem down_get (x : St) (b i : Nat) (h : i < b) : (down x b)[i]? = some (x, ((b - i : Nat) : Int)) := by
 induction b generalizing i with
 | zero => omega
 | succ b ih =>
  cases i with
  | zero => simp [down]
  | succ i =>
   rw [down, List.getElem?_cons_succ, ih i (by omega)]
   congr 3
   omega
theorem fl_get {n : Nt} (hG : NetGood n) {xs : List St} (hx : ∀ x ∈ xs, StepOk n x) (k : Nat) (hk : k < xs.length) (d : Nat) (hd : (d : Int) < lenOf n xs[k].piece) : (fl n xs)[(sumLen n (xs.take k)).toNat + d]? = some (xs[k], lenOf n xs[k].piece - d) := by
 induction xs generalizing k with
 | nil => simp at hk
 | cons x r ih =>
  have h1 := hx x List.mem_cons_self
  have hl := hG.len h1.1.1 h1.1.2
  cases k with
  | zero =>
   simp only [List.take_zero, sumLen_nil, List.getElem_cons_zero] at hd ⊢
   rw [fl_cons, List.getElem?_append_left (by rw [down_len]; omega)]
   rw [show (Int.toNat 0 + d) = d by simp, down_get _ _ _ (by omega)]
   congr 2
   omega
  | succ k =>
   have hx' : ∀ y ∈ r, StepOk n y := fun y hy => hx y (List.mem_cons_of_mem _ hy)
   simp only [List.length_cons, List.getElem_cons_succ, List.take_succ_cons, sumLen_cons] at hk hd ⊢
   have h0 := sumLen_nonneg hG (xs := r.take k) (fun y hy => hx' y (List.mem_of_mem_take hy))
   rw [fl_cons, List.getElem?_append_right (by rw [down_len]; omega), down_len]
   rw [show (lenOf n x.piece + sumLen n (r.take k)).toNat + d - (lenOf n x.piece).toNat = (sumLen n (r.take k)).toNat + d by omega]
   exact ih hx' k (by omega) hd
theorem tail_mid {n : Nt} {s : Sp} {xs : List St} {a : Int} : tailOf n ⟨s, a, xs⟩ = ⟨(lastOf ⟨s.piece, s.way⟩ xs).piece, if (lastOf ⟨s.piece, s.way⟩ xs).way = -1 then lenOf n (lastOf ⟨s.piece, s.way⟩ xs).piece - (behind n s - a + sumLen n xs) else behind n s - a + sumLen n xs, (lastOf ⟨s.piece, s.way⟩ xs).way⟩ := rfl
theorem spot_by {n : Nt} {x : St} (hx : StepOk n x) {b : Int} {p : Int × Int} (hp : x.piece = p.1) : ((if x.way = -1 then lenOf n x.piece - b else b) = p.2) ↔ beh n p x.way = b := by
 unfold beh behind room
 rw [← hp]
 dsimp only
 rcases hx.2 with h | h
 ·rw [h]; simp; omega
 ·rw [h]; simp; omega
theorem axle_at {n : Nt} (hG : NetGood n) {s : Sp} {xs : List St} (hs : SpotOk n s) (hx : ∀ x ∈ xs, StepOk n x) {a : Nat} (ha : (a : Int) ≤ behind n s + sumLen n xs) {p : Int × Int} (hp : PostOk n p) :
  (((axleSp n s xs a).piece = p.1 ∧ (axleSp n s xs a).at_ = p.2) ↔ ∃ u, (bu n s xs)[a]? = some u ∧ AtU n p u) ∧ ∀ u, (bu n s xs)[a]? = some u → AtU n p u → (axleSp n s xs a).way = u.1.way := by
 have hb0 := behind_nonneg hs
 have hsl := hG.len hs.1.1 hs.1.2
 have hble : behind n s ≤ lenOf n s.piece := by have := hs.2.2; unfold behind room; split <;> omega
 unfold axleSp
 by_cases h0 : (a : Int) = 0
 ·rw [if_pos h0]
  have h0' : a = 0 := by omega
  subst h0'
  by_cases hb : 0 < behind n s
  ·rw [bu_get0 hb]
   constructor
   ·constructor
    ·rintro ⟨h1, h2⟩
     exact ⟨_, rfl, h1.symm, (spot_at h1).1 h2⟩
    ·rintro ⟨u, hu, h1, h2⟩
     cases hu
     exact ⟨h1.symm, (spot_at h1.symm).2 h2⟩
   ·intro u hu _
    cases hu
    rfl
  ·have hbz : behind n s = 0 := by omega
   have no : ∀ u, (bu n s xs)[0]? = some u → ¬ AtU n p u := fun u hu hat => by
    rw [bu_eq, hbz] at hu
    simp only [Int.toNat_zero, down, List.nil_append] at hu
    cases hf : fl n xs with
    | nil => rw [hf] at hu; simp at hu
    | cons u' r =>
     rw [hf] at hu
     simp at hu
     subst hu
     have := fl_bdry hG hx u' r hf
     have h3 := beh_in hp u'.1.way
     rw [hat.1, ← this, hat.2] at h3
     omega
   refine ⟨⟨fun ⟨h1, h2⟩ => ?_, fun ⟨u, hu, hat⟩ => absurd hat (no u hu)⟩, fun u hu hat => absurd hat (no u hu)⟩
   have h3 := (spot_at (n := n) h1).1 h2
   have h4 := beh_in hp s.way
   omega
 ·rw [if_neg h0]
  obtain ⟨k, hk, ek, hk1, hk2⟩ := takeLen_take n (a : Int) xs (behind n s)
  rw [ek, tail_mid]
  dsimp only
  have hxk : ∀ x ∈ xs.take k, StepOk n x := fun x h => hx x (List.mem_of_mem_take h)
  have hen : (a : Int) ≤ behind n s + sumLen n (xs.take k) := by
   rcases hk2 with rfl | h
   ·rw [List.take_length]; exact ha
   ·exact h
  have hst : StepOk n (lastOf ⟨s.piece, s.way⟩ (xs.take k)) := lastOf_ok ⟨hs.1, hs.2.1⟩ hxk
  obtain ⟨b, hb⟩ : ∃ b, behind n s - (a : Int) + sumLen n (xs.take k) = b := ⟨_, rfl⟩
  rw [hb]
  -- the place, where b is not 0
  have hget : 0 < b → (bu n s xs)[a]? = some (lastOf ⟨s.piece, s.way⟩ (xs.take k), b) := fun hbp => by
   rcases Nat.eq_zero_or_pos k with rfl | hkp
   ·simp only [List.take_zero, sumLen_nil, lastOf] at hb ⊢
    rw [bu_eq, List.getElem?_append_left (by rw [down_len]; omega), down_get _ _ _ (by omega)]
    congr 2
    omega
   ·obtain ⟨k', rfl⟩ : ∃ k', k = k' + 1 := ⟨k - 1, by omega⟩
    have ht := hk1 k' (by omega)
    have hnn := sumLen_nonneg hG (xs := xs.take k') (fun y hy => hx y (List.mem_of_mem_take hy))
    rw [sumLen_take n xs k' (by omega)] at hb
    rw [lastOf_take _ _ _ (by omega), bu_eq, List.getElem?_append_right (by rw [down_len]; omega), down_len]
    have := fl_get hG hx k' (by omega) (a - (behind n s).toNat - (sumLen n (xs.take k')).toNat) (by omega)
    rw [show (sumLen n (xs.take k')).toNat + (a - (behind n s).toNat - (sumLen n (xs.take k')).toNat) = a - (behind n s).toNat by omega] at this
    rw [this]
    congr 2
    omega
  have hno : ¬ 0 < b → ∀ u, (bu n s xs)[a]? = some u → ¬ AtU n p u := fun hbn u hu hat => by
   have hbz : b = 0 := by omega
   have hnn := sumLen_nonneg hG hxk
   have hbd : u.2 = lenOf n u.1.piece := by
    rw [bu_eq, List.getElem?_append_right (by rw [down_len]; omega), down_len] at hu
    by_cases hkl : k < xs.length
    ·have h1 := hx xs[k] (List.getElem_mem hkl)
     have hl := hG.len h1.1.1 h1.1.2
     have := fl_get hG hx k hkl 0 (by simp; omega)
     rw [show (sumLen n (xs.take k)).toNat + 0 = a - (behind n s).toNat by omega, hu] at this
     cases this
     simp
    ·have := fl_len hG hx
     rw [show k = xs.length by omega, List.take_length] at hb
     rw [List.getElem?_eq_none (by omega)] at hu
     cases hu
   have h3 := beh_in hp u.1.way
   rw [hat.1, ← hbd, hat.2] at h3
   omega
  by_cases hbp : 0 < b
  ·have hg := hget hbp
   rw [hg]
   constructor
   ·constructor
    ·rintro ⟨h1, h2⟩
     exact ⟨_, rfl, h1.symm, (spot_by hst h1).1 h2⟩
    ·rintro ⟨u, hu, h1, h2⟩
     cases hu
     exact ⟨h1.symm, (spot_by hst h1.symm).2 h2⟩
   ·intro u hu _
    cases hu
    rfl
  ·refine ⟨⟨fun ⟨h1, h2⟩ => ?_, fun ⟨u, hu, hat⟩ => absurd hat (hno hbp u hu)⟩, fun u hu hat => absurd hat (hno hbp u hu)⟩
   have h3 := (spot_by hst h1).1 h2
   have h4 := beh_in hp (lastOf ⟨s.piece, s.way⟩ (xs.take k)).way
   omega

def hitsAt (n : Nt) (qs : List (Int × Int)) (k : Int) (o : Option (St × Int)) : List (Int × Int × Int) :=
 match o with
 | none => []
 | some u => qs.zipIdx.filterMap fun (p, i) => if AtU n p u then some (k, (i : Int), u.1.way) else none
def outS (n : Nt) (qs : List (Int × Int)) (ax : List Int) (B0 : List (St × Int)) : List (St × Int) → List (Int × Int × Int)
 | [] => []
 | u :: us => outS n qs ax B0 us ++ ax.flatMap fun a => hitsAt n qs ((us.length : Int) + 1) ((u :: us ++ B0)[a.toNat]?)
theorem not_twice {n : Nt} {l : List (St × Int)} (h : NxtAll n l) {i : Nat} {u v : St × Int} (hu : l[i]? = some u) (hv : l[i + 1]? = some v) {p : Int × Int} (hp : PostOk n p) (hat : AtU n p u) : ¬ AtU n p v := fun hav => by
 rcases h.get hu hv with ⟨e1, e2, _⟩ | ⟨_, e2⟩
 ·have h1 := hat.2
  have h2 := hav.2
  rw [e1] at h2
  omega
 ·have h3 := beh_in hp v.1.way
  rw [hav.1, hav.2, e2] at h3
  omega

end Go.Proofs.YtjacbppeebnjfaaGreat

