import Derived.Test.YthdioeofdofleaaGreatDoorQ1
set_option linter.unusedSimpArgs false
namespace Go.Proofs.YthdioeofdofleaaGreatDoor
open Go.RowKit
variable {n : Nt} {zs : List Int} {long lo hi : Int} {s0 s : Sp} {xs0 xs : List St} {c : Nat} {m0 m : Mv} {sx : List Sx}
def down (x : St) : Nat -> List (St × Int)
 | 0 => []
 | b + 1 => (x, ((b + 1 : Nat) : Int)) :: down x b
inductive UC (n : Nt) (zs : List Int) (long : Int) (s0 : Sp) (xs0 : List St) : Nat -> List (St × Int) -> Sp -> List St -> Prop
 | nil : UC n zs long s0 xs0 0 [] s0 xs0
 | roll {c : Nat} {us : List (St × Int)} {s : Sp} {xs : List St} : UC n zs long s0 xs0 c us s xs -> 0 < Zl n s -> UC n zs long s0 xs0 (c + 1) ((⟨s.piece, s.way⟩, zm n s + 1) :: us) ⟨s.piece, s.at_ + s.way * 1, s.way⟩ (zB n long (zm n s + 1) xs)
 | enter {c : Nat} {us : List (St × Int)} {s : Sp} {xs : List St} {i : Nat} {e : Ed} : UC n zs long s0 xs0 c us s xs -> Zl n s = 0 -> Xj n zs s i (e, 0) -> xs.length < 200 -> UC n zs long s0 xs0 (c + 1) us (zU n e) (⟨s.piece, s.way⟩ :: xs)
theorem UC.spot (hG : zr n) {us : List (St × Int)} (h : UC n zs long s0 xs0 c us s xs) (hs : Zt n s0) (hx : ∀ x ∈ xs0, zy n x) : Zt n s /\ ∀ x ∈ xs, zy n x := by
 induction h with
 | nil => exact ⟨hs, hx⟩
 | roll _ hr ih =>
  refine ⟨(by_ok ih.1 (show (0 : Int) <= 1 by omega) (by omega)).1, fun x h => ?_⟩
  obtain ⟨k, _, e, _⟩ := xj n long _ _ |> fun h => h
  rw [e] at h;exact ih.2 x (List.mem_of_mem_take h)
 | enter _ _ ha _ ih =>
  refine ⟨(Yv hG (YQ hG ha)).1, fun x h => ?_⟩
  rcases List.mem_cons.1 h with rfl | h
  ·exact ⟨ih.1.1, ih.1.2.1⟩
  ·exact ih.2 x h
theorem UC.trans {s1 s2 : Sp} {xs1 xs2 : List St} {d : Nat} {us vs : List (St × Int)} (h : UC n zs long s0 xs0 c us s1 xs1) (g : UC n zs long s1 xs1 d vs s2 xs2) : UC n zs long s0 xs0 (c + d) (vs ++ us) s2 xs2 := by
 induction g with
 | nil => exact h
 | roll _ hr ih => exact .roll ih hr
 | enter _ hr ha hl ih => exact .enter ih hr ha hl
theorem UC.split {us : List (St × Int)} (h : UC n zs long s0 xs0 c us s xs) : ∀ k d, c = k + d -> ∃ us1 us2 s1 xs1, UC n zs long s0 xs0 k us1 s1 xs1 /\ UC n zs long s1 xs1 d us2 s xs /\ us = us2 ++ us1 := by
 induction h with
 | nil =>
  intro k d e
  obtain ⟨rfl, rfl⟩ : k = 0 /\ d = 0 := by omega
  exact ⟨[], [], _, _, .nil, .nil, rfl⟩
 | @roll c us s xs h hr ih =>
  intro k d e
  rcases Nat.eq_zero_or_pos d with rfl | hd
  ·obtain rfl : k = c + 1 := by omega
   exact ⟨_, [], _, _, .roll h hr, .nil, rfl⟩
  ·obtain ⟨d', rfl⟩ : ∃ d', d = d' + 1 := ⟨d - 1, by omega⟩;obtain ⟨us1, us2, s1, xs1, h1, h2, rfl⟩ := ih k d' (by omega);exact ⟨us1, _, s1, xs1, h1, .roll h2 hr, rfl⟩
 | @enter c us s xs i e' h hr ha hl ih =>
  intro k d e
  rcases Nat.eq_zero_or_pos d with rfl | hd
  ·obtain rfl : k = c + 1 := by omega
   exact ⟨_, [], _, _, .enter h hr ha hl, .nil, rfl⟩
  ·obtain ⟨d', rfl⟩ : ∃ d', d = d' + 1 := ⟨d - 1, by omega⟩;obtain ⟨us1, us2, s1, xs1, h1, h2, rfl⟩ := ih k d' (by omega);exact ⟨us1, _, s1, xs1, h1, .enter h2 hr ha hl, rfl⟩
theorem UC.unique (hG : zr n) (hs : Zt n s0) (hx : ∀ x ∈ xs0, zy n x) {us : List (St × Int)} (h : UC n zs long s0 xs0 c us s xs) : ∀ {us' : List (St × Int)} {s' : Sp} {xs' : List St}, UC n zs long s0 xs0 c us' s' xs' -> us = us' /\ s = s' /\ xs = xs' := by
 induction h with
 | nil => intro us' s' xs' g; cases g; exact ⟨rfl, rfl, rfl⟩
 | roll _ hr ih =>
  intro us' s' xs' g
  cases g with
  | roll g' _ => obtain ⟨rfl, rfl, rfl⟩ := ih g'; exact ⟨rfl, rfl, rfl⟩
  | enter g' hr' _ _ => obtain ⟨rfl, rfl, rfl⟩ := ih g'; omega
 | enter h hr ha hl ih =>
  intro us' s' xs' g
  cases g with
  | roll g' hr' => obtain ⟨rfl, rfl, rfl⟩ := ih g'; omega
  | enter g' _ ha' _ =>
   obtain ⟨rfl, rfl, rfl⟩ := ih g';obtain ⟨_, e⟩ := Xj.unique hG (h.spot hG hs hx).1 ha ha'
   cases e
   exact ⟨rfl, rfl, rfl⟩

def Nxt (n : Nt) (a b : St × Int) : Prop := (b.1 = a.1 /\ b.2 = a.2 - 1 /\ 1 <= b.2) \/ (a.2 = 1 /\ b.2 = lenOf n b.1.piece)
def NxtAll (n : Nt) : List (St × Int) -> Prop
 | [] => True
 | [_] => True
 | a :: b :: r => Nxt n a b /\ NxtAll n (b :: r)
theorem NxtAll.get {n : Nt} : ∀ {l : List (St × Int)}, NxtAll n l -> ∀ {i : Nat} {a b : St × Int}, l[i]? = some a -> l[i + 1]? = some b -> Nxt n a b
 | [], _, i, a, b, h, _ => by simp at h
 | [x], _, i, a, b, _, h => by simp at h
 | x :: y :: r, hn, 0, a, b, h, g => by simp at h g; subst h g; exact hn.1
 | x :: y :: r, hn, i + 1, a, b, h, g => NxtAll.get hn.2 (i := i) (by simpa using h) (by simpa using g)
def fl (n : Nt) (xs : List St) : List (St × Int) := xs.flatMap fun x => down x (lenOf n x.piece).toNat
theorem behind_nonneg (hs : Zt n s) : 0 <= zm n s := by
 have := hs.2.2;unfold zm Zl
 split <;> omega

def unR (x : Sx) : List (St × Int) := (down x.step x.high.toNat).take (x.high - x.low).toNat
def ur (sx : List Sx) : List (St × Int) := sx.reverse.flatMap unR
theorem ur_snoc (sx : List Sx) (x : Sx) : ur (sx ++ [x]) = unR x ++ ur sx := by simp [ur]
theorem roll_uc {us : List (St × Int)} (h : UC n zs long s0 xs0 c us s xs) (hs : Zt n s) : ∀ r : Nat, (r : Int) + 1 <= Zl n s →
  UC n zs long s0 xs0 (c + (r + 1)) ((down ⟨s.piece, s.way⟩ ((zm n s).toNat + (r + 1))).take (r + 1) ++ us) ⟨s.piece, s.at_ + s.way * ((r : Int) + 1), s.way⟩ (zB n long (zm n s + ((r : Int) + 1)) xs) := by
 intro r;have hb0 := behind_nonneg hs
 induction r with
 | zero =>
  intro hr;have g := UC.roll h (show 0 < Zl n s by omega)
  have e : down ⟨s.piece, s.way⟩ ((zm n s).toNat + (0 + 1)) = (⟨s.piece, s.way⟩, zm n s + 1) :: down ⟨s.piece, s.way⟩ (zm n s).toNat := by
   show down ⟨s.piece, s.way⟩ ((zm n s).toNat + 1) = _
   rw [down]
   congr 2
   omega
  rw [e]
  simpa using g
 | succ r ih =>
  intro hr;have g := ih (by omega);obtain ⟨_, e2, e3⟩ := by_ok hs (show (0 : Int) <= (r : Int) + 1 by omega) (by omega);have g' := UC.roll g (by rw [e3]; omega);rw [e2, takeLen_twice (by omega)] at g';dsimp only at g'
  have e : (down ⟨s.piece, s.way⟩ ((zm n s).toNat + (r + 1 + 1))).take (r + 1 + 1) = (⟨s.piece, s.way⟩, zm n s + ((r : Int) + 1) + 1) :: (down ⟨s.piece, s.way⟩ ((zm n s).toNat + (r + 1))).take (r + 1) := by
   show (down ⟨s.piece, s.way⟩ ((zm n s).toNat + (r + 1) + 1)).take (r + 1 + 1) = _
   rw [down, List.take_succ_cons]
   congr 2
   omega
  have e4 : s.at_ + s.way * ((r : Int) + 1) + s.way * 1 = s.at_ + s.way * (((r + 1 : Nat) : Int) + 1) := by
   rw [Int.add_assoc, ← Int.mul_add]
   congr 2
  have e5 : zm n s + ((r : Int) + 1) + 1 = zm n s + (((r + 1 : Nat) : Int) + 1) := by omega
  rw [e, List.cons_append, ← e4, ← e5];exact g'
def OvN (n : Nt) (zs : List Int) (long : Int) (m m2 : Mv) (lo hi : Int) : Prop :=
 m2.over = m.over ++ (if lo < hi then [Zs n ⟨m.s.piece, m.s.way⟩ lo hi] else []) /\ ∀ s0 xs0 c us, UC n zs long s0 xs0 c us m.s m.xs -> ∃ c', UC n zs long s0 xs0 c' (unR ⟨⟨m.s.piece, m.s.way⟩, lo, hi⟩ ++ us) m2.s m2.xs
def OvS (n : Nt) (zs : List Int) (long : Int) (m0 m : Mv) (sx : List Sx) : Prop := Zw n sx = m.over /\ ∃ c, UC n zs long m0.s m0.xs c (ur sx) m.s m.xs
theorem OvS.snoc {m2 : Mv} (h : OvS n zs long m0 m sx) (g : OvN n zs long m m2 lo hi) : OvS n zs long m0 m2 (sx ++ [⟨⟨m.s.piece, m.s.way⟩, lo, hi⟩]) := by
 obtain ⟨h1, c, h2⟩ := h;refine ⟨by rw [Xa, h1, g.1], ?_⟩;rw [ur_snoc];exact g.2 _ _ c _ h2
theorem OvS.enter {i : Nat} {e : Ed} (h : OvS n zs long m0 m sx) (hr : Zl n m.s = 0) (ha : Xj n zs m.s i (e, 0)) (hl : m.xs.length < 200) : OvS n zs long m0 (Yj n m e) sx := by
 obtain ⟨h1, c, h2⟩ := h;exact ⟨h1, c + 1, .enter h2 hr ha hl⟩
theorem ovN_roll (hG : zr n) {F : Int} (hM : xQ n long F m) (hlt : zm n m.s < Zb n m.s (F - m.far)) : OvN n zs long m (rollM n long F m) (zm n m.s) (Zb n m.s (F - m.far)) := by
 have hf := hM.farF;have hb0 := behind_nonneg hM.spot;have hb : zm n m.s = lenOf n m.s.piece - Zl n m.s := rfl;obtain ⟨g1, g2, g3, g4⟩ := vU hG hM.spot (show (0 : Int) <= F - m.far by omega);refine ⟨by rw [if_pos hlt]; rfl, fun s0 xs0 c us h => ?_⟩;obtain ⟨r, hr⟩ : ∃ r : Nat, Zb n m.s (F - m.far) - zm n m.s = (r : Int) + 1 := ⟨(Zb n m.s (F - m.far) - zm n m.s - 1).toNat, by omega⟩;have g := roll_uc h hM.spot r (by omega);refine ⟨c + (r + 1), ?_⟩
 have e1 : unR ⟨⟨m.s.piece, m.s.way⟩, zm n m.s, Zb n m.s (F - m.far)⟩ = (down ⟨m.s.piece, m.s.way⟩ ((zm n m.s).toNat + (r + 1))).take (r + 1) := by
  unfold unR;dsimp only;rw [show (Zb n m.s (F - m.far)).toNat = (zm n m.s).toNat + (r + 1) by omega, show (Zb n m.s (F - m.far) - zm n m.s).toNat = r + 1 by omega]
 have e2 : (rollM n long F m).s = ⟨m.s.piece, m.s.at_ + m.s.way * ((r : Int) + 1), m.s.way⟩ := by
  unfold rollM Zo;dsimp only;rw [hr]
 have e3 : (rollM n long F m).xs = zB n long (zm n m.s + ((r : Int) + 1)) m.xs := by
  show zB n long (zm n (Zo n m.s (F - m.far))) m.xs = _
  rw [(vT hG hM.spot (show (0 : Int) <= F - m.far by omega)).2]
  congr 1
  omega
 rw [e1, e2, e3];exact g
theorem ovN_none (m : Mv) (h : ¬ lo < hi) : OvN n zs long m m lo hi := by
 refine ⟨by rw [if_neg h, List.append_nil], fun s0 xs0 c us h' => ⟨c, ?_⟩⟩
 have e : unR ⟨⟨m.s.piece, m.s.way⟩, lo, hi⟩ = [] := by
  unfold unR;dsimp only;rw [show (hi - lo).toNat = 0 by omega, List.take_zero]
 rw [e];exact h'
end Go.Proofs.YthdioeofdofleaaGreatDoor
