import Derived.Test.YthdioeofdofleaaGreatDoorMKt22
import Derived.Test.YthdioeofdofleaaGreatDoorMReadBy
import Derived.Test.YthdioeofdofleaaGreatDoorMKt27
import Derived.Test.YthdioeofdofleaaGreatDoorMSpec12
namespace Go.Proofs.YthdioeofdofleaaGreatDoor
open Go.RowKit
variable {n : Nt} {zs : List Int} {s : Sp} {i : Nat} {long F left code joint : Int} {e : Ed}
structure Mv where
 s : Sp
 xs : List St
 far : Int
 over : List Pt

variable {a c m b : Mv}
def Zo (n : Nt) (s : Sp) (left : Int) : Sp := ⟨s.piece, s.at_ + s.way * (Zb n s left - zm n s), s.way⟩
def rollM (n : Nt) (long F : Int) (m : Mv) : Mv :=
 ⟨Zo n m.s (F - m.far), zB n long (zm n (Zo n m.s (F - m.far))) m.xs, m.far + (Zb n m.s (F - m.far) - zm n m.s), m.over ++ [Zs n ⟨m.s.piece, m.s.way⟩ (zm n m.s) (Zb n m.s (F - m.far))]⟩
def Yj (n : Nt) (m : Mv) (e : Ed) : Mv := ⟨zU n e, ⟨m.s.piece, m.s.way⟩ :: m.xs, m.far, m.over⟩
def Xj (n : Nt) (zs : List Int) (s : Sp) (i : Nat) (r : Ed × Int) : Prop := ∃ k, zX n.joints (hd s.piece s.way) i k /\ vO n zs i k r
theorem Xj.unique (hG : zr n) (hs : Zt n s) {j : Nat} {r q : Ed × Int} (h : Xj n zs s i r) (g : Xj n zs s j q) : i = j /\ r = q := by
 obtain ⟨k, h1, h2⟩ := h;obtain ⟨k', g1, g2⟩ := g;obtain ⟨rfl, rfl⟩ := zQ (hG.hd hs.1.1 hs.1.2 s.way) h1 g1;obtain ⟨a, b, e⟩ := h2;obtain ⟨c, d, f⟩ := g2;exact ⟨rfl, e.symm.trans f⟩

inductive uq (n : Nt) (zs : List Int) (long F : Int) : Mv -> Mv -> Prop
 | roll {m : Mv} : m.far < F -> 0 < Zl n m.s -> uq n zs long F m (rollM n long F m)
 | enter {m : Mv} {i : Nat} {e : Ed} : m.far < F -> Zl n m.s = 0 -> Xj n zs m.s i (e, 0) -> m.xs.length < 200 -> uq n zs long F m (Yj n m e)
inductive xu (n : Nt) (zs : List Int) (long F : Int) (m0 : Mv) : Mv -> Prop
 | start : xu n zs long F m0 m0
 | step {m m' : Mv} : xu n zs long F m0 m -> uq n zs long F m m' -> xu n zs long F m0 m'
def MEnd (n : Nt) (zs : List Int) (F : Int) (m : Mv) (code joint : Int) : Prop :=
 (m.far = F /\ code = 0 /\ joint = -1) \/ (m.far < F /\ Zl n m.s = 0 /\ ∃ i r, Xj n zs m.s i r /\ ((r.2 ≠ 0 /\ code = r.2 /\ joint = i) \/ (r.2 = 0 /\ m.xs.length = 200 /\ code = 6 /\ joint = i)))

theorem xu.head (h : xu n zs long F a c) : a = c \/ ∃ b, uq n zs long F a b /\ xu n zs long F b c := by
 induction h with
 | start => exact Or.inl rfl
 | step h1 h2 ih =>
  rcases ih with rfl | ⟨b, hb, hc⟩
  ·exact Or.inr ⟨_, h2, .start⟩
  ·exact Or.inr ⟨b, hb, .step hc h2⟩

structure xQ (n : Nt) (long F : Int) (m : Mv) : Prop where
 spot : Zt n m.s
 steps : ∀ x ∈ m.xs, zy n x
 len : m.xs.length <= 200
 trim : ∀ j, j < m.xs.length -> zm n m.s + zN n (m.xs.take j) < long
 enough : long <= zm n m.s + zN n m.xs
 far0 : 0 <= m.far
 farF : m.far <= F
 over : (m.over.length : Int) <= m.far

theorem vU (hG : zr n) (hs : Zt n s) (h0 : 0 <= left) : zm n s <= Zb n s left /\ Zb n s left <= lenOf n s.piece /\ Zb n s left - zm n s <= left /\ (0 < Zl n s -> 0 < left -> zm n s < Zb n s left) := by
 have hlen := hG.len hs.1.1 hs.1.2;have h3 := hs.2.2;have hb : zm n s = lenOf n s.piece - Zl n s := rfl
 have hr : 0 <= Zl n s := by unfold Zl; split <;> omega
 unfold Zb
 split <;> omega

theorem vT (hG : zr n) (hs : Zt n s) (h0 : 0 <= left) : Zt n (Zo n s left) /\ zm n (Zo n s left) = Zb n s left := by
 have hlen := hG.len hs.1.1 hs.1.2;obtain ⟨h1, h2, _⟩ := vU hG hs h0;have h3 := hs.2.2;obtain ⟨r, hr⟩ : ∃ r, Zb n s left = r := ⟨_, rfl⟩;rw [hr] at h1 h2;unfold Zo Zt;rw [hr];unfold zm Zl at h1 ⊢;dsimp only
 rcases hs.2.1 with hy | hy
 ·rw [hy] at h1 ⊢;simp only [if_true] at h1 ⊢;exact ⟨⟨hs.1, by simp, by omega, by omega⟩, by omega⟩
 ·rw [hy] at h1 ⊢;simp only [show ¬ (-1 : Int) = 1 by decide, if_false] at h1 ⊢;exact ⟨⟨hs.1, by simp, by omega, by omega⟩, by omega⟩

theorem Vk (hG : zr n) {xs : List St} (h : ∀ x ∈ xs, zy n x) : 0 <= zN n xs := by
 induction xs with
 | nil => simp [zM]
 | cons x r ih =>
  have := ih (fun y hy => h y (List.mem_cons_of_mem _ hy));have h1 := h x List.mem_cons_self;have := hG.len h1.1.1 h1.1.2;rw [zH];omega

theorem Yv (hG : zr n) (he : zK n.pieces.length e) : Zt n (zU n e) /\ zm n (zU n e) = 0 /\ (zU n e).piece = e.piece := by
 have hlen := hG.len he.1.1 he.1.2;unfold zU
 split
 ·refine ⟨⟨he.1, Or.inl rfl, ?_⟩, ?_, rfl⟩
  ·dsimp only; omega
  ·simp [zm, Zl]
 ·refine ⟨⟨he.1, Or.inr rfl, ?_⟩, ?_, rfl⟩
  ·dsimp only; omega
  ·simp [zm, Zl]

theorem YQ (hG : zr n) (h : Xj n zs s i (e, 0)) : zK n.pieces.length e := by
 obtain ⟨k, ⟨h1, h2, _⟩, h4, h5, h6⟩ := h;exact Vw hG h1 h2 h6 rfl

theorem UN (h : Zl n s = 0) : zm n s = lenOf n s.piece := by unfold zm; omega

theorem rollM_ok (hG : zr n) (h : xQ n long F m) (hf : m.far < F) (hr : 0 < Zl n m.s) : xQ n long F (rollM n long F m) := by
 obtain ⟨h1, h2⟩ := vT hG h.spot (show (0 : Int) <= F - m.far by omega);obtain ⟨g1, g2, g3, g4⟩ := vU hG h.spot (show (0 : Int) <= F - m.far by omega);have g5 := g4 hr (by omega);obtain ⟨k, k1, k2, k3, k4⟩ := xj n long m.xs (zm n (Zo n m.s (F - m.far)));have h0 := h.far0;have ho := h.over;have he := h.enough;unfold rollM;refine ⟨h1, ?_, ?_, ?_, ?_, ?_, ?_, ?_⟩
 ·dsimp only;rw [k2]
  exact fun x hx => h.steps x (List.mem_of_mem_take hx)
 ·dsimp only;rw [k2, List.length_take];have := h.len;omega
 ·dsimp only;rw [k2];intro j hj;rw [List.length_take] at hj;rw [List.take_take, show min j k = j by omega];exact k3 j (by omega)
 ·dsimp only;rw [k2]
  rcases k4 with k4 | k4
  ·rw [k4, List.take_length, h2];omega
  ·exact k4
 ·dsimp only; omega
 ·dsimp only; omega
 ·dsimp only;rw [List.length_append]
  simp
  omega

theorem enterM_ok (hG : zr n) (hl : 0 < long) (h : xQ n long F m) (hr : Zl n m.s = 0) (ha : Xj n zs m.s i (e, 0)) (hx : m.xs.length < 200) : xQ n long F (Yj n m e) := by
 obtain ⟨h1, h2, _⟩ := Yv hG (YQ hG ha);have hb := UN hr;have he := h.enough;unfold Yj;refine ⟨h1, ?_, ?_, ?_, ?_, h.far0, h.farF, h.over⟩
 ·intro x hx
  rcases List.mem_cons.1 hx with rfl | hx
  ·exact ⟨h.spot.1, h.spot.2.1⟩
  ·exact h.steps x hx
 ·simp; omega
 ·dsimp only;intro j hj;rw [h2]
  cases j with
  | zero => simp [zM]; exact hl
  | succ j =>
   rw [List.take_succ_cons, zH];dsimp only;have := h.trim j (by simp at hj; omega);omega
 ·dsimp only;rw [h2, zH];dsimp only;omega

theorem xu.ok (hG : zr n) (hl : 0 < long) (h : xu n zs long F a b) (ha : xQ n long F a) : xQ n long F b := by
 induction h with
 | start => exact ha
 | step _ h2 ih =>
  cases h2 with
  | roll h3 h4 => exact rollM_ok hG ih h3 h4
  | enter h3 h4 h5 h6 => exact enterM_ok hG hl ih h4 h5 h6

theorem step_unique (hG : zr n) (ha : Zt n a.s) (h : uq n zs long F a b) (g : uq n zs long F a c) : b = c := by
 cases h with
 | roll h1 h2 =>
  cases g with
  | roll _ _ => rfl
  | enter _ g2 _ _ => omega
 | enter h1 h2 h3 h4 =>
  cases g with
  | roll _ g2 => omega
  | enter _ _ g3 _ =>
   have := (h3.unique hG ha g3).2
   simp at this
   rw [this]

theorem end_no (hG : zr n) (ha : Zt n a.s) (h : MEnd n zs F a code joint) : ¬ uq n zs long F a b := by
 intro g
 rcases h with ⟨h1, _⟩ | ⟨_, h2, i, r, h3, h4⟩
 ·cases g with
  | roll g1 _ => omega
  | enter g1 _ _ _ => omega
 ·cases g with
  | roll _ g2 => omega
  | enter _ _ g3 g4 =>
   obtain ⟨rfl, rfl⟩ := h3.unique hG ha g3
   rcases h4 with ⟨h5, _⟩ | ⟨_, h6, _⟩
   ·exact h5 rfl
   ·omega

theorem goes_on (hG : zr n) (hl : 0 < long) (ha : xQ n long F a) (h : xu n zs long F a b) (hb : ∀ x, ¬ uq n zs long F b x) (g : xu n zs long F a c) : xu n zs long F c b := by
 induction g with
 | start => exact h
 | step g1 g2 ih =>
  rcases ih.head with rfl | ⟨y, hy, hz⟩
  ·exact absurd g2 (hb _)
  ·rw [step_unique hG (g1.ok hG hl ha).spot g2 hy];exact hz

theorem end_unique (hG : zr n) (hl : 0 < long) (ha : xQ n long F a) {code' joint' : Int} (h : xu n zs long F a b) (hb : MEnd n zs F b code joint) (g : xu n zs long F a c) (hc : MEnd n zs F c code' joint') : b = c /\ code = code' /\ joint = joint' := by
 have hbs := (h.ok hG hl ha).spot;have hcs := (g.ok hG hl ha).spot
 have hbc : b = c := by
  rcases (goes_on hG hl ha h (fun x => end_no hG hbs hb) g).head with e | ⟨y, hy, _⟩
  ·exact e.symm
  ·exact absurd hy (end_no hG hcs hc)
 subst hbc;refine ⟨rfl, ?_⟩
 rcases hb with ⟨h1, rfl, rfl⟩ | ⟨h1, h2, i, r, h3, h4⟩ <;> rcases hc with ⟨g1, rfl, rfl⟩ | ⟨g1, g2, j, q, g3, g4⟩
 ·exact ⟨rfl, rfl⟩
 ·omega
 ·omega
 ·obtain ⟨rfl, rfl⟩ := h3.unique hG hbs g3
  rcases h4 with ⟨h5, rfl, rfl⟩ | ⟨h5, h6, rfl, rfl⟩ <;> rcases g4 with ⟨g5, rfl, rfl⟩ | ⟨g5, g6, rfl, rfl⟩
  ·exact ⟨rfl, rfl⟩
  ·exact absurd g5 h5
  ·exact absurd h5 g5
  ·exact ⟨rfl, rfl⟩

theorem vo : ∀ {xs : List St} {h : Int}, (∀ j, j < xs.length -> h + zN n (xs.take j) < long) -> zB n long h xs = xs := by
 intro xs
 induction xs with
 | nil => intro h _; rfl
 | cons x r ih =>
  intro h hx;have h0 := hx 0 (by simp)
  simp [zM] at h0
  rw [takeLen_in h0, ih (fun j hj => ?_)];have := hx (j + 1) (by simp; omega);rw [List.take_succ_cons, zH] at this;omega

theorem xQ.trimmed (h : xQ n long F m) : zB n long (zm n m.s) m.xs = m.xs := vo h.trim

theorem leave_take (hG : zr n) : ∀ (ys : List St) (h : Int), (∀ x ∈ ys, zy n x) -> 0 <= h -> long <= h + zN n ys.reverse →
  (yC n (h + zN n ys.reverse - long) ys).2.reverse = zB n long h ys.reverse /\ (yC n (h + zN n ys.reverse - long) ys).1 = h + zN n (zB n long h ys.reverse) - long := by
 intro ys
 induction ys with
 | nil =>
  intro h _ _ _
  simp [yC, zB]
 | cons x r ih =>
  intro h hok h0 hl;have hx := hok x List.mem_cons_self;have hlen := hG.len hx.1.1 hx.1.2
  have hr : ∀ y ∈ r, zy n y := fun y hy => hok y (List.mem_cons_of_mem _ hy)
  have hnn := Vk hG (xs := r.reverse) (fun y hy => hr y (List.mem_reverse.1 hy));rw [List.reverse_cons, yP, zH, zM] at hl ⊢;unfold yC;obtain ⟨k, k1, k2, k3, k4⟩ := xj n long (r.reverse ++ [x]) h
  by_cases hlt : h + (zN n r.reverse + (lenOf n x.piece + 0)) - long < lenOf n x.piece
  ·rw [if_pos hlt]
   have hall : zB n long h (r.reverse ++ [x]) = r.reverse ++ [x] := by
    refine vo fun j hj => ?_
    have hj' : j <= r.reverse.length := by simp at hj ⊢; omega
    rw [List.take_append_of_le_length hj']
    have h2 : 0 <= zN n (r.reverse.drop j) := Vk hG fun y hy => hr y (List.mem_reverse.1 (List.mem_of_mem_drop hy))
    have h3 : zN n r.reverse = zN n (r.reverse.take j) + zN n (r.reverse.drop j) := by rw [← yP, List.take_append_drop]
    omega
   rw [hall];refine ⟨by simp, ?_⟩;rw [yP, zH, zM]
  ·rw [if_neg hlt]
   have e : h + (zN n r.reverse + (lenOf n x.piece + 0)) - long - lenOf n x.piece = h + zN n r.reverse - long := by omega
   rw [e];obtain ⟨i1, i2⟩ := ih h hr h0 (by omega)
   have hsame : zB n long h (r.reverse ++ [x]) = zB n long h r.reverse := by
    obtain ⟨q, q1, q2, q3, q4⟩ := xj n long r.reverse h
    have hk : k = q := by
     rcases Nat.lt_trichotomy k q with hh | hh | hh
     ·exfalso
      have := q3 k hh;rw [← List.take_append_of_le_length (l₂ := [x]) (by omega)] at this
      rcases k4 with k4 | k4
      ·simp at k4 q1
       omega
      ·omega
     ·exact hh
     ·exfalso
      have hq := k3 q hh;rw [List.take_append_of_le_length q1] at hq
      rcases q4 with q4 | q4
      ·rw [q4, List.take_length] at hq;omega
      ·omega
    rw [k2, q2, hk, List.take_append_of_le_length q1]
   rw [hsame];exact ⟨i1, i2⟩

def Zg (n : Nt) (long : Int) (s : Sp) (xs : List St) : Int := zm n s + zN n xs - long

theorem roll_same (hG : zr n) (h : xQ n long F m) :
  (yC n (Zg n long m.s m.xs + (Zb n m.s (F - m.far) - zm n m.s)) m.xs.reverse).2.reverse = zB n long (zm n (Zo n m.s (F - m.far))) m.xs
  /\ (yC n (Zg n long m.s m.xs + (Zb n m.s (F - m.far) - zm n m.s)) m.xs.reverse).1 = Zg n long (Zo n m.s (F - m.far)) (zB n long (zm n (Zo n m.s (F - m.far))) m.xs) := by
 have hf := h.farF;have he := h.enough;obtain ⟨_, h2⟩ := vT hG h.spot (show (0 : Int) <= F - m.far by omega);obtain ⟨g1, _, _, _⟩ := vU hG h.spot (show (0 : Int) <= F - m.far by omega);have hb := ZY hG h.spot;obtain ⟨k1, k2⟩ := leave_take hG (long := long) m.xs.reverse (Zb n m.s (F - m.far)) (fun x hx => h.steps x (List.mem_reverse.1 hx)) (by omega) (by rw [List.reverse_reverse]; omega);rw [List.reverse_reverse] at k1 k2
 have e : Zg n long m.s m.xs + (Zb n m.s (F - m.far) - zm n m.s) = Zb n m.s (F - m.far) + zN n m.xs - long := by unfold Zg; omega
 rw [e, h2];refine ⟨k1, ?_⟩;rw [k2];unfold Zg;rw [h2]

theorem roll_none (hG : zr n) (h : xQ n long F m) (h0 : Zl n m.s = 0 \/ m.far = F) :
  Zb n m.s (F - m.far) = zm n m.s /\ Zo n m.s (F - m.far) = m.s /\ zB n long (zm n (Zo n m.s (F - m.far))) m.xs = m.xs := by
 have hf := h.farF;have hlen := hG.len h.spot.1.1 h.spot.1.2;have hb : zm n m.s = lenOf n m.s.piece - Zl n m.s := rfl
 have hr : 0 <= Zl n m.s := by have := h.spot.2.2; unfold Zl; split <;> omega
 have e : Zb n m.s (F - m.far) = zm n m.s := by
  unfold Zb
  rcases h0 with h0 | h0
  ·split <;> omega
  ·rw [h0]
   split <;> omega
 have e2 : Zo n m.s (F - m.far) = m.s := by
  unfold Zo;rw [e]
  simp
 exact ⟨e, e2, by rw [e2]; exact h.trimmed⟩

theorem roll_end (hG : zr n) {far : Int} (hs : Zt n s) (hf : far <= F) (h : far + (Zb n s (F - far) - zm n s) ≠ F) : Zl n (Zo n s (F - far)) = 0 := by
 obtain ⟨h1, h2⟩ := vT hG hs (show (0 : Int) <= F - far by omega);have h3 : zm n (Zo n s (F - far)) = lenOf n s.piece - Zl n (Zo n s (F - far)) := rfl;unfold Zb at h h2
 split at h <;> rename_i hc
 ·omega
 ·rw [if_neg hc] at h2;omega

theorem enterM_spare (hG : zr n) (hr : Zl n m.s = 0) (ha : Xj n zs m.s i (e, 0)) : Zg n long (Yj n m e).s (Yj n m e).xs = Zg n long m.s m.xs := by
 obtain ⟨_, h2, _⟩ := Yv hG (YQ hG ha);have hb := UN hr;unfold Zg Yj;dsimp only;rw [h2, zH];dsimp only;omega

theorem VC (he : zK n.pieces.length e) : zU n e = ⟨(trn (Vj e)).piece, if (trn (Vj e)).way = -1 then lenOf n (trn (Vj e)).piece else 0, (trn (Vj e)).way⟩ := by
 obtain ⟨_, h1, h2⟩ := he;unfold zU trn Vj;dsimp only
 by_cases h : e.side = 0
 ·simp [h]
 ·have : e.side = 1 := by omega
  simp [this]

set_option maxRecDepth 100000 in
set_option maxHeartbeats 4000000 in
theorem l3count_any (v tv : Value) (n : Nt) (t : Tr) (w : World) {L L' : Nat} (hv : zE L w v n) (htv : Vh L' w tv t) (hG : zr n) (hS : Zt n t.front) (hsteps : ∀ x ∈ t.back, zy n x) (h200 : t.back.length <= 1000) :
  Calls Tryz.prog 71 #[v, tv] w fun e w' => e = .returned (.int .i64 (zB n t.long (zm n t.front) t.back).length) /\ Below w.heap.size w w' := by
 have hvv := hv;have htt := htv;obtain ⟨x, c, ca, cc, rfl, hp, hj⟩ := hv;obtain ⟨ba, bc, rfl, hst⟩ := htv;have HST := zd hsteps;clear hsteps;go_enter Tryz.func71, Tryz.ntmps71;go_wp2_with fail;refine (YM _ _ n t _ (hvv.below ?_) (htt.below ?_) hG hS (za HST) h200).mono ?_
 ·exact bw0
 ·exact bw0
 rintro e w1 ⟨a, cap, rfl, hrow, hb1⟩;have hbw1 : Below w.heap.size w w1 := below_then bw0 hb1;clear hrow;go_wp2;go_ret;exact ⟨rfl, below_then hbw1 bw0⟩
end Go.Proofs.YthdioeofdofleaaGreatDoor
