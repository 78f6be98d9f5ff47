import Derived.Test.YtjacbppeebnjfaaGreatMSpec4
namespace Go.Proofs.YtjacbppeebnjfaaGreat

def overJ (j : Jt) (k : Nat) (lie : Int) : Ed × Int :=
  if j.kind = 2 then (endOf j (1 - k), 0)
  else if j.kind = 3 then
    (if lie = 0 then (⟨0, 0⟩, 2)
     else if k = 0 then (endOf j (if lie = 2 then 2 else 1), 0)
     else if k = (if lie = 2 then 2 else 1) then (endOf j 0, 0)
     else (⟨0, 0⟩, 3))
  else if j.kind = 4 then (endOf j (if k = 0 then 1 else if k = 1 then 0 else if k = 2 then 3 else 2), 0)
  else (⟨0, 0⟩, 1)

def Leads (n : Nt) (s ahead : St) (lie : Int) : Prop :=
  ∃ i k, ∃ h : i < n.joints.length, StandsAt n.joints (hd s.piece s.way) i k ∧ overJ n.joints[i] k lie = (hd ahead.piece (-ahead.way), 0)

theorem mem_across_iff {j : Jt} {k : Nat} {e : Ed} (hK : KindOk j.kind j.ends) (hk : k < j.ends.length) : e ∈ across j k ↔ overJ j k 1 = (e, 0) ∨ overJ j k 2 = (e, 0) := by
  obtain ⟨⟨h1, h4⟩, hl⟩ := hK
  have h5 : j.kind = 1 ∨ j.kind = 2 ∨ j.kind = 3 ∨ j.kind = 4 := by omega
  unfold across overJ
  rcases h5 with h | h | h | h
  · simp [h]
  · simp [h, eq_comm]
  · have hk3 : k = 0 ∨ k = 1 ∨ k = 2 := by omega
    rcases hk3 with rfl | rfl | rfl
    · simp [h, eq_comm]
    · simp [h, eq_comm]
    · simp [h, eq_comm]
  · simp [h, eq_comm]

theorem joined_iff {n : Nt} (hG : NetGood n) (s ahead : St) : Joined n s ahead ↔ Leads n s ahead 1 ∨ Leads n s ahead 2 := by
  constructor
  · rintro ⟨i, k, h, h1, h2⟩
    obtain ⟨_, hk, _⟩ := h1
    rcases (mem_across_iff (hG.kind h) hk).1 h2 with h3 | h3
    · exact Or.inl ⟨i, k, h, ⟨h, hk, by assumption⟩, h3⟩
    · exact Or.inr ⟨i, k, h, ⟨h, hk, by assumption⟩, h3⟩
  · rintro (⟨i, k, h, h1, h2⟩ | ⟨i, k, h, h1, h2⟩)
    all_goals
      obtain ⟨_, hk, _⟩ := h1
      refine ⟨i, k, h, ⟨h, hk, by assumption⟩, (mem_across_iff (hG.kind h) hk).2 ?_⟩
      first | exact Or.inl h2 | exact Or.inr h2

def sumLen (n : Nt) (xs : List St) : Int := (xs.map fun s => lenOf n s.piece).sum
theorem sumLen_nil (n : Nt) : sumLen n [] = 0 := rfl
theorem sumLen_cons (n : Nt) (x : St) (xs : List St) : sumLen n (x :: xs) = lenOf n x.piece + sumLen n xs := by simp [sumLen]
theorem sumLen_append (n : Nt) (xs ys : List St) : sumLen n (xs ++ ys) = sumLen n xs + sumLen n ys := by simp [sumLen]

def Took {σ : Type} (Nx : σ → Option (St × σ) → Prop) : σ → List St → σ → Prop
  | s, [], s' => s = s'
  | s, x :: r, s' => ∃ s1, Nx s (some (x, s1)) ∧ Took Nx s1 r s'

theorem Took.snoc {σ : Type} {Nx : σ → Option (St × σ) → Prop} {s s1 s2 : σ} {xs : List St} {x : St} (h : Took Nx s xs s1) (hx : Nx s1 (some (x, s2))) : Took Nx s (xs ++ [x]) s2 := by
  induction xs generalizing s with
  | nil => obtain rfl : s = s1 := h; exact ⟨s2, hx, rfl⟩
  | cons y r ih => obtain ⟨s', h1, h2⟩ := h; exact ⟨s', h1, ih h2⟩

structure Lays {σ : Type} (Nx : σ → Option (St × σ) → Prop) (n : Nt) (sp : Int) (s0 : σ) (xs : List St) (s : σ) : Prop where
  took : Took Nx s0 xs s
  neg : ∀ j, j < xs.length → sp + sumLen n (xs.take j) < 0
  ok : ∀ x ∈ xs, StepOk n x
  few : xs.length ≤ 200

def LayOk {σ : Type} (Nx : σ → Option (St × σ) → Prop) (n : Nt) (sp : Int) (s0 : σ) (xs : List St) (r : Int) : Prop :=
  ∃ s, Lays Nx n sp s0 xs s ∧ r = sp + sumLen n xs ∧ 0 ≤ r
def LayNo {σ : Type} (Nx : σ → Option (St × σ) → Prop) (n : Nt) (sp : Int) (s0 : σ) : Prop :=
  ∃ xs s, Lays Nx n sp s0 xs s ∧ sp + sumLen n xs < 0 ∧ (Nx s none ∨ xs.length = 200 ∧ ∃ y, Nx s (some y))

theorem Lays.nil {σ : Type} (Nx : σ → Option (St × σ) → Prop) (n : Nt) (sp : Int) (s0 : σ) : Lays Nx n sp s0 [] s0 :=
  ⟨rfl, fun j h => by simp at h, fun x h => by simp at h, by simp⟩

theorem Lays.snoc {σ : Type} {Nx : σ → Option (St × σ) → Prop} {n : Nt} {sp : Int} {s0 s1 s2 : σ} {xs : List St} {x : St} (h : Lays Nx n sp s0 xs s1) (hx : Nx s1 (some (x, s2))) (hok : StepOk n x) (hneg : sp + sumLen n xs < 0) (hfew : xs.length ≠ 200) : Lays Nx n sp s0 (xs ++ [x]) s2 := by
  refine ⟨h.took.snoc hx, fun j hj => ?_, fun y hy => ?_, ?_⟩
  · simp at hj
    by_cases e : j = xs.length
    · subst e
      simpa using hneg
    · have := h.neg j (by omega)
      rwa [List.take_append_of_le_length (by omega)]
  · rcases List.mem_append.1 hy with h1 | h1
    · exact h.ok y h1
    · obtain rfl : y = x := by simpa using h1
      exact hok
  · have := h.few
    simp
    omega

theorem took_take {σ : Type} {Nx : σ → Option (St × σ) → Prop} (hf : ∀ s a b, Nx s a → Nx s b → a = b) {s0 s s' : σ} {xs ys : List St} (h : Took Nx s0 xs s) (g : Took Nx s0 ys s') (hl : xs.length ≤ ys.length) :
    ∃ zs, ys = xs ++ zs ∧ Took Nx s zs s' := by
  induction xs generalizing s0 ys with
  | nil => obtain rfl : s0 = s := h; exact ⟨ys, rfl, g⟩
  | cons x r ih =>
    obtain ⟨s1, h1, h2⟩ := h
    match ys, g, hl with
    | y :: q, g, hl =>
      obtain ⟨t1, g1, g2⟩ := g
      have := hf _ _ _ h1 g1
      simp at this
      obtain ⟨rfl, rfl⟩ := this
      obtain ⟨zs, hz, ht⟩ := ih h2 g2 (by simpa using hl)
      exact ⟨zs, by simp [hz], ht⟩

theorem layOk_unique {σ : Type} {Nx : σ → Option (St × σ) → Prop} (hf : ∀ s a b, Nx s a → Nx s b → a = b) {n : Nt} {sp : Int} {s0 : σ} {xs ys : List St} {r q : Int} (h : LayOk Nx n sp s0 xs r) (g : LayOk Nx n sp s0 ys q) : xs = ys ∧ r = q := by
  obtain ⟨s, hl, hr, h0⟩ := h
  obtain ⟨s', gl, gr, g0⟩ := g
  have key : xs = ys := by
    rcases Nat.lt_trichotomy xs.length ys.length with hlt | heq | hgt
    · obtain ⟨zs, rfl, _⟩ := took_take hf hl.took gl.took (by omega)
      have := gl.neg xs.length hlt
      simp at this
      omega
    · obtain ⟨zs, rfl, _⟩ := took_take hf hl.took gl.took (by omega)
      simp at heq
      simp [heq]
    · obtain ⟨zs, rfl, _⟩ := took_take hf gl.took hl.took (by omega)
      have := hl.neg ys.length hgt
      simp at this
      omega
  subst key
  exact ⟨rfl, by omega⟩

theorem layOk_no {σ : Type} {Nx : σ → Option (St × σ) → Prop} (hf : ∀ s a b, Nx s a → Nx s b → a = b) {n : Nt} {sp : Int} {s0 : σ} {xs : List St} {r : Int} (h : LayOk Nx n sp s0 xs r) : ¬ LayNo Nx n sp s0 := by
  rintro ⟨ys, s', gl, g0, gend⟩
  obtain ⟨s, hl, hr, h0⟩ := h
  rcases Nat.lt_or_ge ys.length xs.length with hlt | hge
  · obtain ⟨zs, rfl, ht⟩ := took_take hf gl.took hl.took (by omega)
    match zs, ht, hlt with
    | z :: q, ht, _ =>
      obtain ⟨s1, h1, _⟩ := ht
      rcases gend with g1 | ⟨g1, _⟩
      · have := hf _ _ _ h1 g1
        simp at this
      · have := hl.few
        simp at this
        omega
    | [], _, hlt => simp at hlt
  · obtain ⟨zs, rfl, ht⟩ := took_take hf hl.took gl.took (by omega)
    by_cases e : zs = []
    · subst e
      simp at g0
      omega
    · have : 0 < zs.length := List.length_pos_iff.2 e
      have := gl.neg xs.length (by simp; omega)
      simp at this
      omega

def NxTold (n : Nt) (s : St × List St) (r : Option (St × (St × List St))) : Prop :=
  (r = none ∧ (s.2 = [] ∨ ∃ x q, s.2 = x :: q ∧ ¬ (StepOk n x ∧ Joined n x s.1))) ∨ ∃ x q, s.2 = x :: q ∧ StepOk n x ∧ Joined n x s.1 ∧ r = some (x, (x, q))

theorem told_took {n : Nt} {long : Int} {xs : List St} : ∀ {have_ : Int} {s s' : St × List St}, Took (NxTold n) s xs s' → (∀ j, j < xs.length → have_ + sumLen n (xs.take j) < long) →
    s.2 = xs ++ s'.2 ∧ (BackOk n long have_ s.1 s.2 ↔ BackOk n long (have_ + sumLen n xs) s'.1 s'.2) := by
  induction xs with
  | nil =>
    intro have_ s s' h _
    obtain rfl : s = s' := h
    simp [sumLen_nil]
  | cons x r ih =>
    intro have_ s s' h hneg
    obtain ⟨s1, h1, h2⟩ := h
    rcases h1 with ⟨h1, _⟩ | ⟨y, q, hq, hok, hj, hs⟩
    · simp at h1
    · simp at hs
      obtain ⟨rfl, rfl⟩ := hs
      have h0 := hneg 0 (by simp)
      simp [sumLen_nil] at h0
      obtain ⟨e1, e2⟩ := ih (have_ := have_ + lenOf n x.piece) h2 (fun j hj' => by
        have := hneg (j + 1) (by simp; omega)
        simp [sumLen_cons] at this
        omega)
      dsimp only at e1 e2
      refine ⟨by rw [hq, e1]; rfl, ?_⟩
      rw [hq]
      simp only [BackOk]
      rw [sumLen_cons, ← Int.add_assoc, ← e2]
      exact ⟨fun h => h.2.2.2, fun h => ⟨hok, h0, hj, h⟩⟩

theorem told_ok {n : Nt} {t : Tr} {xs : List St} {r : Int} (h : LayOk (NxTold n) n (behind n t.front - t.long) (⟨t.front.piece, t.front.way⟩, t.back) xs r) :
    (xs.length = t.back.length ↔ BackOk n t.long (behind n t.front) ⟨t.front.piece, t.front.way⟩ t.back) ∧ (xs.length = t.back.length → xs = t.back) ∧ xs.length ≤ t.back.length := by
  obtain ⟨s, hl, hr, h0⟩ := h
  obtain ⟨e1, e2⟩ := told_took (long := t.long) (have_ := behind n t.front) hl.took (fun j hj => by have := hl.neg j hj; omega)
  dsimp only at e1 e2
  have hlen : t.back.length = xs.length + s.2.length := by rw [e1]; simp
  refine ⟨?_, fun h => ?_, by omega⟩
  · rw [e2]
    match hs : s.2 with
    | [] => simp only [BackOk]; exact ⟨fun _ => by omega, fun _ => by simp [hs] at hlen; omega⟩
    | y :: q => simp only [BackOk]; exact ⟨fun h => by simp [hs] at hlen; omega, fun h => by omega⟩
  · have : s.2 = [] := List.eq_nil_of_length_eq_zero (by omega)
    rw [e1, this]; simp

theorem told_no {n : Nt} {t : Tr} (h : LayNo (NxTold n) n (behind n t.front - t.long) (⟨t.front.piece, t.front.way⟩, t.back)) (hl200 : t.back.length ≤ 200) :
    ¬ BackOk n t.long (behind n t.front) ⟨t.front.piece, t.front.way⟩ t.back := by
  obtain ⟨xs, s, hl, h0, hend⟩ := h
  obtain ⟨e1, e2⟩ := told_took (long := t.long) (have_ := behind n t.front) hl.took (fun j hj => by have := hl.neg j hj; omega)
  dsimp only at e1 e2
  rw [e2]
  have hlen : t.back.length = xs.length + s.2.length := by rw [e1]; simp
  rcases hend with (⟨_, h1⟩ | ⟨x, q, _, _, _, h1⟩) | ⟨h1, y, h2⟩
  · rcases h1 with h1 | ⟨x, q, h1, h2⟩
    · rw [h1]
      simp only [BackOk]
      omega
    · rw [h1]
      simp only [BackOk]
      exact fun h => h2 ⟨h.1, h.2.2.1⟩
  · simp at h1
  · rcases h2 with ⟨h2, _⟩ | ⟨x, q, h2, _⟩
    · simp at h2
    · rw [h2] at hlen
      simp at hlen
      omega

end Go.Proofs.YtjacbppeebnjfaaGreat

namespace Go.Proofs.YtjacbppeebnjfaaGreat
open Go.RowKit

theorem Boxed.other {w : World} {N : Nat} {vs : List Value} (h : Boxed w N vs) {p : Addr} (hp : N ≠ p.block) (v : Value) : Boxed (w.setCell p v) N vs := by
 have hk := Below.heap_setCell w p v N hp
 exact ⟨by simpa [World.setCell] using h.1, fun i x hi => (World.cell?_of_block (w := w) (a := ⟨N, i, none⟩) hk).trans (h.2.1 i x hi), fun i => (World.frozen?_of_block (w := w) (a := ⟨N, i, none⟩) hk).trans (h.2.2 i)⟩
theorem Boxed.set2 {w : World} {N : Nat} {a b : Value} (h : Boxed w N [a, b]) (x y : Value) : Boxed ((w.setCell ⟨N, 0, none⟩ x).setCell ⟨N, 1, none⟩ y) N [x, y] := by
 have h0 := h.2.1 0 _ rfl
 have h1 := h.2.1 1 _ rfl
 have g1 : (w.setCell ⟨N, 0, none⟩ x).cell? ⟨N, 1, none⟩ = some b := by rw [World.cell?_setCell_other _ _ _ _ (by simp)]; exact h1
 refine ⟨by simpa [World.setCell] using h.1, fun i v hi => ?_, fun i => by simpa using h.2.2 i⟩
 match i, hi with
 | 0, hi =>
  rw [World.cell?_setCell_other _ _ _ _ (by simp), World.cell?_setCell_same _ _ _ h0]
  simpa using hi
 | 1, hi =>
  rw [World.cell?_setCell_same _ _ _ g1]
  simpa using hi

set_option maxRecDepth 100000 in
set_option maxHeartbeats 4000000 in
theorem l2train_any (v tv : Value) (n : Nt) (t : Tr) (w : World) {L L' : Nat} (hv : NetAt L w v n) (htv : TrAt L' w tv t) (hG : NetGood n) (hbl : t.back.length ≤ 1048576) :
  Calls Tryz.prog 36 #[v, tv] w fun e w' => RetB (TrainFits n t) e ∧ Below w.heap.size w w' := by
 have hvv := hv
 obtain ⟨x, c, ca, cc, rfl, hp, hj⟩ := hv
 obtain ⟨ba, bc, rfl, hst⟩ := htv
 obtain ⟨⟨fp, fa, fy⟩, long, back⟩ := t
 dsimp only at hst hbl ⊢
 have hnp := hG.np
 go_enter Tryz.func36, Tryz.ntmps36
 go_wp2_with fail
 refine (l2spot_any _ n ⟨fp, fa, fy⟩ _ (hvv.below bw0) (by omega)).mono ?_
 rintro e w1 ⟨⟨rfl, hr1⟩ | ⟨rfl, hr1⟩, hb1⟩
 rotate_left
 ·have hbw : Below w.heap.size w w1 := below_then bw0 hb1
  go_wp2
  go_ret
  exact ⟨retB_false fun h => hr1 h.1, hbw⟩
 have hbw1 : Below w.heap.size w w1 := below_then bw0 hb1
 have hBn1 : Boxed w1 w.heap.size [.slice x n.pieces.length ca, .slice c n.joints.length cc] := ((boxed_alloc w #[.slice x n.pieces.length ca, .slice c n.joints.length cc] 26).below bw0).below hb1
 have hBt1 : Boxed w1 (w.heap.size + 1) [.int .i64 fp, .int .i64 fa, .int .i64 fy, .int .i64 long, .slice ba back.length bc] := (boxedN _ #[.int .i64 fp, .int .i64 fa, .int .i64 fy, .int .i64 long, .slice ba back.length bc] 32 (N := w.heap.size + 1) (by simp)).below hb1
 have a0 := hBn1.2.1 0 _ rfl
 have a1 := hBn1.2.1 1 _ rfl
 have b0 := hBt1.2.1 0 _ rfl
 have b1 := hBt1.2.1 1 _ rfl
 have b2 := hBt1.2.1 2 _ rfl
 have b3 := hBt1.2.1 3 _ rfl
 have b4 := hBt1.2.1 4 _ rfl
 go_wp2_with fail
 refine (l1in_any _ _ _ _).mono ?_
 rintro e w1' ⟨⟨rfl, hr2⟩ | ⟨rfl, hr2⟩, rfl⟩
 rotate_left
 ·go_wp2
  go_ret
  exact ⟨retB_false fun h => hr2 h.2.1, hbw1⟩
 by_cases h200 : 200 < (back.length : Int)
 ·go_wp2
  go_ret
  exact ⟨retB_false fun h => by have := h.2.2.1; dsimp only at this; omega, hbw1⟩
 have h200b : decide (200 < (back.length : Int)) = false := by simpa using h200
 have hlen := hG.len hr1.1.1 hr1.1.2
 dsimp only at hlen
 go_wp2_with fail
 refine (l2behind_any _ n ⟨fp, fa, fy⟩ _ (hvv.below hbw1) hr1 hlen.2).mono ?_
 rintro e w3 ⟨rfl, hb3⟩
 have hbw3 := below_then hbw1 hb3
 have hBn3 := hBn1.below hb3
 have hBt3 := hBt1.below hb3
 clear a0 a1 b0 b1 b2 b3 b4
 have b0 := hBt3.2.1 0 _ rfl
 have b2 := hBt3.2.1 2 _ rfl
 have b4 := hBt3.2.1 4 _ rfl
 have n1 := hBn3.1
 have n2 := hBt3.1
 have hbeh : 0 ≤ behind n ⟨fp, fa, fy⟩ ∧ behind n ⟨fp, fa, fy⟩ ≤ 10000000 := by
  have h3 := hr1.2.2
  dsimp only at h3
  unfold behind room
  split <;> dsimp only <;> omega
 go_wp2_with fail
 go_loopw [5, 40] (fun y z wr => ∃ (k : Nat) (hv' : Int) (ah : St), k ≤ back.length ∧ z = .int .i64 k ∧ y = .int .i64 hv' ∧ (0 ≤ hv' ∧ hv' ≤ 10000000 + k * 10000000) ∧ StepOk n ah
   ∧ (BackOk n long (behind n ⟨fp, fa, fy⟩) ⟨fp, fy⟩ back ↔ BackOk n long hv' ah (back.drop k))
   ∧ Boxed wr w.heap.size [.slice x n.pieces.length ca, .slice c n.joints.length cc] ∧ Boxed wr (w.heap.size + 1) [.int .i64 fp, .int .i64 fa, .int .i64 fy, .int .i64 long, .slice ba back.length bc]
   ∧ Boxed wr w3.heap.size [.int .i64 ah.piece, .int .i64 ah.way] ∧ Below w.heap.size w wr) (fun _ z _ => back.length - (intOf z).toNat)
 case atStart => exact ⟨0, _, ⟨fp, fy⟩, Nat.zero_le _, rfl, rfl, by omega, ⟨hr1.1, hr1.2.1⟩, by simp, hBn3.below bw0, hBt3.below bw0, boxed_alloc _ _ _, (bw1 hbw3)⟩
 case round =>
  have m1 := n1
  have m2 := n2
  clear b0 b2 b4 n1 n2 hBn3 hBt3 hBn1 hBt1 hb1 hb3 hbw1
  obtain ⟨k, hv', ah, hk, rfl, rfl, hvb, hah, hiff, hBn, hBt, hBa, hb⟩ := hrel
  have HI := hide hiff
  have HAH := hide hah
  clear hiff hah
  have a0 := hBn.2.1 0 _ rfl
  have a1 := hBn.2.1 1 _ rfl
  have b3 := hBt.2.1 3 _ rfl
  have d0 := hBa.2.1 0 _ rfl
  have d1 := hBa.2.1 1 _ rfl
  have z0 := hBa.2.2
  have n1 := hBn.1
  have n2 := hBt.1
  have n3 := hBa.1
  have hsz := hb.size
  have hsz3 := hbw3.size
  by_cases hlt : k < back.length
  ·obtain ⟨sb, soff, rfl, hsb, s0, s1⟩ := hst.below hb k hlt
   have hdrop : back.drop k = back[k] :: back.drop (k + 1) := List.drop_eq_getElem_cons hlt
   generalize hx : back[k] = sk at *
   obtain ⟨sp, sy⟩ := sk
   dsimp only at s0 s1
   have HD := hide hdrop
   clear hdrop hx
   have hno : ¬ (StepOk n ⟨sp, sy⟩ ∧ hv' < long ∧ Joined n ⟨sp, sy⟩ ah) → ¬ TrainFits n ⟨⟨fp, fa, fy⟩, long, back⟩ := fun h1 h2 => by
    have h3 := (unhide HI).1 h2.2.2.2
    rw [unhide HD] at h3
    exact h1 ⟨h3.1, h3.2.1, h3.2.2.1⟩
   have HNO := hide hno
   clear hno
   have hbA : Below wr.heap.size wr (wr.alloc (.cells #[.int .i64 sp, .int .i64 sy] 67)) := bw0
   go_wp2_with fail
   refine (l1in_any _ _ _ _).mono ?_
   rintro e wx ⟨⟨rfl, hr3⟩ | ⟨rfl, hr3⟩, rfl⟩
   rotate_left
   ·go_wp2
    go_ret
    exact ⟨retB_false (unhide HNO fun h => hr3 ⟨h.1.1.1, by have := h.1.1.2; dsimp only at this; omega⟩), below_then hb hbA⟩
   by_cases hy : sy = 1 ∨ sy = -1
   rotate_left
   ·have y1 : (sy != 1) = true := by rw [bne_iff_ne]; omega
    have y2 : (sy != -1) = true := by rw [bne_iff_ne]; omega
    have HY := hide hy
    clear hy
    go_wp2
    go_ret
    exact ⟨retB_false (unhide HNO fun h => unhide HY h.1.2), below_then hb hbA⟩
   have hstep : StepOk n ⟨sp, sy⟩ := ⟨⟨hr3.1, by have := hr3.2; dsimp only; omega⟩, hy⟩
   by_cases hge : long ≤ hv'
   ·rcases hy with rfl | rfl
    all_goals
     go_wp2
     go_ret
     exact ⟨retB_false (unhide HNO fun h => by have := h.2.1; omega), below_then hb hbA⟩
   have HS := hide hstep
   have hge' : hv' < long := by omega
   clear hge hstep
   obtain ⟨spn, rfl⟩ := Int.eq_ofNat_of_zero_le hr3.1
   obtain ⟨pb, poff, rfl, hpb, c1⟩ := hp.len hr3.1 (show (spn : Int) < n.pieces.length by have := hr3.2; omega)
   have hls := hG.len hr3.1 (show (spn : Int) < n.pieces.length by have := hr3.2; omega)
   have hspl : (spn : Int) < (n.pieces.length : Int) := by have := hr3.2; omega
   simp only [Int.toNat_natCast] at c1
   rcases hy with rfl | rfl
   ·go_wp2_with fail
    refine (l2joined_any _ n ⟨spn, 1⟩ ah _ (hvv.below (below_then hb hbA)) hG (unhide HS) (unhide HAH)).mono ?_
    rintro e w5 ⟨⟨rfl, hr4⟩ | ⟨rfl, hr4⟩, hb5⟩
    rotate_left
    ·go_wp2
     go_ret
     exact ⟨retB_false (unhide HNO fun h => hr4 h.2.2), below_then hb (below_then hbA hb5)⟩
    have hb5' := below_then hbA hb5
    have hbw5 := below_then hb hb5'
    have hBn5 := hBn.below hb5'
    have hBt5 := hBt.below hb5'
    have hBa5 := hBa.below hb5'
    have hBs5 : Boxed w5 wr.heap.size [.int .i64 spn, .int .i64 1] := (boxed_alloc wr #[.int .i64 spn, .int .i64 1] 67).below hb5
    have u0 := hBn5.2.1 0 _ rfl
    have u2 := hBs5.2.1 0 _ rfl
    have u3 := hBs5.2.1 1 _ rfl
    have u4 := hBa5.2.1 0 _ rfl
    have u5 := hBa5.2.1 1 _ rfl
    have u6 := hBa5.2.2
    have c1' : w5.cell? ⟨pb, poff + spn * 4 + 1, none⟩ = some (.int .i64 (lenOf n spn)) := by rw [hbw5.cell hpb]; exact c1
    have HR4 := hide hr4
    clear hr4
    go_wp2
    refine ⟨⟨k + 1, hv' + lenOf n spn, ⟨spn, 1⟩, by omega, by go_num, rfl, ⟨by omega, by omega⟩, unhide HS, ?_, (hBn5.other (by simp; omega) _).other (by simp; omega) _, (hBt5.other (by simp; omega) _).other (by simp; omega) _, hBa5.set2 _ _, Below.setCell (Below.setCell hbw5 (by simp; omega) _) (by simp; omega) _⟩, by simp [intOf]; omega⟩
    refine (unhide HI).trans ?_
    rw [unhide HD]
    exact ⟨fun h => h.2.2.2, fun h => ⟨unhide HS, hge', unhide HR4, h⟩⟩
   ·go_wp2_with fail
    refine (l2joined_any _ n ⟨spn, (-1)⟩ ah _ (hvv.below (below_then hb hbA)) hG (unhide HS) (unhide HAH)).mono ?_
    rintro e w5 ⟨⟨rfl, hr4⟩ | ⟨rfl, hr4⟩, hb5⟩
    rotate_left
    ·go_wp2
     go_ret
     exact ⟨retB_false (unhide HNO fun h => hr4 h.2.2), below_then hb (below_then hbA hb5)⟩
    have hb5' := below_then hbA hb5
    have hbw5 := below_then hb hb5'
    have hBn5 := hBn.below hb5'
    have hBt5 := hBt.below hb5'
    have hBa5 := hBa.below hb5'
    have hBs5 : Boxed w5 wr.heap.size [.int .i64 spn, .int .i64 (-1)] := (boxed_alloc wr #[.int .i64 spn, .int .i64 (-1)] 67).below hb5
    have u0 := hBn5.2.1 0 _ rfl
    have u2 := hBs5.2.1 0 _ rfl
    have u3 := hBs5.2.1 1 _ rfl
    have u4 := hBa5.2.1 0 _ rfl
    have u5 := hBa5.2.1 1 _ rfl
    have u6 := hBa5.2.2
    have c1' : w5.cell? ⟨pb, poff + spn * 4 + 1, none⟩ = some (.int .i64 (lenOf n spn)) := by rw [hbw5.cell hpb]; exact c1
    have HR4 := hide hr4
    clear hr4
    go_wp2
    refine ⟨⟨k + 1, hv' + lenOf n spn, ⟨spn, (-1)⟩, by omega, by go_num, rfl, ⟨by omega, by omega⟩, unhide HS, ?_, (hBn5.other (by simp; omega) _).other (by simp; omega) _, (hBt5.other (by simp; omega) _).other (by simp; omega) _, hBa5.set2 _ _, Below.setCell (Below.setCell hbw5 (by simp; omega) _) (by simp; omega) _⟩, by simp [intOf]; omega⟩
    refine (unhide HI).trans ?_
    rw [unhide HD]
    exact ⟨fun h => h.2.2.2, fun h => ⟨unhide HS, hge', unhide HR4, h⟩⟩
  ·have hkl : k = back.length := by omega
   have hdrop : Hid (back.drop k = []) := by unfold Hid; rw [hkl]; simp
   go_wp2
   go_ret
   refine ⟨retB_of ?_, hb⟩
   have h1 := unhide HI
   rw [unhide hdrop] at h1
   simp only [decide_eq_true_eq]
   exact ⟨fun h => ⟨hr1, hr2, by dsimp only; omega, h1.2 h⟩, fun h => h1.1 h.2.2.2⟩

set_option maxHeartbeats 2000000 in
theorem specTrainOk_any (v tv : Value) (n : Nt) (t : Tr) (w : World) {L L' : Nat} (hv : NetAt L w v n) (htv : TrAt L' w tv t) (hl : n.pieces.length ≤ 1048576) (hl' : n.joints.length ≤ 1048576)
  (hle : ∀ i (h : i < n.joints.length), n.joints[i].ends.length ≤ 1048576 ∧ n.joints[i].name.size ≤ maxLen) (hnm : ∀ i (h : i < n.pieces.length), n.pieces[i].name.size ≤ maxLen) (hbl : t.back.length ≤ 1048576) :
  Calls Tryz.prog 13 #[v, tv] w fun e w' => RetB (TrainRight n t) e ∧ Below w.heap.size w w' := by
 have hvv := hv
 have htt := htv
 obtain ⟨x, c, ca, cc, rfl, hp, hj⟩ := hv
 obtain ⟨ba, bc, rfl, hst⟩ := htv
 go_enter Tryz.func13, Tryz.ntmps13
 go_wp2_with fail
 refine (l1ok_any _ n _ (hvv.below bw0) hl hl' hle hnm).mono ?_
 rintro e w1 ⟨⟨rfl, hr1⟩ | ⟨rfl, hr1⟩, hb1⟩
 ·have hbw1 : Below w.heap.size w w1 := below_then bw0 hb1
  have hBn1 : Boxed w1 w.heap.size [.slice x n.pieces.length ca, .slice c n.joints.length cc] := ((boxed_alloc w #[.slice x n.pieces.length ca, .slice c n.joints.length cc] 26).below bw0).below hb1
  have hBt1 : Boxed w1 (w.heap.size + 1) [.int .i64 t.front.piece, .int .i64 t.front.at_, .int .i64 t.front.way, .int .i64 t.long, .slice ba t.back.length bc] := (boxedN _ #[.int .i64 t.front.piece, .int .i64 t.front.at_, .int .i64 t.front.way, .int .i64 t.long, .slice ba t.back.length bc] 32 (N := w.heap.size + 1) (by simp)).below hb1
  have a0 := hBn1.2.1 0 _ rfl
  have a1 := hBn1.2.1 1 _ rfl
  have b0 := hBt1.2.1 0 _ rfl
  have b1 := hBt1.2.1 1 _ rfl
  have b2 := hBt1.2.1 2 _ rfl
  have b3 := hBt1.2.1 3 _ rfl
  have b4 := hBt1.2.1 4 _ rfl
  have HR := hide hr1
  clear hr1
  go_wp2_with fail
  refine (l2train_any _ _ n t _ (hvv.below hbw1) (htt.below hbw1) (netGood (unhide HR)) hbl).mono ?_
  rintro e w2 ⟨⟨rfl, hr2⟩ | ⟨rfl, hr2⟩, hb2⟩
  ·go_wp2
   go_ret
   exact ⟨retB_true ⟨unhide HR, hr2⟩, below_then hbw1 hb2⟩
  ·go_wp2
   go_ret
   exact ⟨retB_false fun h => hr2 h.2, below_then hbw1 hb2⟩
 ·have hbw1 : Below w.heap.size w w1 := below_then bw0 hb1
  have HR := hide hr1
  clear hr1
  go_wp2
  go_ret
  exact ⟨retB_false fun h => unhide HR h.1, hbw1⟩

end Go.Proofs.YtjacbppeebnjfaaGreat

namespace Go.Proofs.YtjacbppeebnjfaaGreat

def partOf (n : Nt) (s : St) (a b : Int) : Pt := if s.way = -1 then ⟨s.piece, lenOf n s.piece - b, lenOf n s.piece - a⟩ else ⟨s.piece, a, b⟩

def bodyFrom (n : Nt) : Int → Int → St → List St → List Pt
 | left, along, at_, [] => if 0 < (if along > left then left else along) then [partOf n at_ (along - (if along > left then left else along)) along] else []
 | left, along, at_, s :: r =>
  (if 0 < (if along > left then left else along) then [partOf n at_ (along - (if along > left then left else along)) along] else [])
   ++ (if left - (if along > left then left else along) = 0 then [] else bodyFrom n (left - (if along > left then left else along)) (lenOf n s.piece) s r)

structure Sx where
 step : St
 low : Int
 high : Int

def stretchL (n : Nt) (sp : Int) : Int → St → List St → List Sx
 | along, at_, [] => [⟨at_, sp, along⟩]
 | along, at_, s :: r => ⟨at_, 0, along⟩ :: stretchL n sp (lenOf n s.piece) s r

def partsL (n : Nt) (xs : List Sx) : List Pt := xs.flatMap fun x => if x.low < x.high then [partOf n x.step x.low x.high] else []

theorem partsL_snoc (n : Nt) (xs : List Sx) (x : Sx) : partsL n (xs ++ [x]) = partsL n xs ++ (if x.low < x.high then [partOf n x.step x.low x.high] else []) := by simp [partsL]
theorem partsL_len (n : Nt) (xs : List Sx) : (partsL n xs).length ≤ xs.length := by
 induction xs with
 | nil => simp [partsL]
 | cons x r ih =>
  have : partsL n (x :: r) = (if x.low < x.high then [partOf n x.step x.low x.high] else []) ++ partsL n r := by simp [partsL]
  rw [this, List.length_append, List.length_cons]
  split <;> simp <;> omega

theorem stretchL_len (n : Nt) (sp along : Int) (at_ : St) (bk : List St) : (stretchL n sp along at_ bk).length = bk.length + 1 := by
 induction bk generalizing along at_ with
 | nil => simp [stretchL]
 | cons s r ih => simp [stretchL, ih]

theorem stretchL_get (n : Nt) (sp along : Int) (at_ : St) (bk : List St) (k : Nat) (h : k < (stretchL n sp along at_ bk).length) :
  (stretchL n sp along at_ bk)[k] = ⟨(at_ :: bk).getD k ⟨0, 0⟩, if k = bk.length then sp else 0, if k = 0 then along else lenOf n ((at_ :: bk).getD k ⟨0, 0⟩).piece⟩ := by
 induction bk generalizing along at_ k with
 | nil =>
  have : k = 0 := by simp [stretchL] at h; omega
  subst this
  simp [stretchL]
 | cons s r ih =>
  cases k with
  | zero => simp [stretchL]
  | succ k =>
   simp only [stretchL, List.getElem_cons_succ]
   rw [ih (lenOf n s.piece) s k (by simpa [stretchL] using h)]
   cases k with
   | zero => simp [eq_comm]
   | succ k => simp

theorem body_same {n : Nt} (hG : NetGood n) {long : Int} : ∀ {bk : List St} {hv along : Int} {at_ : St}, BackOk n long hv at_ bk → 0 < long - (hv - along) → 0 ≤ along →
  bodyFrom n (long - (hv - along)) along at_ bk = partsL n (stretchL n (hv + sumLen n bk - long) along at_ bk) := by
 intro bk
 induction bk with
 | nil =>
  intro hv along at_ hB hl ha
  simp only [BackOk] at hB
  simp only [bodyFrom, stretchL, sumLen_nil, partsL, List.flatMap_cons, List.flatMap_nil, List.append_nil]
  have e1 : (if along > long - (hv - along) then long - (hv - along) else along) = long - (hv - along) := by split <;> omega
  have e2 : along - (long - (hv - along)) = hv + 0 - long := by omega
  rw [e1, if_pos hl, if_pos (by omega), e2]
 | cons s r ih =>
  intro hv along at_ hB hl ha
  simp only [BackOk] at hB
  obtain ⟨hs, hlt, _, hr⟩ := hB
  have e1 : (if along > long - (hv - along) then long - (hv - along) else along) = along := by split <;> omega
  have e3 : long - (hv - along) - along = long - (hv + lenOf n s.piece - lenOf n s.piece) := by omega
  have e4 : hv + sumLen n (s :: r) - long = hv + lenOf n s.piece + sumLen n r - long := by rw [sumLen_cons]; omega
  simp only [bodyFrom, stretchL]
  rw [e1, if_neg (show ¬ long - (hv - along) - along = 0 by omega), e3, e4, show along - along = 0 by omega]
  have hl0 := (hG.len hs.1.1 hs.1.2).1
  rw [ih hr (by omega) (by omega)]
  simp [partsL]

end Go.Proofs.YtjacbppeebnjfaaGreat

