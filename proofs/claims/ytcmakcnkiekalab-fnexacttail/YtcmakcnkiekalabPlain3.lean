import Derived.Test.YtcmakcnkiekalabSpec7
namespace Go.Proofs.Ytcmakcnkiekalab

/-- Over a joint from its place k, when it lies so: the end to which one comes, and what bars the way. -/
def overJ (j : Jt) (k : Nat) (lie : Int) : Ed × Int :=
  if j.kind = 2 then (endOf j (1 - k), 0)
  else if j.kind = 3 then
    (if lie = 0 then (⟨0, 0⟩, 2)
     else if k = 0 then (endOf j (if lie = 2 then 2 else 1), 0)
     else if k = (if lie = 2 then 2 else 1) then (endOf j 0, 0)
     else (⟨0, 0⟩, 3))
  else if j.kind = 4 then (endOf j (if k = 0 then 1 else if k = 1 then 0 else if k = 2 then 3 else 2), 0)
  else (⟨0, 0⟩, 1)

/-- From a piece one comes to the one ahead of it, when the joint between them lies so. -/
def Leads (n : Nt) (s ahead : St) (lie : Int) : Prop :=
  ∃ i k, ∃ h : i < n.joints.length, StandsAt n.joints (hd s.piece s.way) i k ∧ overJ n.joints[i] k lie = (hd ahead.piece (-ahead.way), 0)

theorem mem_across_iff {j : Jt} {k : Nat} {e : Ed} (hK : KindOk j.kind j.ends) (hk : k < j.ends.length) : e ∈ across j k ↔ overJ j k 1 = (e, 0) ∨ overJ j k 2 = (e, 0) := by
  obtain ⟨⟨h1, h4⟩, hl⟩ := hK
  have h5 : j.kind = 1 ∨ j.kind = 2 ∨ j.kind = 3 ∨ j.kind = 4 := by omega
  unfold across overJ
  rcases h5 with h | h | h | h
  · simp [h]
  · simp [h, eq_comm]
  · have hk3 : k = 0 ∨ k = 1 ∨ k = 2 := by omega
    rcases hk3 with rfl | rfl | rfl
    · simp [h, eq_comm]
    · simp [h, eq_comm]
    · simp [h, eq_comm]
  · simp [h, eq_comm]

theorem joined_iff {n : Nt} (hG : NetGood n) (s ahead : St) : Joined n s ahead ↔ Leads n s ahead 1 ∨ Leads n s ahead 2 := by
  constructor
  · rintro ⟨i, k, h, h1, h2⟩
    obtain ⟨_, hk, _⟩ := h1
    rcases (mem_across_iff (hG.kind h) hk).1 h2 with h3 | h3
    · exact Or.inl ⟨i, k, h, ⟨h, hk, by assumption⟩, h3⟩
    · exact Or.inr ⟨i, k, h, ⟨h, hk, by assumption⟩, h3⟩
  · rintro (⟨i, k, h, h1, h2⟩ | ⟨i, k, h, h1, h2⟩)
    all_goals
      obtain ⟨_, hk, _⟩ := h1
      refine ⟨i, k, h, ⟨h, hk, by assumption⟩, (mem_across_iff (hG.kind h) hk).2 ?_⟩
      first | exact Or.inl h2 | exact Or.inr h2

/-- The lengths of some pieces together. -/
def sumLen (n : Nt) (xs : List St) : Int := (xs.map fun s => lenOf n s.piece).sum
theorem sumLen_nil (n : Nt) : sumLen n [] = 0 := rfl
theorem sumLen_cons (n : Nt) (x : St) (xs : List St) : sumLen n (x :: xs) = lenOf n x.piece + sumLen n xs := by simp [sumLen]
theorem sumLen_append (n : Nt) (xs ys : List St) : sumLen n (xs ++ ys) = sumLen n xs + sumLen n ys := by simp [sumLen]

/-- What a giver of pieces gave, one after the other. -/
def Took {σ : Type} (Nx : σ → Option (St × σ) → Prop) : σ → List St → σ → Prop
  | s, [], s' => s = s'
  | s, x :: r, s' => ∃ s1, Nx s (some (x, s1)) ∧ Took Nx s1 r s'

theorem Took.snoc {σ : Type} {Nx : σ → Option (St × σ) → Prop} {s s1 s2 : σ} {xs : List St} {x : St} (h : Took Nx s xs s1) (hx : Nx s1 (some (x, s2))) : Took Nx s (xs ++ [x]) s2 := by
  induction xs generalizing s with
  | nil => obtain rfl : s = s1 := h; exact ⟨s2, hx, rfl⟩
  | cons y r ih => obtain ⟨s', h1, h2⟩ := h; exact ⟨s', h1, ih h2⟩

/-- How pieces are laid behind a front, of whose length 'sp' is wanting still. -/
structure Lays {σ : Type} (Nx : σ → Option (St × σ) → Prop) (n : Nt) (sp : Int) (s0 : σ) (xs : List St) (s : σ) : Prop where
  took : Took Nx s0 xs s
  neg : ∀ j, j < xs.length → sp + sumLen n (xs.take j) < 0
  ok : ∀ x ∈ xs, StepOk n x
  few : xs.length ≤ 200

def LayOk {σ : Type} (Nx : σ → Option (St × σ) → Prop) (n : Nt) (sp : Int) (s0 : σ) (xs : List St) (r : Int) : Prop :=
  ∃ s, Lays Nx n sp s0 xs s ∧ r = sp + sumLen n xs ∧ 0 ≤ r
def LayNo {σ : Type} (Nx : σ → Option (St × σ) → Prop) (n : Nt) (sp : Int) (s0 : σ) : Prop :=
  ∃ xs s, Lays Nx n sp s0 xs s ∧ sp + sumLen n xs < 0 ∧ (Nx s none ∨ xs.length = 200 ∧ ∃ y, Nx s (some y))

theorem Lays.nil {σ : Type} (Nx : σ → Option (St × σ) → Prop) (n : Nt) (sp : Int) (s0 : σ) : Lays Nx n sp s0 [] s0 :=
  ⟨rfl, fun j h => by simp at h, fun x h => by simp at h, by simp⟩

theorem Lays.snoc {σ : Type} {Nx : σ → Option (St × σ) → Prop} {n : Nt} {sp : Int} {s0 s1 s2 : σ} {xs : List St} {x : St} (h : Lays Nx n sp s0 xs s1) (hx : Nx s1 (some (x, s2))) (hok : StepOk n x) (hneg : sp + sumLen n xs < 0) (hfew : xs.length ≠ 200) : Lays Nx n sp s0 (xs ++ [x]) s2 := by
  refine ⟨h.took.snoc hx, fun j hj => ?_, fun y hy => ?_, ?_⟩
  · simp at hj
    by_cases e : j = xs.length
    · subst e
      simpa using hneg
    · have := h.neg j (by omega)
      rwa [List.take_append_of_le_length (by omega)]
  · rcases List.mem_append.1 hy with h1 | h1
    · exact h.ok y h1
    · obtain rfl : y = x := by simpa using h1
      exact hok
  · have := h.few
    simp
    omega

/-- Two that give the same, lay the same. -/
theorem took_take {σ : Type} {Nx : σ → Option (St × σ) → Prop} (hf : ∀ s a b, Nx s a → Nx s b → a = b) {s0 s s' : σ} {xs ys : List St} (h : Took Nx s0 xs s) (g : Took Nx s0 ys s') (hl : xs.length ≤ ys.length) :
    ∃ zs, ys = xs ++ zs ∧ Took Nx s zs s' := by
  induction xs generalizing s0 ys with
  | nil => obtain rfl : s0 = s := h; exact ⟨ys, rfl, g⟩
  | cons x r ih =>
    obtain ⟨s1, h1, h2⟩ := h
    match ys, g, hl with
    | y :: q, g, hl =>
      obtain ⟨t1, g1, g2⟩ := g
      have := hf _ _ _ h1 g1
      simp at this
      obtain ⟨rfl, rfl⟩ := this
      obtain ⟨zs, hz, ht⟩ := ih h2 g2 (by simpa using hl)
      exact ⟨zs, by simp [hz], ht⟩

theorem layOk_unique {σ : Type} {Nx : σ → Option (St × σ) → Prop} (hf : ∀ s a b, Nx s a → Nx s b → a = b) {n : Nt} {sp : Int} {s0 : σ} {xs ys : List St} {r q : Int} (h : LayOk Nx n sp s0 xs r) (g : LayOk Nx n sp s0 ys q) : xs = ys ∧ r = q := by
  obtain ⟨s, hl, hr, h0⟩ := h
  obtain ⟨s', gl, gr, g0⟩ := g
  have key : xs = ys := by
    rcases Nat.lt_trichotomy xs.length ys.length with hlt | heq | hgt
    · obtain ⟨zs, rfl, _⟩ := took_take hf hl.took gl.took (by omega)
      have := gl.neg xs.length hlt
      simp at this
      omega
    · obtain ⟨zs, rfl, _⟩ := took_take hf hl.took gl.took (by omega)
      simp at heq
      simp [heq]
    · obtain ⟨zs, rfl, _⟩ := took_take hf gl.took hl.took (by omega)
      have := hl.neg ys.length hgt
      simp at this
      omega
  subst key
  exact ⟨rfl, by omega⟩

theorem layOk_no {σ : Type} {Nx : σ → Option (St × σ) → Prop} (hf : ∀ s a b, Nx s a → Nx s b → a = b) {n : Nt} {sp : Int} {s0 : σ} {xs : List St} {r : Int} (h : LayOk Nx n sp s0 xs r) : ¬ LayNo Nx n sp s0 := by
  rintro ⟨ys, s', gl, g0, gend⟩
  obtain ⟨s, hl, hr, h0⟩ := h
  rcases Nat.lt_or_ge ys.length xs.length with hlt | hge
  · obtain ⟨zs, rfl, ht⟩ := took_take hf gl.took hl.took (by omega)
    match zs, ht, hlt with
    | z :: q, ht, _ =>
      obtain ⟨s1, h1, _⟩ := ht
      rcases gend with g1 | ⟨g1, _⟩
      · have := hf _ _ _ h1 g1
        simp at this
      · have := hl.few
        simp at this
        omega
    | [], _, hlt => simp at hlt
  · obtain ⟨zs, rfl, ht⟩ := took_take hf hl.took gl.took (by omega)
    by_cases e : zs = []
    · subst e
      simp at g0
      omega
    · have : 0 < zs.length := List.length_pos_iff.2 e
      have := gl.neg xs.length (by simp; omega)
      simp at this
      omega

/-- The giver that follows a Back. -/
def NxTold (n : Nt) (s : St × List St) (r : Option (St × (St × List St))) : Prop :=
  (r = none ∧ (s.2 = [] ∨ ∃ x q, s.2 = x :: q ∧ ¬ (StepOk n x ∧ Joined n x s.1))) ∨ ∃ x q, s.2 = x :: q ∧ StepOk n x ∧ Joined n x s.1 ∧ r = some (x, (x, q))

theorem told_took {n : Nt} {long : Int} {xs : List St} : ∀ {have_ : Int} {s s' : St × List St}, Took (NxTold n) s xs s' → (∀ j, j < xs.length → have_ + sumLen n (xs.take j) < long) →
    s.2 = xs ++ s'.2 ∧ (BackOk n long have_ s.1 s.2 ↔ BackOk n long (have_ + sumLen n xs) s'.1 s'.2) := by
  induction xs with
  | nil =>
    intro have_ s s' h _
    obtain rfl : s = s' := h
    simp [sumLen_nil]
  | cons x r ih =>
    intro have_ s s' h hneg
    obtain ⟨s1, h1, h2⟩ := h
    rcases h1 with ⟨h1, _⟩ | ⟨y, q, hq, hok, hj, hs⟩
    · simp at h1
    · simp at hs
      obtain ⟨rfl, rfl⟩ := hs
      have h0 := hneg 0 (by simp)
      simp [sumLen_nil] at h0
      obtain ⟨e1, e2⟩ := ih (have_ := have_ + lenOf n x.piece) h2 (fun j hj' => by
        have := hneg (j + 1) (by simp; omega)
        simp [sumLen_cons] at this
        omega)
      dsimp only at e1 e2
      refine ⟨by rw [hq, e1]; rfl, ?_⟩
      rw [hq]
      simp only [BackOk]
      rw [sumLen_cons, ← Int.add_assoc, ← e2]
      exact ⟨fun h => h.2.2.2, fun h => ⟨hok, h0, hj, h⟩⟩

theorem told_ok {n : Nt} {t : Tr} {xs : List St} {r : Int} (h : LayOk (NxTold n) n (behind n t.front - t.long) (⟨t.front.piece, t.front.way⟩, t.back) xs r) :
    (xs.length = t.back.length ↔ BackOk n t.long (behind n t.front) ⟨t.front.piece, t.front.way⟩ t.back) ∧ (xs.length = t.back.length → xs = t.back) ∧ xs.length ≤ t.back.length := by
  obtain ⟨s, hl, hr, h0⟩ := h
  obtain ⟨e1, e2⟩ := told_took (long := t.long) (have_ := behind n t.front) hl.took (fun j hj => by have := hl.neg j hj; omega)
  dsimp only at e1 e2
  have hlen : t.back.length = xs.length + s.2.length := by rw [e1]; simp
  refine ⟨?_, fun h => ?_, by omega⟩
  · rw [e2]
    match hs : s.2 with
    | [] => simp only [BackOk]; exact ⟨fun _ => by omega, fun _ => by simp [hs] at hlen; omega⟩
    | y :: q => simp only [BackOk]; exact ⟨fun h => by simp [hs] at hlen; omega, fun h => by omega⟩
  · have : s.2 = [] := List.eq_nil_of_length_eq_zero (by omega)
    rw [e1, this]; simp

theorem told_no {n : Nt} {t : Tr} (h : LayNo (NxTold n) n (behind n t.front - t.long) (⟨t.front.piece, t.front.way⟩, t.back)) (hl200 : t.back.length ≤ 200) :
    ¬ BackOk n t.long (behind n t.front) ⟨t.front.piece, t.front.way⟩ t.back := by
  obtain ⟨xs, s, hl, h0, hend⟩ := h
  obtain ⟨e1, e2⟩ := told_took (long := t.long) (have_ := behind n t.front) hl.took (fun j hj => by have := hl.neg j hj; omega)
  dsimp only at e1 e2
  rw [e2]
  have hlen : t.back.length = xs.length + s.2.length := by rw [e1]; simp
  rcases hend with (⟨_, h1⟩ | ⟨x, q, _, _, _, h1⟩) | ⟨h1, y, h2⟩
  · rcases h1 with h1 | ⟨x, q, h1, h2⟩
    · rw [h1]
      simp only [BackOk]
      omega
    · rw [h1]
      simp only [BackOk]
      exact fun h => h2 ⟨h.1, h.2.2.1⟩
  · simp at h1
  · rcases h2 with ⟨h2, _⟩ | ⟨x, q, h2, _⟩
    · simp at h2
    · rw [h2] at hlen
      simp at hlen
      omega

end Go.Proofs.Ytcmakcnkiekalab
