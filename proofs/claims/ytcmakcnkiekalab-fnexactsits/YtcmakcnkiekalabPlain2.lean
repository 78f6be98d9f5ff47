import Derived.Test.YtcmakcnkiekalabPlain
namespace Go.Proofs.Ytcmakcnkiekalab

/-- Steps, spots, trains, parts. -/
structure St where
  piece : Int
  way : Int

structure Sp where
  piece : Int
  at_ : Int
  way : Int

structure Tr where
  front : Sp
  long : Int
  back : List St

structure Pt where
  piece : Int
  fr : Int
  to : Int

def inB (x a b : Int) : Bool := decide (a ≤ x ∧ x ≤ b)
theorem inB_true {x a b : Int} (h : a ≤ x ∧ x ≤ b) : inB x a b = true := by simp [inB, h]
theorem inB_false {x a b : Int} (h : ¬ (a ≤ x ∧ x ≤ b)) : inB x a b = false := by simp [inB]; omega

/-- The length of a piece; the end of a piece to which one looks. -/
def lenOf (n : Nt) (p : Int) : Int := (n.pieces[p.toNat]?.map Pc.len).getD 0
def hd (p way : Int) : Ed := ⟨p, if way = 1 then 1 else 0⟩

def SpotOk (n : Nt) (s : Sp) : Prop := (0 ≤ s.piece ∧ s.piece < n.pieces.length) ∧ (s.way = 1 ∨ s.way = -1) ∧ (0 ≤ s.at_ ∧ s.at_ ≤ lenOf n s.piece)
def room (n : Nt) (s : Sp) : Int := if s.way = 1 then lenOf n s.piece - s.at_ else s.at_
def behind (n : Nt) (s : Sp) : Int := lenOf n s.piece - room n s

/-- An end stands at place k of joint i. -/
def StandsAt (js : List Jt) (e : Ed) (i k : Nat) : Prop := ∃ (h : i < js.length) (h' : k < js[i].ends.length), js[i].ends[k] = e

def endOf (j : Jt) (k : Nat) : Ed := j.ends.getD k ⟨0, 0⟩

/-- The ends to which one can come over a joint, from its place k. -/
def across (j : Jt) (k : Nat) : List Ed :=
  if j.kind = 2 then [endOf j (1 - k)]
  else if j.kind = 3 then (if k = 0 then [endOf j 1, endOf j 2] else [endOf j 0])
  else if j.kind = 4 then [endOf j (if k = 0 then 1 else if k = 1 then 0 else if k = 2 then 3 else 2)]
  else []

def Joined (n : Nt) (a b : St) : Prop := ∃ i k, ∃ h : i < n.joints.length, StandsAt n.joints (hd a.piece a.way) i k ∧ hd b.piece (-b.way) ∈ across n.joints[i] k

def StepOk (n : Nt) (s : St) : Prop := (0 ≤ s.piece ∧ s.piece < n.pieces.length) ∧ (s.way = 1 ∨ s.way = -1)

/-- What the pieces of Back must be, the nearest first. -/
def BackOk (n : Nt) (long : Int) : Int → St → List St → Prop
  | have_, _, [] => long ≤ have_
  | have_, ahead, s :: r => StepOk n s ∧ have_ < long ∧ Joined n s ahead ∧ BackOk n long (have_ + lenOf n s.piece) s r

def TrainFits (n : Nt) (t : Tr) : Prop :=
  SpotOk n t.front ∧ (1 ≤ t.long ∧ t.long ≤ 100000) ∧ t.back.length ≤ 200 ∧ BackOk n t.long (behind n t.front) ⟨t.front.piece, t.front.way⟩ t.back
def TrainRight (n : Nt) (t : Tr) : Prop := NetRes n 0 0 ∧ TrainFits n t

/-! ### An end of a right net stands just once -/

theorem usesIn_pos {es : List Ed} {e : Ed} {k : Nat} (h : k < es.length) (he : es[k] = e) : 1 ≤ usesIn es e.piece e.side := by
  unfold usesIn
  apply List.one_le_countP_iff.2
  exact ⟨es[k], List.getElem_mem h, by rw [he]; simp [isEd]⟩

theorem usesIn_two {es : List Ed} {e : Ed} {k k' : Nat} (h : k < es.length) (h' : k' < es.length) (he : es[k] = e) (he' : es[k'] = e) (hne : k < k') : 2 ≤ usesIn es e.piece e.side := by
  have h1 : usesIn es e.piece e.side = usesIn (es.take k') e.piece e.side + usesIn (es.drop k') e.piece e.side := by
    unfold usesIn
    rw [← List.countP_append, List.take_append_drop]
  have h2 : 1 ≤ usesIn (es.take k') e.piece e.side := usesIn_pos (k := k) (by simp; omega) (by simpa using he)
  have h3 : 1 ≤ usesIn (es.drop k') e.piece e.side := usesIn_pos (k := 0) (by simp; omega) (by simpa using he')
  omega

theorem uses_ge {js : List Jt} {p s : Int} {i : Nat} (h : i < js.length) : usesIn js[i].ends p s ≤ uses js p s := by
  induction js generalizing i with
  | nil => simp at h
  | cons j r ih =>
    cases i with
    | zero => simp [uses]
    | succ i =>
      have := ih (i := i) (by simpa using h)
      simp [uses] at this ⊢
      omega

theorem uses_two {js : List Jt} {p s : Int} {i i' : Nat} (h : i < js.length) (h' : i' < js.length) (hne : i < i') : usesIn js[i].ends p s + usesIn js[i'].ends p s ≤ uses js p s := by
  induction js generalizing i i' with
  | nil => simp at h
  | cons j r ih =>
    cases i with
    | zero =>
      cases i' with
      | zero => omega
      | succ i' =>
        have := uses_ge (js := r) (p := p) (s := s) (i := i') (by simpa using h')
        simp [uses] at this ⊢
        omega
    | succ i =>
      cases i' with
      | zero => omega
      | succ i' =>
        have := ih (i := i) (i' := i') (by simpa using h) (by simpa using h') (by omega)
        simp [uses] at this ⊢
        omega

theorem stands_unique {js : List Jt} {e : Ed} (hu : uses js e.piece e.side = 1) {i k i' k' : Nat} (h : StandsAt js e i k) (g : StandsAt js e i' k') : i = i' ∧ k = k' := by
  obtain ⟨hi, hk, he⟩ := h
  obtain ⟨gi, gk, ge⟩ := g
  have h1 := usesIn_pos hk he
  have h2 := usesIn_pos gk ge
  rcases Nat.lt_trichotomy i i' with hlt | rfl | hgt
  · have := uses_two (p := e.piece) (s := e.side) hi gi hlt; omega
  · rcases Nat.lt_trichotomy k k' with klt | rfl | kgt
    · have := usesIn_two hk gk he ge klt; have := uses_ge (p := e.piece) (s := e.side) hi; omega
    · exact ⟨rfl, rfl⟩
    · have := usesIn_two gk hk ge he kgt; have := uses_ge (p := e.piece) (s := e.side) hi; omega
  · have := uses_two (p := e.piece) (s := e.side) gi hi hgt; omega

theorem stands_some {js : List Jt} {e : Ed} (hu : uses js e.piece e.side = 1) : ∃ i k, StandsAt js e i k := by
  induction js with
  | nil => simp [uses] at hu
  | cons j r ih =>
    by_cases hj : usesIn j.ends e.piece e.side = 0
    · have : uses r e.piece e.side = 1 := by simp [uses] at hu ⊢; omega
      obtain ⟨i, k, hi, hk, he⟩ := ih this
      exact ⟨i + 1, k, by simpa using hi, by simpa using hk, by simpa using he⟩
    · have : 0 < j.ends.countP (isEd e.piece e.side) := by unfold usesIn at hj; omega
      obtain ⟨x, hx, hxe⟩ := List.countP_pos_iff.1 this
      obtain ⟨k, hk, hxk⟩ := List.getElem_of_mem hx
      refine ⟨0, k, by simp, by simpa using hk, ?_⟩
      simp [isEd] at hxe
      have : x = e := by cases x; cases e; simp_all
      simpa [this] using hxk

end Go.Proofs.Ytcmakcnkiekalab
