import Derived.WalkKit
namespace Go.Proofs.Ytcmakcnkiekalab

/-- The plain data: pieces, ends, joints, nets. -/
structure Pc where
  name : ByteArray
  len : Int
  speed : Int
  brake : Int

structure Ed where
  piece : Int
  side : Int

structure Jt where
  kind : Int
  name : ByteArray
  ends : List Ed

structure Nt where
  pieces : List Pc
  joints : List Jt

def Ed.val (e : Ed) : Value := .agg #[.int .i64 e.piece, .int .i64 e.side]

def IsNmB (c : UInt8) : Prop := (97 ≤ c.toNat ∧ c.toNat ≤ 122) ∨ (48 ≤ c.toNat ∧ c.toNat ≤ 57) ∨ c.toNat = 95
def IsNm (s : ByteArray) : Prop := 1 ≤ s.size ∧ s.size ≤ 20 ∧ ∀ i (h : i < s.size), IsNmB s[i]
def PcFits (p : Pc) : Prop := IsNm p.name ∧ (1 ≤ p.len ∧ p.len ≤ 10000000) ∧ (1 ≤ p.speed ∧ p.speed ≤ 10000) ∧ (1 ≤ p.brake ∧ p.brake ≤ 1000)
def BadPc (ps : List Pc) (i : Nat) : Prop := ∃ h : i < ps.length, ¬ PcFits ps[i] ∨ ∃ k, ∃ hk : k < i, ps[k].name = ps[i].name
def EdFits (np : Nat) (e : Ed) : Prop := (0 ≤ e.piece ∧ e.piece < np) ∧ (0 ≤ e.side ∧ e.side ≤ 1)
def JtFits (np : Nat) (j : Jt) : Prop := (1 ≤ j.kind ∧ j.kind ≤ 4) ∧ (j.ends.length : Int) = j.kind ∧ ∀ i (h : i < j.ends.length), EdFits np j.ends[i]
def Bad3 (np : Nat) (js : List Jt) (i : Nat) : Prop := ∃ h : i < js.length, ¬ JtFits np js[i]
def NmFits (js : List Jt) (i : Nat) (h : i < js.length) : Prop :=
  (js[i].kind < 3 → js[i].name = ByteArray.empty) ∧ (¬ js[i].kind < 3 → IsNm js[i].name ∧ ∀ k (hk : k < i), js[k].name ≠ js[i].name)
def Bad4 (js : List Jt) (i : Nat) : Prop := ∃ h : i < js.length, ¬ NmFits js i h
def isEd (p s : Int) (x : Ed) : Bool := decide (x.piece = p) && decide (x.side = s)
def usesIn (es : List Ed) (p s : Int) : Nat := es.countP (isEd p s)
def uses (js : List Jt) (p s : Int) : Nat := (js.map fun j => usesIn j.ends p s).sum
def Bad5 (js : List Jt) (i : Nat) : Prop := uses js i 0 ≠ 1 ∨ uses js i 1 ≠ 1

theorem usesIn_succ (es : List Ed) (p s : Int) (k : Nat) (h : k < es.length) : usesIn (es.take (k + 1)) p s = usesIn (es.take k) p s + (if isEd p s es[k] = true then 1 else 0) := by
  unfold usesIn
  rw [List.take_succ_eq_append_getElem h, List.countP_append]
  simp [List.countP_cons]

theorem usesIn_le (es : List Ed) (p s : Int) : usesIn es p s ≤ es.length := List.countP_le_length

theorem uses_succ (js : List Jt) (p s : Int) (k : Nat) (h : k < js.length) : uses (js.take (k + 1)) p s = uses (js.take k) p s + usesIn js[k].ends p s := by
  unfold uses
  rw [List.take_succ_eq_append_getElem h, List.map_append, List.sum_append]
  simp only [List.map_cons, List.map_nil, List.sum_cons, List.sum_nil, Nat.add_zero]

theorem uses_le (js : List Jt) (p s : Int) (M : Nat) (hM : ∀ i (h : i < js.length), js[i].ends.length ≤ M) (k : Nat) (hk : k ≤ js.length) : uses (js.take k) p s ≤ k * M := by
  induction k with
  | zero => simp [uses]
  | succ k ih =>
    rw [uses_succ js p s k (by omega)]
    have := ih (by omega)
    have h2 := usesIn_le js[k].ends p s
    have h3 := hM k (by omega)
    rw [Nat.add_mul]
    omega

/-- The first place below n, as an answer: its number, or -1. -/
def IsFirst (p : Nat → Prop) (n : Nat) (r : Int) : Prop := (r = -1 ∧ ∀ k, k < n → ¬ p k) ∨ ∃ i : Nat, i < n ∧ r = i ∧ p i ∧ ∀ k, k < i → ¬ p k

theorem IsFirst.unique {p : Nat → Prop} {n : Nat} {r s : Int} (h : IsFirst p n r) (g : IsFirst p n s) : r = s := by
  rcases h with ⟨rfl, h⟩ | ⟨i, hi, rfl, pi, h⟩ <;> rcases g with ⟨rfl, g⟩ | ⟨j, hj, rfl, pj, g⟩
  · rfl
  · exact absurd pj (h j hj)
  · exact absurd pi (g i hi)
  · rcases Nat.lt_trichotomy i j with hlt | heq | hgt
    · exact absurd pi (g i hlt)
    · rw [heq]
    · exact absurd pj (h j hgt)

def NetRes (n : Nt) (c a : Int) : Prop :=
  let out := n.pieces.length = 0 ∨ 100 < n.pieces.length ∨ 120 < n.joints.length
  (out → c = 1 ∧ a = 0) ∧ (¬ out → ∃ r2 r3 r4 r5 : Int, IsFirst (BadPc n.pieces) n.pieces.length r2 ∧
    (r2 ≠ -1 → c = 2 ∧ a = r2) ∧ (r2 = -1 → IsFirst (Bad3 n.pieces.length n.joints) n.joints.length r3 ∧
      (r3 ≠ -1 → c = 3 ∧ a = r3) ∧ (r3 = -1 → IsFirst (Bad4 n.joints) n.joints.length r4 ∧
        (r4 ≠ -1 → c = 4 ∧ a = r4) ∧ (r4 = -1 → IsFirst (Bad5 n.joints) n.pieces.length r5 ∧
          (r5 ≠ -1 → c = 5 ∧ a = r5) ∧ (r5 = -1 → c = 0 ∧ a = 0)))))

theorem NetRes.unique {n : Nt} {c a c' a' : Int} (h : NetRes n c a) (g : NetRes n c' a') : c = c' ∧ a = a' := by
  unfold NetRes at h g
  by_cases ho : n.pieces.length = 0 ∨ 100 < n.pieces.length ∨ 120 < n.joints.length
  · obtain ⟨rfl, rfl⟩ := h.1 ho
    obtain ⟨rfl, rfl⟩ := g.1 ho
    exact ⟨rfl, rfl⟩
  · obtain ⟨r2, r3, r4, r5, h2, h2a, h2b⟩ := h.2 ho
    obtain ⟨s2, s3, s4, s5, g2, g2a, g2b⟩ := g.2 ho
    obtain rfl := h2.unique g2
    by_cases e2 : r2 = -1
    · obtain ⟨h3, h3a, h3b⟩ := h2b e2
      obtain ⟨g3, g3a, g3b⟩ := g2b e2
      obtain rfl := h3.unique g3
      by_cases e3 : r3 = -1
      · obtain ⟨h4, h4a, h4b⟩ := h3b e3
        obtain ⟨g4, g4a, g4b⟩ := g3b e3
        obtain rfl := h4.unique g4
        by_cases e4 : r4 = -1
        · obtain ⟨h5, h5a, h5b⟩ := h4b e4
          obtain ⟨g5, g5a, g5b⟩ := g4b e4
          obtain rfl := h5.unique g5
          by_cases e5 : r5 = -1
          · obtain ⟨rfl, rfl⟩ := h5b e5
            obtain ⟨rfl, rfl⟩ := g5b e5
            exact ⟨rfl, rfl⟩
          · obtain ⟨rfl, rfl⟩ := h5a e5
            obtain ⟨rfl, rfl⟩ := g5a e5
            exact ⟨rfl, rfl⟩
        · obtain ⟨rfl, rfl⟩ := h4a e4
          obtain ⟨rfl, rfl⟩ := g4a e4
          exact ⟨rfl, rfl⟩
      · obtain ⟨rfl, rfl⟩ := h3a e3
        obtain ⟨rfl, rfl⟩ := g3a e3
        exact ⟨rfl, rfl⟩
    · obtain ⟨rfl, rfl⟩ := h2a e2
      obtain ⟨rfl, rfl⟩ := g2a e2
      exact ⟨rfl, rfl⟩

/-- The pieces' part, the joints' part, the ends' part of spec.NetOk's answer. -/
theorem first_of {p : Nat → Prop} {n i : Nat} (hi : i < n) (hp : p i) (h : ∀ k, k < i → ¬ p k) : IsFirst p n i := Or.inr ⟨i, hi, rfl, hp, h⟩
theorem none_of {p : Nat → Prop} {n : Nat} (h : ∀ k, k < n → ¬ p k) : IsFirst p n (-1) := Or.inl ⟨rfl, h⟩

theorem netRes1 {n : Nt} (h : n.pieces.length = 0 ∨ 100 < n.pieces.length ∨ 120 < n.joints.length) : NetRes n 1 0 := ⟨fun _ => ⟨rfl, rfl⟩, fun g => absurd h g⟩
theorem netRes2 {n : Nt} {r : Int} (h : ¬ (n.pieces.length = 0 ∨ 100 < n.pieces.length ∨ 120 < n.joints.length)) (h2 : IsFirst (BadPc n.pieces) n.pieces.length r) (hr : r ≠ -1) : NetRes n 2 r :=
  ⟨fun g => absurd g h, fun _ => ⟨r, 0, 0, 0, h2, fun _ => ⟨rfl, rfl⟩, fun e => absurd e hr⟩⟩
theorem netRes3 {n : Nt} {r : Int} (h : ¬ (n.pieces.length = 0 ∨ 100 < n.pieces.length ∨ 120 < n.joints.length)) (h2 : IsFirst (BadPc n.pieces) n.pieces.length (-1))
    (h3 : IsFirst (Bad3 n.pieces.length n.joints) n.joints.length r) (hr : r ≠ -1) : NetRes n 3 r :=
  ⟨fun g => absurd g h, fun _ => ⟨-1, r, 0, 0, h2, fun e => absurd rfl e, fun _ => ⟨h3, fun _ => ⟨rfl, rfl⟩, fun e => absurd e hr⟩⟩⟩
theorem netRes4 {n : Nt} {r : Int} (h : ¬ (n.pieces.length = 0 ∨ 100 < n.pieces.length ∨ 120 < n.joints.length)) (h2 : IsFirst (BadPc n.pieces) n.pieces.length (-1))
    (h3 : IsFirst (Bad3 n.pieces.length n.joints) n.joints.length (-1)) (h4 : IsFirst (Bad4 n.joints) n.joints.length r) (hr : r ≠ -1) : NetRes n 4 r :=
  ⟨fun g => absurd g h, fun _ => ⟨-1, -1, r, 0, h2, fun e => absurd rfl e, fun _ => ⟨h3, fun e => absurd rfl e, fun _ => ⟨h4, fun _ => ⟨rfl, rfl⟩, fun e => absurd e hr⟩⟩⟩⟩
theorem netRes5 {n : Nt} {r : Int} (h : ¬ (n.pieces.length = 0 ∨ 100 < n.pieces.length ∨ 120 < n.joints.length)) (h2 : IsFirst (BadPc n.pieces) n.pieces.length (-1))
    (h3 : IsFirst (Bad3 n.pieces.length n.joints) n.joints.length (-1)) (h4 : IsFirst (Bad4 n.joints) n.joints.length (-1)) (h5 : IsFirst (Bad5 n.joints) n.pieces.length r) (hr : r ≠ -1) : NetRes n 5 r :=
  ⟨fun g => absurd g h, fun _ => ⟨-1, -1, -1, r, h2, fun e => absurd rfl e, fun _ => ⟨h3, fun e => absurd rfl e, fun _ => ⟨h4, fun e => absurd rfl e, fun _ => ⟨h5, fun _ => ⟨rfl, rfl⟩, fun e => absurd e hr⟩⟩⟩⟩⟩
theorem netRes0 {n : Nt} (h : ¬ (n.pieces.length = 0 ∨ 100 < n.pieces.length ∨ 120 < n.joints.length)) (h2 : IsFirst (BadPc n.pieces) n.pieces.length (-1))
    (h3 : IsFirst (Bad3 n.pieces.length n.joints) n.joints.length (-1)) (h4 : IsFirst (Bad4 n.joints) n.joints.length (-1)) (h5 : IsFirst (Bad5 n.joints) n.pieces.length (-1)) : NetRes n 0 0 :=
  ⟨fun g => absurd g h, fun _ => ⟨-1, -1, -1, -1, h2, fun e => absurd rfl e, fun _ => ⟨h3, fun e => absurd rfl e, fun _ => ⟨h4, fun e => absurd rfl e, fun _ => ⟨h5, fun e => absurd rfl e, fun _ => ⟨rfl, rfl⟩⟩⟩⟩⟩⟩

end Go.Proofs.Ytcmakcnkiekalab
