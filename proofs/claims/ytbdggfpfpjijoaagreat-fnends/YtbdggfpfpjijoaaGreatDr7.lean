import Derived.Test.YtbdggfpfpjijoaaGreatDr6
set_option linter.unusedSimpArgs false
namespace Go.Proofs.YtbdggfpfpjijoaaGreat
open Go.RowKit

/-! ### A net out of ends in a drawn order: plain -/

def netP (bs : List Int) (c : Cu) (i : Nat) : Pc × Cu :=
  (⟨nameC i, 1 + (wideC bs c 300).1, 1 + (pickC bs (wideC bs c 300).2 200).1, 1 + (pickC bs (pickC bs (wideC bs c 300).2 200).2 90).1⟩, (pickC bs (pickC bs (wideC bs c 300).2 200).2 90).2)
def netGo1 (bs : List Int) : Nat → List Pc → List Ed → Cu → List Pc × List Ed × Cu
  | 0, ps, es, c => (ps, es, c)
  | k + 1, ps, es, c => netGo1 bs k (ps ++ [(netP bs c ps.length).1]) (es ++ [⟨ps.length, 0⟩, ⟨ps.length, 1⟩]) (netP bs c ps.length).2
def netK (bs : List Int) (c : Cu) (i : Nat) : Nat × Cu :=
  (((i : Int) - (pickC bs c ((i : Int) + 1)).1.tdiv (1 + (pickC bs (pickC bs c ((i : Int) + 1)).2 3).1)).toNat, (pickC bs (pickC bs c ((i : Int) + 1)).2 3).2)
def swapE (es : List Ed) (i k : Nat) : List Ed := (es.set i (es.getD k ⟨0, 0⟩)).set k (es.getD i ⟨0, 0⟩)
def netGo2 (bs : List Int) : Nat → List Ed → Cu → List Ed × Cu
  | 0, es, c => (es, c)
  | i + 1, es, c => netGo2 bs i (swapE es (i + 1) (netK bs c (i + 1)).1) (netK bs c (i + 1)).2
def kinds : List Nat := [1, 2, 2, 3, 3, 3, 4]
def netKind (bs : List Int) (c : Cu) (m : Nat) : Nat × Cu := (if m < kinds.getD (pickC bs c 7).1.toNat 1 then 1 else kinds.getD (pickC bs c 7).1.toNat 1, (pickC bs c 7).2)
def netJ (es : List Ed) (kd j : Nat) : Jt := ⟨kd, if 3 ≤ kd then nameC (100 + j) else ⟨#[]⟩, es.take kd⟩
def netGo3 (bs : List Int) : Nat → List Jt → List Ed → Cu → List Jt × Cu
  | 0, js, _, c => (js, c)
  | f + 1, js, es, c => if es.length = 0 then (js, c) else netGo3 bs f (js ++ [netJ es (netKind bs c es.length).1 js.length]) (es.drop (netKind bs c es.length).1) (netKind bs c es.length).2
def net1 (bs : List Int) (c : Cu) : List Pc × List Ed × Cu := netGo1 bs (1 + (pickC bs c 9).1).toNat [] [] (pickC bs c 9).2
def net2 (bs : List Int) (c : Cu) : List Ed × Cu := netGo2 bs ((net1 bs c).2.1.length - 1) (net1 bs c).2.1 (net1 bs c).2.2
def net3 (bs : List Int) (c : Cu) : List Jt × Cu := netGo3 bs (net2 bs c).1.length [] (net2 bs c).1 (net2 bs c).2
def netC (bs : List Int) (c : Cu) : Nt × Cu := (⟨(net1 bs c).1, (net3 bs c).1⟩, (net3 bs c).2)

theorem netP_at (bs : List Int) (c : Cu) (i : Nat) : (netP bs c i).2.at_ ≤ c.at_ + 6 := by
  have h1 := wideC_at bs c 300
  have h2 := pickC_at bs (wideC bs c 300).2 200
  have h3 := pickC_at bs (pickC bs (wideC bs c 300).2 200).2 90
  show (pickC bs (pickC bs (wideC bs c 300).2 200).2 90).2.at_ ≤ _
  omega
theorem netGo1_at (bs : List Int) : ∀ (k : Nat) (ps : List Pc) (es : List Ed) (c : Cu), (netGo1 bs k ps es c).2.2.at_ ≤ c.at_ + 6 * k := by
  intro k
  induction k with
  | zero => intro ps es c; simp [netGo1]
  | succ k ih =>
    intro ps es c
    unfold netGo1
    have h1 := ih (ps ++ [(netP bs c ps.length).1]) (es ++ [⟨ps.length, 0⟩, ⟨ps.length, 1⟩]) (netP bs c ps.length).2
    have h2 := netP_at bs c ps.length
    omega
theorem netK_at (bs : List Int) (c : Cu) (i : Nat) : (netK bs c i).2.at_ ≤ c.at_ + 4 := by
  have h1 := pickC_at bs c ((i : Int) + 1)
  have h2 := pickC_at bs (pickC bs c ((i : Int) + 1)).2 3
  show (pickC bs (pickC bs c ((i : Int) + 1)).2 3).2.at_ ≤ _
  omega
theorem netK_in (bs : List Int) (c : Cu) (i : Nat) : (0 ≤ (pickC bs c ((i : Int) + 1)).1.tdiv (1 + (pickC bs (pickC bs c ((i : Int) + 1)).2 3).1) ∧ (pickC bs c ((i : Int) + 1)).1.tdiv (1 + (pickC bs (pickC bs c ((i : Int) + 1)).2 3).1) ≤ i) ∧ (netK bs c i).1 ≤ i := by
  have h1 := pickC_in bs c ((i : Int) + 1)
  have h2 := pickC_in bs (pickC bs c ((i : Int) + 1)).2 3
  have h3 : 0 ≤ (pickC bs c ((i : Int) + 1)).1.tdiv (1 + (pickC bs (pickC bs c ((i : Int) + 1)).2 3).1) := Int.tdiv_nonneg h1.1 (by omega)
  have h4 : (pickC bs c ((i : Int) + 1)).1.tdiv (1 + (pickC bs (pickC bs c ((i : Int) + 1)).2 3).1) ≤ (pickC bs c ((i : Int) + 1)).1 := Int.tdiv_le_self _ h1.1
  refine ⟨⟨h3, by omega⟩, ?_⟩
  unfold netK
  dsimp only
  omega
theorem netGo2_at (bs : List Int) : ∀ (i : Nat) (es : List Ed) (c : Cu), (netGo2 bs i es c).2.at_ ≤ c.at_ + 4 * i := by
  intro i
  induction i with
  | zero => intro es c; simp [netGo2]
  | succ i ih =>
    intro es c
    unfold netGo2
    have h1 := ih (swapE es (i + 1) (netK bs c (i + 1)).1) (netK bs c (i + 1)).2
    have h2 := netK_at bs c (i + 1)
    omega
theorem swapE_len (es : List Ed) (i k : Nat) : (swapE es i k).length = es.length := by simp [swapE]
theorem netGo2_len (bs : List Int) : ∀ (i : Nat) (es : List Ed) (c : Cu), (netGo2 bs i es c).1.length = es.length := by
  intro i
  induction i with
  | zero => intro es c; rfl
  | succ i ih =>
    intro es c
    unfold netGo2
    rw [ih, swapE_len]
theorem netGo1_len (bs : List Int) : ∀ (k : Nat) (ps : List Pc) (es : List Ed) (c : Cu), (netGo1 bs k ps es c).1.length = ps.length + k ∧ (netGo1 bs k ps es c).2.1.length = es.length + 2 * k := by
  intro k
  induction k with
  | zero => intro ps es c; exact ⟨rfl, rfl⟩
  | succ k ih =>
    intro ps es c
    unfold netGo1
    have h1 := ih (ps ++ [(netP bs c ps.length).1]) (es ++ [⟨ps.length, 0⟩, ⟨ps.length, 1⟩]) (netP bs c ps.length).2
    simp only [List.length_append, List.length_cons, List.length_nil] at h1
    exact ⟨by omega, by omega⟩
theorem kinds_in (i : Nat) : 1 ≤ kinds.getD i 1 ∧ kinds.getD i 1 ≤ 4 := by
  match i with
  | 0 | 1 | 2 | 3 | 4 | 5 | 6 => exact ⟨by decide, by decide⟩
  | n + 7 => simp [kinds]
theorem netKind_in (bs : List Int) (c : Cu) {m : Nat} (hm : 0 < m) : 1 ≤ (netKind bs c m).1 ∧ (netKind bs c m).1 ≤ m ∧ (netKind bs c m).1 ≤ 4 := by
  have := kinds_in (pickC bs c 7).1.toNat
  unfold netKind
  dsimp only
  split <;> omega
theorem netGo3_at (bs : List Int) : ∀ (f : Nat) (js : List Jt) (es : List Ed) (c : Cu), (netGo3 bs f js es c).2.at_ ≤ c.at_ + 2 * f ∧ (netGo3 bs f js es c).1.length ≤ js.length + f := by
  intro f
  induction f with
  | zero => intro js es c; exact ⟨Nat.le_refl _, Nat.le_refl _⟩
  | succ f ih =>
    intro js es c
    unfold netGo3
    split
    · exact ⟨by dsimp only; omega, by dsimp only; omega⟩
    · have h1 := ih (js ++ [netJ es (netKind bs c es.length).1 js.length]) (es.drop (netKind bs c es.length).1) (netKind bs c es.length).2
      have h2 : (netKind bs c es.length).2.at_ ≤ c.at_ + 2 := pickC_at bs c 7
      rw [List.length_append, List.length_singleton] at h1
      exact ⟨by omega, by omega⟩
/-- With enough fuel the fuel does not matter. -/
theorem netGo3_fuel (bs : List Int) : ∀ (f g : Nat) (js : List Jt) (es : List Ed) (c : Cu), es.length ≤ f → es.length ≤ g → netGo3 bs f js es c = netGo3 bs g js es c := by
  intro f
  induction f with
  | zero =>
    intro g js es c hf _
    cases g with
    | zero => rfl
    | succ g => simp only [netGo3]; rw [if_pos (by omega)]
  | succ f ih =>
    intro g js es c hf hg
    cases g with
    | zero => simp only [netGo3]; rw [if_pos (by omega)]
    | succ g =>
      simp only [netGo3]
      by_cases h0 : es.length = 0
      · rw [if_pos h0, if_pos h0]
      · rw [if_neg h0, if_neg h0]
        have h1 := netKind_in bs c (m := es.length) (by omega)
        exact ih g _ _ _ (by rw [List.length_drop]; omega) (by rw [List.length_drop]; omega)
theorem netC_at (bs : List Int) (c : Cu) : (netC bs c).2.at_ ≤ c.at_ + 400 := by
  have h0 := pickC_in bs c 9
  have h0' := pickC_at bs c 9
  have h1 := netGo1_at bs (1 + (pickC bs c 9).1).toNat [] [] (pickC bs c 9).2
  have h1' := netGo1_len bs (1 + (pickC bs c 9).1).toNat [] [] (pickC bs c 9).2
  have h2 := netGo2_at bs ((net1 bs c).2.1.length - 1) (net1 bs c).2.1 (net1 bs c).2.2
  have h2' := netGo2_len bs ((net1 bs c).2.1.length - 1) (net1 bs c).2.1 (net1 bs c).2.2
  have h3 := (netGo3_at bs (net2 bs c).1.length [] (net2 bs c).1 (net2 bs c).2).1
  change (net1 bs c).2.2.at_ ≤ _ at h1
  change _ ∧ (net1 bs c).2.1.length = _ at h1'
  change (net2 bs c).2.at_ ≤ _ at h2
  change (net2 bs c).1.length = _ at h2'
  show (net3 bs c).2.at_ ≤ _
  change (net3 bs c).2.at_ ≤ _ at h3
  simp only [List.length_nil] at h1'
  omega

/-! ### Ends in memory, that are written into -/

def EdC (w : World) (E off : Nat) (es : List Ed) : Prop := E < w.heap.size ∧ (∀ j, w.frozen? ⟨E, j, none⟩ = false) ∧ ∀ i (h : i < es.length), w.cell? ⟨E, off + i * 2, none⟩ = some (.int .i64 es[i].piece) ∧ w.cell? ⟨E, off + i * 2 + 1, none⟩ = some (.int .i64 es[i].side)
theorem EdC.blk {w w' : World} {E off : Nat} {es : List Ed} (h : EdC w E off es) (hs : w.heap.size ≤ w'.heap.size) (hb : w'.heap[E]? = w.heap[E]?) : EdC w' E off es :=
  ⟨Nat.lt_of_lt_of_le h.1 hs, fun j => by rw [World.frozen?_of_block (w := w) (a := ⟨E, j, none⟩) hb]; exact h.2.1 j, fun i hi => by rw [World.cell?_of_block (w := w) (a := ⟨E, off + i * 2, none⟩) hb, World.cell?_of_block (w := w) (a := ⟨E, off + i * 2 + 1, none⟩) hb]; exact h.2.2 i hi⟩
theorem EdC.below {w w' : World} {E off : Nat} {es : List Ed} (h : EdC w E off es) (hb : Below w.heap.size w w') : EdC w' E off es := h.blk hb.size (hb.block E h.1)
theorem EdC.drop {w : World} {E off : Nat} {es : List Ed} (h : EdC w E off es) (k : Nat) : EdC w E (off + k * 2) (es.drop k) :=
  ⟨h.1, h.2.1, fun i hi => by
    have hi' : k + i < es.length := by rw [List.length_drop] at hi; omega
    have := h.2.2 (k + i) hi'
    rw [List.getElem_drop, show off + k * 2 + i * 2 = off + (k + i) * 2 by omega]
    exact this⟩
theorem EdC.set {w : World} {E : Nat} {es : List Ed} (h : EdC w E 0 es) {i : Nat} (hi : i < es.length) (e : Ed) : EdC ((w.setCell ⟨E, i * 2, none⟩ (.int .i64 e.piece)).setCell ⟨E, i * 2 + 1, none⟩ (.int .i64 e.side)) E 0 (es.set i e) := by
  have c0 := (h.2.2 i hi).1
  have c1 := (h.2.2 i hi).2
  rw [Nat.zero_add] at c0 c1
  refine ⟨by simpa [World.setCell] using h.1, fun j => by simpa using h.2.1 j, fun k hk => ?_⟩
  rw [List.length_set] at hk
  rw [Nat.zero_add]
  by_cases e1 : k = i
  · subst e1
    simp only [List.getElem_set_self]
    refine ⟨?_, ?_⟩
    · rw [World.cell?_setCell_other _ _ _ _ (by simp)]
      exact World.cell?_setCell_same _ _ _ c0
    · exact World.cell?_setCell_same _ _ _ ((World.cell?_setCell_other _ _ _ _ (by simp)).trans c1)
  · have hq := h.2.2 k hk
    rw [Nat.zero_add] at hq
    rw [List.getElem_set_ne (by omega)]
    refine ⟨?_, ?_⟩
    · rw [World.cell?_setCell_other _ _ _ _ (by first | (simp; done) | (simp; omega)), World.cell?_setCell_other _ _ _ _ (by first | (simp; done) | (simp; omega))]
      exact hq.1
    · rw [World.cell?_setCell_other _ _ _ _ (by first | (simp; done) | (simp; omega)), World.cell?_setCell_other _ _ _ _ (by first | (simp; done) | (simp; omega))]
      exact hq.2
theorem edC_of_row {w : World} {base : Nat} {v : Value} {es : List Ed} (h : EdRow w base v es) (hne : 0 < es.length) : ∃ E cap, v = .slice (some ⟨E, 0, none⟩) es.length cap ∧ (base ≤ E ∧ E < w.heap.size) ∧ es.length ≤ cap ∧ EdC w E 0 es := by
  obtain ⟨a, cap, e, hcap, hc⟩ := h.shape edF_len
  obtain ⟨g, rfl, hl, _⟩ := hc 0 hne
  refine ⟨g, cap, e, hl, hcap, hl.2, ?_, fun i hi => ?_⟩
  · obtain ⟨_, ⟨h1, _⟩ | ⟨g', cap', cur, h1, _, hh, _⟩⟩ := h
    · rw [e] at h1
      simp at h1
    · rw [e] at h1
      simp at h1
      obtain ⟨rfl, _⟩ := h1
      intro j
      unfold World.frozen?
      rw [hh]
      simp
  · obtain ⟨g', hg', _, hcell⟩ := hc i hi
    simp at hg'
    subst hg'
    rw [Nat.zero_add]
    exact ⟨by simpa [edF] using hcell 0 (by omega), by simpa [edF] using hcell 1 (by omega)⟩
theorem Row.snoc2 {w1 : World} {base : Nat} {v' : Value} {xs : List Ed} {x y : Ed} (h : w1.ownsRow base 180 2 v' (xs.length + 2) (xs.flatMap edF ++ (edF x ++ edF y))) : EdRow w1 base v' (xs ++ [x, y]) := by
  unfold EdRow Row
  rw [List.flatMap_append, List.length_append]
  simpa using h
theorem ed2_one (x y : Ed) : ∀ u ∈ edF x ++ edF y, u.oneCell' = true := by
  intro u hu
  simp [edF] at hu
  rcases hu with rfl | rfl | rfl | rfl <;> rfl
theorem ed_one (x : Ed) : ∀ u ∈ edF x, u.oneCell' = true := by
  intro u hu
  simp [edF] at hu
  rcases hu with rfl | rfl <;> rfl
theorem swapE_eq {es : List Ed} {i k : Nat} (hi : i < es.length) (hk : k < es.length) : swapE es i k = (es.set i es[k]).set k es[i] := by
  unfold swapE
  simp [List.getD_eq_getElem?_getD, hi, hk]
end Go.Proofs.YtbdggfpfpjijoaaGreat

