import Derived.Test.YtbdggfpfpjijoaaGreatDr11
namespace Go.Proofs.YtbdggfpfpjijoaaGreat
open Go.RowKit

/-! ### The nets that are drawn are small -/

theorem nameC_size (i : Nat) : (nameC i).size ≤ i + 2 := by
  have := decS_size i
  unfold nameC
  rw [ByteArray.size_append, strOne]
  omega
def PcsSm (ps : List Pc) : Prop := ∀ p ∈ ps, p.name.size ≤ 1000 ∧ 0 ≤ p.len ∧ p.len ≤ 1000
def JtsSm (js : List Jt) : Prop := ∀ j ∈ js, j.ends.length ≤ 1000 ∧ j.name.size ≤ 1000
theorem PcsSm.snoc {ps : List Pc} {p : Pc} (h : PcsSm ps) (hp : p.name.size ≤ 1000 ∧ 0 ≤ p.len ∧ p.len ≤ 1000) : PcsSm (ps ++ [p]) := by
  intro q hq
  rcases List.mem_append.1 hq with hq | hq
  · exact h q hq
  · simp at hq
    subst hq
    exact hp
theorem JtsSm.snoc {js : List Jt} {j : Jt} (h : JtsSm js) (hp : j.ends.length ≤ 1000 ∧ j.name.size ≤ 1000) : JtsSm (js ++ [j]) := by
  intro q hq
  rcases List.mem_append.1 hq with hq | hq
  · exact h q hq
  · simp at hq
    subst hq
    exact hp
theorem pieceC_sm (bs : List Int) (c : Cu) (n : Nt) (h : PcsSm n.pieces) (hl : n.pieces.length ≤ 900) : PcsSm (pieceC bs c n).1.pieces := by
  have h1 := nameC_size n.pieces.length
  have h2 := wideC_in bs c (show (0 : Int) < 300 by omega)
  exact h.snoc ⟨by dsimp only; omega, by dsimp only; omega, by dsimp only; omega⟩
theorem three_sm (bs : List Int) (c : Cu) (n : Nt) (h : PcsSm n.pieces) (hl : n.pieces.length ≤ 800) : PcsSm (three bs c n).1.pieces ∧ (three bs c n).1.pieces.length = n.pieces.length + 3 := by
  have l1 := pieceC_len bs c n
  have l2 := pieceC_len bs (pieceC bs c n).2 (pieceC bs c n).1
  have l3 := pieceC_len bs (pieceC bs (pieceC bs c n).2 (pieceC bs c n).1).2 (pieceC bs (pieceC bs c n).2 (pieceC bs c n).1).1
  have h1 := pieceC_sm bs c n h (by omega)
  have h2 := pieceC_sm bs (pieceC bs c n).2 (pieceC bs c n).1 h1 (by omega)
  have h3 := pieceC_sm bs (pieceC bs (pieceC bs c n).2 (pieceC bs c n).1).2 (pieceC bs (pieceC bs c n).2 (pieceC bs c n).1).1 h2 (by omega)
  exact ⟨h3, by unfold three; omega⟩
theorem stationGo_sm (bs : List Int) : ∀ (k p : Nat) (n : Nt) (c : Cu), n.pieces.length + 3 * k ≤ 100 → n.joints.length + 2 * k ≤ 100 → PcsSm n.pieces → JtsSm n.joints →
    PcsSm (stationGo bs k p n c).2.1.pieces ∧ JtsSm (stationGo bs k p n c).2.1.joints ∧ (stationGo bs k p n c).2.1.pieces.length ≤ 100 ∧ (stationGo bs k p n c).2.1.joints.length ≤ 100 := by
  intro k
  induction k with
  | zero => intro p n c h1 h2 h3 h4; exact ⟨h3, h4, by simp only [stationGo]; omega, by simp only [stationGo]; omega⟩
  | succ k ih =>
    intro p n c h1 h2 h3 h4
    unfold stationGo
    obtain ⟨hs, hsl⟩ := three_sm bs c n h3 (by omega)
    have n1 := nameC_size (100 + n.joints.length)
    have n2 := nameC_size (100 + (n.joints.length + 1))
    refine ih _ _ _ ?_ ?_ hs ?_
    · show (three bs c n).1.pieces.length + 3 * k ≤ 100
      omega
    · simp only [List.length_append, List.length_singleton]
      omega
    · exact (h4.snoc (j := swA n.joints.length p n.pieces.length (n.pieces.length + 1)) ⟨by simp [swA], by show (nameC (100 + n.joints.length)).size ≤ 1000; omega⟩).snoc (j := swB (n.joints.length + 1) (n.pieces.length + 2) n.pieces.length (n.pieces.length + 1)) ⟨by simp [swB], by show (nameC (100 + (n.joints.length + 1))).size ≤ 1000; omega⟩
theorem endJ_sm (p s : Nat) : (endJ p s).ends.length ≤ 1000 ∧ (endJ p s).name.size ≤ 1000 := ⟨by simp [endJ], by show (⟨#[]⟩ : ByteArray).size ≤ 1000; simp [ByteArray.size]⟩
theorem small_of {n : Nt} (h1 : PcsSm n.pieces) (h2 : JtsSm n.joints) (h3 : n.pieces.length ≤ 1000) (h4 : n.joints.length ≤ 1000) : NtSmall n :=
  ⟨by omega, by omega, fun i hi => by have := h2 _ (List.getElem_mem hi); omega, fun i hi => by have := h1 _ (List.getElem_mem hi); omega, fun i hi => by have := h1 _ (List.getElem_mem hi); omega⟩
theorem stationC_sm (bs : List Int) (c : Cu) : NtSmall (stationC bs c).1 := by
  have h0 := pickC_in bs c 3
  have h1 : PcsSm (station1 bs c).1.pieces := pieceC_sm bs (pickC bs c 3).2 ⟨[], []⟩ (fun p hp => by cases hp) (by simp)
  have l1 : (station1 bs c).1.pieces.length = 1 := pieceC_len bs (pickC bs c 3).2 ⟨[], []⟩
  have h2 : JtsSm (station1 bs c).1.joints := JtsSm.snoc (js := []) (fun p hp => by cases hp) (endJ_sm 0 0)
  have l2 : (station1 bs c).1.joints.length = 1 := rfl
  obtain ⟨g1, g2, g3, g4⟩ := stationGo_sm bs (1 + (pickC bs c 3).1).toNat 0 (station1 bs c).1 (station1 bs c).2 (by omega) (by omega) h1 h2
  refine small_of (n := (stationC bs c).1) g1 (g2.snoc (endJ_sm _ _)) (by show List.length (stationGo bs (1 + (pickC bs c 3).1).toNat 0 (station1 bs c).1 (station1 bs c).2).2.1.pieces ≤ 1000; omega) ?_
  show List.length ((stationGo bs (1 + (pickC bs c 3).1).toNat 0 (station1 bs c).1 (station1 bs c).2).2.1.joints ++ [_]) ≤ 1000
  rw [List.length_append, List.length_singleton]
  omega
theorem netGo1_sm (bs : List Int) : ∀ (k : Nat) (ps : List Pc) (es : List Ed) (c : Cu), ps.length + k ≤ 100 → PcsSm ps → PcsSm (netGo1 bs k ps es c).1 := by
  intro k
  induction k with
  | zero => intro ps es c _ h; exact h
  | succ k ih =>
    intro ps es c hl h
    unfold netGo1
    refine ih _ _ _ (by rw [List.length_append, List.length_singleton]; omega) (h.snoc ?_)
    have h1 := nameC_size ps.length
    have h2 := wideC_in bs c (show (0 : Int) < 300 by omega)
    unfold netP
    dsimp only
    exact ⟨by omega, by omega, by omega⟩
theorem netGo3_sm (bs : List Int) : ∀ (f : Nat) (js : List Jt) (es : List Ed) (c : Cu), js.length + f ≤ 100 → es.length ≤ 100 → JtsSm js → JtsSm (netGo3 bs f js es c).1 := by
  intro f
  induction f with
  | zero => intro js es c _ _ h; exact h
  | succ f ih =>
    intro js es c hl he h
    unfold netGo3
    split
    · exact h
    · refine ih _ _ _ (by rw [List.length_append, List.length_singleton]; omega) (by rw [List.length_drop]; omega) (h.snoc ⟨?_, ?_⟩)
      · simp only [netJ, List.length_take]
        omega
      · have h1 := nameC_size (100 + js.length)
        unfold netJ
        dsimp only
        split
        · omega
        · simp [ByteArray.size]
theorem netC_sm (bs : List Int) (c : Cu) : NtSmall (netC bs c).1 := by
  have h0 := pickC_in bs c 9
  have l1 := netGo1_len bs (1 + (pickC bs c 9).1).toNat [] [] (pickC bs c 9).2
  have l2 := netGo2_len bs ((net1 bs c).2.1.length - 1) (net1 bs c).2.1 (net1 bs c).2.2
  have l3 := (netGo3_at bs (net2 bs c).1.length [] (net2 bs c).1 (net2 bs c).2).2
  change (net1 bs c).1.length = _ ∧ (net1 bs c).2.1.length = _ at l1
  change (net2 bs c).1.length = _ at l2
  change (net3 bs c).1.length ≤ _ at l3
  simp only [List.length_nil] at l1 l3
  have p1 : PcsSm (net1 bs c).1 := netGo1_sm bs (1 + (pickC bs c 9).1).toNat [] [] (pickC bs c 9).2 (by simp only [List.length_nil]; omega) (fun p hp => by cases hp)
  have p2 : JtsSm (net3 bs c).1 := netGo3_sm bs (net2 bs c).1.length [] (net2 bs c).1 (net2 bs c).2 (by simp only [List.length_nil]; omega) (by omega) (fun p hp => by cases hp)
  exact small_of (n := (netC bs c).1) p1 p2 (show (net1 bs c).1.length ≤ 1000 by omega) (show (net3 bs c).1.length ≤ 1000 by omega)
theorem trackC_sm (bs : List Int) (c : Cu) : NtSmall (trackC bs c).1 := by
  unfold trackC
  split
  · exact stationC_sm _ _
  · exact netC_sm _ _
end Go.Proofs.YtbdggfpfpjijoaaGreat

