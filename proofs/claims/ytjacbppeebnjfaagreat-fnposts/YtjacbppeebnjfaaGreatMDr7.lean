import Derived.Test.YtjacbppeebnjfaaGreatDr6
import Derived.Test.YtjacbppeebnjfaaGreatMRo
set_option linter.unusedSimpArgs false
namespace Go.Proofs.YtjacbppeebnjfaaGreat
open Go.RowKit

def netP (bs : List Int) (c : Cu) (i : Nat) : Pc × Cu :=
 (⟨nameC i, 1 + (wideC bs c 300).1, 1 + (pickC bs (wideC bs c 300).2 200).1, 1 + (pickC bs (pickC bs (wideC bs c 300).2 200).2 90).1⟩, (pickC bs (pickC bs (wideC bs c 300).2 200).2 90).2)
def netGo1 (bs : List Int) : Nat → List Pc → List Ed → Cu → List Pc × List Ed × Cu
 | 0, ps, es, c => (ps, es, c)
 | k + 1, ps, es, c => netGo1 bs k (ps ++ [(netP bs c ps.length).1]) (es ++ [⟨ps.length, 0⟩, ⟨ps.length, 1⟩]) (netP bs c ps.length).2
def netK (bs : List Int) (c : Cu) (i : Nat) : Nat × Cu :=
 (((i : Int) - (pickC bs c ((i : Int) + 1)).1.tdiv (1 + (pickC bs (pickC bs c ((i : Int) + 1)).2 3).1)).toNat, (pickC bs (pickC bs c ((i : Int) + 1)).2 3).2)
def swapE (es : List Ed) (i k : Nat) : List Ed := (es.set i (es.getD k ⟨0, 0⟩)).set k (es.getD i ⟨0, 0⟩)
def netGo2 (bs : List Int) : Nat → List Ed → Cu → List Ed × Cu
 | 0, es, c => (es, c)
 | i + 1, es, c => netGo2 bs i (swapE es (i + 1) (netK bs c (i + 1)).1) (netK bs c (i + 1)).2
def kinds : List Nat := [1, 2, 2, 3, 3, 3, 4]
def netKind (bs : List Int) (c : Cu) (m : Nat) : Nat × Cu := (if m < kinds.getD (pickC bs c 7).1.toNat 1 then 1 else kinds.getD (pickC bs c 7).1.toNat 1, (pickC bs c 7).2)
def netJ (es : List Ed) (kd j : Nat) : Jt := ⟨kd, if 3 ≤ kd then nameC (100 + j) else ⟨#[]⟩, es.take kd⟩
def netGo3 (bs : List Int) : Nat → List Jt → List Ed → Cu → List Jt × Cu
 | 0, js, _, c => (js, c)
 | f + 1, js, es, c => if es.length = 0 then (js, c) else netGo3 bs f (js ++ [netJ es (netKind bs c es.length).1 js.length]) (es.drop (netKind bs c es.length).1) (netKind bs c es.length).2
def net1 (bs : List Int) (c : Cu) : List Pc × List Ed × Cu := netGo1 bs (1 + (pickC bs c 9).1).toNat [] [] (pickC bs c 9).2
def net2 (bs : List Int) (c : Cu) : List Ed × Cu := netGo2 bs ((net1 bs c).2.1.length - 1) (net1 bs c).2.1 (net1 bs c).2.2
def net3 (bs : List Int) (c : Cu) : List Jt × Cu := netGo3 bs (net2 bs c).1.length [] (net2 bs c).1 (net2 bs c).2
def netC (bs : List Int) (c : Cu) : Nt × Cu := (⟨(net1 bs c).1, (net3 bs c).1⟩, (net3 bs c).2)

theorem netP_at (bs : List Int) (c : Cu) (i : Nat) : (netP bs c i).2.at_ ≤ c.at_ + 6 := by
 have h1 := wideC_at bs c 300
 have h2 := pickC_at bs (wideC bs c 300).2 200
 have h3 := pickC_at bs (pickC bs (wideC bs c 300).2 200).2 90
 show (pickC bs (pickC bs (wideC bs c 300).2 200).2 90).2.at_ ≤ _
 omega
theorem netGo1_at (bs : List Int) : ∀ (k : Nat) (ps : List Pc) (es : List Ed) (c : Cu), (netGo1 bs k ps es c).2.2.at_ ≤ c.at_ + 6 * k := by
 intro k
 induction k with
 | zero => intro ps es c; simp [netGo1]
 | succ k ih =>
  intro ps es c
  unfold netGo1
  have h1 := ih (ps ++ [(netP bs c ps.length).1]) (es ++ [⟨ps.length, 0⟩, ⟨ps.length, 1⟩]) (netP bs c ps.length).2
  have h2 := netP_at bs c ps.length
  omega
theorem netK_at (bs : List Int) (c : Cu) (i : Nat) : (netK bs c i).2.at_ ≤ c.at_ + 4 := by
 have h1 := pickC_at bs c ((i : Int) + 1)
 have h2 := pickC_at bs (pickC bs c ((i : Int) + 1)).2 3
 show (pickC bs (pickC bs c ((i : Int) + 1)).2 3).2.at_ ≤ _
 omega
theorem netK_in (bs : List Int) (c : Cu) (i : Nat) : (0 ≤ (pickC bs c ((i : Int) + 1)).1.tdiv (1 + (pickC bs (pickC bs c ((i : Int) + 1)).2 3).1) ∧ (pickC bs c ((i : Int) + 1)).1.tdiv (1 + (pickC bs (pickC bs c ((i : Int) + 1)).2 3).1) ≤ i) ∧ (netK bs c i).1 ≤ i := by
 have h1 := pickC_in bs c ((i : Int) + 1)
 have h2 := pickC_in bs (pickC bs c ((i : Int) + 1)).2 3
 have h3 : 0 ≤ (pickC bs c ((i : Int) + 1)).1.tdiv (1 + (pickC bs (pickC bs c ((i : Int) + 1)).2 3).1) := Int.tdiv_nonneg h1.1 (by omega)
 have h4 : (pickC bs c ((i : Int) + 1)).1.tdiv (1 + (pickC bs (pickC bs c ((i : Int) + 1)).2 3).1) ≤ (pickC bs c ((i : Int) + 1)).1 := Int.tdiv_le_self _ h1.1
 refine ⟨⟨h3, by omega⟩, ?_⟩
 unfold netK
 dsimp only
 omega
theorem netGo2_at (bs : List Int) : ∀ (i : Nat) (es : List Ed) (c : Cu), (netGo2 bs i es c).2.at_ ≤ c.at_ + 4 * i := by
 intro i
 induction i with
 | zero => intro es c; simp [netGo2]
 | succ i ih =>
  intro es c
  unfold netGo2
  have h1 := ih (swapE es (i + 1) (netK bs c (i + 1)).1) (netK bs c (i + 1)).2
  have h2 := netK_at bs c (i + 1)
  omega
theorem swapE_len (es : List Ed) (i k : Nat) : (swapE es i k).length = es.length := by simp [swapE]
theorem netGo2_len (bs : List Int) : ∀ (i : Nat) (es : List Ed) (c : Cu), (netGo2 bs i es c).1.length = es.length := by
 intro i
 induction i with
 | zero => intro es c; rfl
 | succ i ih =>
  intro es c
  unfold netGo2
  rw [ih, swapE_len]
theorem netGo1_len (bs : List Int) : ∀ (k : Nat) (ps : List Pc) (es : List Ed) (c : Cu), (netGo1 bs k ps es c).1.length = ps.length + k ∧ (netGo1 bs k ps es c).2.1.length = es.length + 2 * k := by
 intro k
 induction k with
 | zero => intro ps es c; exact ⟨rfl, rfl⟩
 | succ k ih =>
  intro ps es c
  unfold netGo1
  have h1 := ih (ps ++ [(netP bs c ps.length).1]) (es ++ [⟨ps.length, 0⟩, ⟨ps.length, 1⟩]) (netP bs c ps.length).2
  simp only [List.length_append, List.length_cons, List.length_nil] at h1
  exact ⟨by omega, by omega⟩
theorem kinds_in (i : Nat) : 1 ≤ kinds.getD i 1 ∧ kinds.getD i 1 ≤ 4 := by
 match i with
 | 0 | 1 | 2 | 3 | 4 | 5 | 6 => exact ⟨by decide, by decide⟩
 | n + 7 => simp [kinds]
theorem netKind_in (bs : List Int) (c : Cu) {m : Nat} (hm : 0 < m) : 1 ≤ (netKind bs c m).1 ∧ (netKind bs c m).1 ≤ m ∧ (netKind bs c m).1 ≤ 4 := by
 have := kinds_in (pickC bs c 7).1.toNat
 unfold netKind
 dsimp only
 split <;> omega
theorem netGo3_at (bs : List Int) : ∀ (f : Nat) (js : List Jt) (es : List Ed) (c : Cu), (netGo3 bs f js es c).2.at_ ≤ c.at_ + 2 * f ∧ (netGo3 bs f js es c).1.length ≤ js.length + f := by
 intro f
 induction f with
 | zero => intro js es c; exact ⟨Nat.le_refl _, Nat.le_refl _⟩
 | succ f ih =>
  intro js es c
  unfold netGo3
  split
  ·exact ⟨by dsimp only; omega, by dsimp only; omega⟩
  ·have h1 := ih (js ++ [netJ es (netKind bs c es.length).1 js.length]) (es.drop (netKind bs c es.length).1) (netKind bs c es.length).2
   have h2 : (netKind bs c es.length).2.at_ ≤ c.at_ + 2 := pickC_at bs c 7
   rw [List.length_append, List.length_singleton] at h1
   exact ⟨by omega, by omega⟩
theorem netGo3_fuel (bs : List Int) : ∀ (f g : Nat) (js : List Jt) (es : List Ed) (c : Cu), es.length ≤ f → es.length ≤ g → netGo3 bs f js es c = netGo3 bs g js es c := by
 intro f
 induction f with
 | zero =>
  intro g js es c hf _
  cases g with
  | zero => rfl
  | succ g => simp only [netGo3]; rw [if_pos (by omega)]
 | succ f ih =>
  intro g js es c hf hg
  cases g with
  | zero => simp only [netGo3]; rw [if_pos (by omega)]
  | succ g =>
   simp only [netGo3]
   by_cases h0 : es.length = 0
   ·rw [if_pos h0, if_pos h0]
   ·rw [if_neg h0, if_neg h0]
    have h1 := netKind_in bs c (m := es.length) (by omega)
    exact ih g _ _ _ (by rw [List.length_drop]; omega) (by rw [List.length_drop]; omega)
theorem netC_at (bs : List Int) (c : Cu) : (netC bs c).2.at_ ≤ c.at_ + 400 := by
 have h0 := pickC_in bs c 9
 have h0' := pickC_at bs c 9
 have h1 := netGo1_at bs (1 + (pickC bs c 9).1).toNat [] [] (pickC bs c 9).2
 have h1' := netGo1_len bs (1 + (pickC bs c 9).1).toNat [] [] (pickC bs c 9).2
 have h2 := netGo2_at bs ((net1 bs c).2.1.length - 1) (net1 bs c).2.1 (net1 bs c).2.2
 have h2' := netGo2_len bs ((net1 bs c).2.1.length - 1) (net1 bs c).2.1 (net1 bs c).2.2
 have h3 := (netGo3_at bs (net2 bs c).1.length [] (net2 bs c).1 (net2 bs c).2).1
 change (net1 bs c).2.2.at_ ≤ _ at h1
 change _ ∧ (net1 bs c).2.1.length = _ at h1'
 change (net2 bs c).2.at_ ≤ _ at h2
 change (net2 bs c).1.length = _ at h2'
 show (net3 bs c).2.at_ ≤ _
 change (net3 bs c).2.at_ ≤ _ at h3
 simp only [List.length_nil] at h1'
 omega

def EdC (w : World) (E off : Nat) (es : List Ed) : Prop := E < w.heap.size ∧ (∀ j, w.frozen? ⟨E, j, none⟩ = false) ∧ ∀ i (h : i < es.length), w.cell? ⟨E, off + i * 2, none⟩ = some (.int .i64 es[i].piece) ∧ w.cell? ⟨E, off + i * 2 + 1, none⟩ = some (.int .i64 es[i].side)
theorem EdC.blk {w w' : World} {E off : Nat} {es : List Ed} (h : EdC w E off es) (hs : w.heap.size ≤ w'.heap.size) (hb : w'.heap[E]? = w.heap[E]?) : EdC w' E off es :=
 ⟨Nat.lt_of_lt_of_le h.1 hs, fun j => by rw [World.frozen?_of_block (w := w) (a := ⟨E, j, none⟩) hb]; exact h.2.1 j, fun i hi => by rw [World.cell?_of_block (w := w) (a := ⟨E, off + i * 2, none⟩) hb, World.cell?_of_block (w := w) (a := ⟨E, off + i * 2 + 1, none⟩) hb]; exact h.2.2 i hi⟩
theorem EdC.below {w w' : World} {E off : Nat} {es : List Ed} (h : EdC w E off es) (hb : Below w.heap.size w w') : EdC w' E off es := h.blk hb.size (hb.block E h.1)
theorem EdC.drop {w : World} {E off : Nat} {es : List Ed} (h : EdC w E off es) (k : Nat) : EdC w E (off + k * 2) (es.drop k) :=
 ⟨h.1, h.2.1, fun i hi => by
  have hi' : k + i < es.length := by rw [List.length_drop] at hi; omega
  have := h.2.2 (k + i) hi'
  rw [List.getElem_drop, show off + k * 2 + i * 2 = off + (k + i) * 2 by omega]
  exact this⟩
theorem EdC.set {w : World} {E : Nat} {es : List Ed} (h : EdC w E 0 es) {i : Nat} (hi : i < es.length) (e : Ed) : EdC ((w.setCell ⟨E, i * 2, none⟩ (.int .i64 e.piece)).setCell ⟨E, i * 2 + 1, none⟩ (.int .i64 e.side)) E 0 (es.set i e) := by
 have c0 := (h.2.2 i hi).1
 have c1 := (h.2.2 i hi).2
 rw [Nat.zero_add] at c0 c1
 refine ⟨by simpa [World.setCell] using h.1, fun j => by simpa using h.2.1 j, fun k hk => ?_⟩
 rw [List.length_set] at hk
 rw [Nat.zero_add]
 by_cases e1 : k = i
 ·subst e1
  simp only [List.getElem_set_self]
  refine ⟨?_, ?_⟩
  ·rw [World.cell?_setCell_other _ _ _ _ (by simp)]
   exact World.cell?_setCell_same _ _ _ c0
  ·exact World.cell?_setCell_same _ _ _ ((World.cell?_setCell_other _ _ _ _ (by simp)).trans c1)
 ·have hq := h.2.2 k hk
  rw [Nat.zero_add] at hq
  rw [List.getElem_set_ne (by omega)]
  refine ⟨?_, ?_⟩
  ·rw [World.cell?_setCell_other _ _ _ _ (by first | (simp; done) | (simp; omega)), World.cell?_setCell_other _ _ _ _ (by first | (simp; done) | (simp; omega))]
   exact hq.1
  ·rw [World.cell?_setCell_other _ _ _ _ (by first | (simp; done) | (simp; omega)), World.cell?_setCell_other _ _ _ _ (by first | (simp; done) | (simp; omega))]
   exact hq.2
theorem edC_of_row {w : World} {base : Nat} {v : Value} {es : List Ed} (h : EdRow w base v es) (hne : 0 < es.length) : ∃ E cap, v = .slice (some ⟨E, 0, none⟩) es.length cap ∧ (base ≤ E ∧ E < w.heap.size) ∧ es.length ≤ cap ∧ EdC w E 0 es := by
 obtain ⟨a, cap, e, hcap, hc⟩ := h.shape edF_len
 obtain ⟨g, rfl, hl, _⟩ := hc 0 hne
 refine ⟨g, cap, e, hl, hcap, hl.2, ?_, fun i hi => ?_⟩
 ·obtain ⟨_, ⟨h1, _⟩ | ⟨g', cap', cur, h1, _, hh, _⟩⟩ := h
  ·rw [e] at h1
   simp at h1
  ·rw [e] at h1
   simp at h1
   obtain ⟨rfl, _⟩ := h1
   intro j
   unfold World.frozen?
   rw [hh]
   simp
 ·obtain ⟨g', hg', _, hcell⟩ := hc i hi
  simp at hg'
  subst hg'
  rw [Nat.zero_add]
  exact ⟨by simpa [edF] using hcell 0 (by omega), by simpa [edF] using hcell 1 (by omega)⟩
theorem Row.snoc2 {w1 : World} {base : Nat} {v' : Value} {xs : List Ed} {x y : Ed} (h : w1.ownsRow base 141 2 v' (xs.length + 2) (xs.flatMap edF ++ (edF x ++ edF y))) : EdRow w1 base v' (xs ++ [x, y]) := by
 unfold EdRow Row
 rw [List.flatMap_append, List.length_append]
 simpa using h
theorem ed2_one (x y : Ed) : ∀ u ∈ edF x ++ edF y, u.oneCell' = true := by
 intro u hu
 simp [edF] at hu
 rcases hu with rfl | rfl | rfl | rfl <;> rfl
theorem ed_one (x : Ed) : ∀ u ∈ edF x, u.oneCell' = true := by
 intro u hu
 simp [edF] at hu
 rcases hu with rfl | rfl <;> rfl
theorem swapE_eq {es : List Ed} {i k : Nat} (hi : i < es.length) (hk : k < es.length) : swapE es i k = (es.set i es[k]).set k es[i] := by
 unfold swapE
 simp [List.getD_eq_getElem?_getD, hi, hk]
end Go.Proofs.YtjacbppeebnjfaaGreat

set_option linter.unusedSimpArgs false
namespace Go.Proofs.YtjacbppeebnjfaaGreat
open Go.RowKit

structure Nw1 (C R X base : Nat) (bs : List Int) (w0 : World) (c : Cu) (ps : List Pc) (es : List Ed) (ev : Value) (w : World) : Prop where
 cur : CurAt w C bs c
 net : ∃ u, NetP w X base u (.slice none 0 0) ⟨ps, []⟩
 eds : EdRow w base ev es
 rb : Boxed w R [.slice none 0 0, .slice none 0 0]
 but : But (fun k => k = C ∨ k = X) base w0 w
 base_ : base ≤ w.heap.size
theorem jtRow_nil (w : World) (base : Nat) : JtRow w base (.slice none 0 0) [] := ⟨[], rfl, Row.nil _ _ _ _ _, fun q hq => by cases hq⟩
theorem Nw1.draw {C R X base : Nat} {bs : List Int} {w0 w w' : World} {c c' : Cu} {ps : List Pc} {es : List Ed} {ev : Value} (h : Nw1 C R X base bs w0 c ps es ev w) (ho : Only (fun k => k = C) w w') (hc : CurAt w' C bs c') (hCR : C < R) (hRX : R < X) (hX : X < base) : Nw1 C R X base bs w0 c' ps es ev w' := by
 obtain ⟨u, hN⟩ := h.net
 exact ⟨hc, ⟨u, hN.only ho (by omega) (by omega)⟩, h.eds.only ho (fun k hk (e : k = C) => by have := (h.eds.lt k hk).1; omega), h.rb.onlyS ho (show ¬ R = C by omega), h.but.trans (but_only ho (fun k _ e => Or.inl e) h.base_), Nat.le_trans h.base_ ho.size⟩
theorem Nw1.below {C R X base : Nat} {bs : List Int} {w0 w w' : World} {c : Cu} {ps : List Pc} {es : List Ed} {ev : Value} (h : Nw1 C R X base bs w0 c ps es ev w) (hb : Below w.heap.size w w') : Nw1 C R X base bs w0 c ps es ev w' := by
 obtain ⟨u, hN⟩ := h.net
 exact ⟨h.cur.below hb, ⟨u, hN.below hb⟩, h.eds.below hb, h.rb.below hb, h.but.trans (but_below hb h.base_), Nat.le_trans h.base_ hb.size⟩
theorem Nw1.piece {C R X base : Nat} {bs : List Int} {w0 w w2 : World} {c : Cu} {ps : List Pc} {es : List Ed} {ev u v' : Value} {p : Pc} (h : Nw1 C R X base bs w0 c ps es ev w) (hN : NetP w X base u (.slice none 0 0) ⟨ps, []⟩) (hg : w.grownBy w2 u.ownBlock) (hown : PcRow w2 base v' (ps ++ [p])) (hCR : C < R) (hRX : R < X) (hX : X < base) : Nw1 C R X base bs w0 c (ps ++ [p]) es ev (w2.setCell ⟨X, 0, none⟩ v') := by
 have hne : ∀ k, u.ownBlock = some k → base ≤ k := fun k hk => (hN.2.1.lt k hk).1
 have hBC : Below (C + 1) w (w2.setCell ⟨X, 0, none⟩ v') := Below.setCell (Below.grown (Below.refl (C + 1) w) hg (by have := h.base_; omega) (fun k hk => by have := hne k hk; omega)) (show C + 1 ≤ X by omega) _
 refine ⟨h.cur.of_below hBC (by omega), ⟨v', (hN.addPiece hX hg hown)⟩, ?_, ?_, ?_, ?_⟩
 ·exact (h.eds.kept hg (fun k hk hc => Row.apart h.eds hN.2.1 (by decide) k hk hc)).setCell (p := ⟨X, 0, none⟩) hX v'
 ·exact (h.rb.grownE hg (fun hc => by have := hne _ hc; omega)).apart (p := ⟨X, 0, none⟩) (show R ≠ X by omega) v'
 ·exact (h.but.grown hg h.base_ hne).trans (but_setCell _ (Or.inl (Or.inr rfl)) _)
 ·exact Nat.le_trans (Nat.le_trans h.base_ hg.size) (by simp [World.setCell])
theorem Nw1.ends2 {C R X base : Nat} {bs : List Int} {w0 w w2 : World} {c : Cu} {ps : List Pc} {es es' : List Ed} {ev ev' : Value} (h : Nw1 C R X base bs w0 c ps es ev w) (hg : w.grownBy w2 ev.ownBlock) (hown : EdRow w2 base ev' es') (hCR : C < R) (hRX : R < X) (hX : X < base) : Nw1 C R X base bs w0 c ps es' ev' w2 := by
 obtain ⟨u, hN⟩ := h.net
 have hne : ∀ k, ev.ownBlock = some k → base ≤ k := fun k hk => (h.eds.lt k hk).1
 have hBC : Below (C + 1) w w2 := Below.grown (Below.refl (C + 1) w) hg (by have := h.base_; omega) (fun k hk => by have := hne k hk; omega)
 refine ⟨h.cur.of_below hBC (by omega), ⟨u, hN.1.grownE hg (fun hc => by have := hne _ hc; omega), hN.2.1.kept hg (fun k hk hc => Row.apart hN.2.1 h.eds (by decide) k hk hc), jtRow_nil _ _⟩, hown, h.rb.grownE hg (fun hc => by have := hne _ hc; omega), h.but.grown hg h.base_ hne, Nat.le_trans h.base_ hg.size⟩

def lenOfS : Value → Nat
 | .slice _ n _ => n
 | _ => 0
structure Nw2 (C E base2 : Nat) (bs : List Int) (wp : World) (c : Cu) (es : List Ed) (w : World) : Prop where
 cur : CurAt w C bs c
 ed : EdC w E 0 es
 but : But (fun k => k = C ∨ k = E) base2 wp w
 base_ : base2 ≤ w.heap.size
theorem Nw2.draw {C E base2 : Nat} {bs : List Int} {wp w w' : World} {c c' : Cu} {es : List Ed} (h : Nw2 C E base2 bs wp c es w) (ho : Only (fun k => k = C) w w') (hc : CurAt w' C bs c') (hCE : C < E) : Nw2 C E base2 bs wp c' es w' :=
 ⟨hc, h.ed.blk ho.size (ho.block E h.ed.1 (show ¬ E = C by omega)), h.but.trans (but_only ho (fun k _ e => Or.inl e) h.base_), Nat.le_trans h.base_ ho.size⟩
theorem Nw2.below {C E base2 : Nat} {bs : List Int} {wp w w' : World} {c : Cu} {es : List Ed} (h : Nw2 C E base2 bs wp c es w) (hb : Below w.heap.size w w') : Nw2 C E base2 bs wp c es w' :=
 ⟨h.cur.below hb, h.ed.below hb, h.but.trans (but_below hb h.base_), Nat.le_trans h.base_ hb.size⟩
theorem Nw2.swap {C E base2 : Nat} {bs : List Int} {wp w : World} {c : Cu} {es : List Ed} {ej ek : Ed} {j k : Nat} (h : Nw2 C E base2 bs wp c es w) (hj : j < es.length) (hk : k < es.length) (hCE : C < E) :
  Nw2 C E base2 bs wp c ((es.set j ek).set k ej) ((((w.setCell ⟨E, j * 2, none⟩ (.int .i64 ek.piece)).setCell ⟨E, j * 2 + 1, none⟩ (.int .i64 ek.side)).setCell ⟨E, k * 2, none⟩ (.int .i64 ej.piece)).setCell ⟨E, k * 2 + 1, none⟩ (.int .i64 ej.side)) := by
 have hb : Below (C + 1) w ((((w.setCell ⟨E, j * 2, none⟩ (.int .i64 ek.piece)).setCell ⟨E, j * 2 + 1, none⟩ (.int .i64 ek.side)).setCell ⟨E, k * 2, none⟩ (.int .i64 ej.piece)).setCell ⟨E, k * 2 + 1, none⟩ (.int .i64 ej.side)) := bw0
 exact ⟨h.cur.of_below hb (by omega), (h.ed.set hj ek).set (by rw [List.length_set]; exact hk) ej, (((h.but.trans (but_setCell _ (Or.inl (Or.inr rfl)) _)).trans (but_setCell _ (Or.inl (Or.inr rfl)) _)).trans (but_setCell _ (Or.inl (Or.inr rfl)) _)).trans (but_setCell _ (Or.inl (Or.inr rfl)) _), Nat.le_trans h.base_ hb.size⟩

structure Nw3 (C X base3 : Nat) (bs : List Int) (w3 : World) (u : Value) (c : Cu) (js : List Jt) (w : World) : Prop where
 cur : CurAt w C bs c
 net : ∃ v, Boxed w X [u, v] ∧ JtRow w base3 v js
 but : But (fun k => k = C ∨ k = X) base3 w3 w
 base_ : base3 ≤ w.heap.size
theorem Nw3.draw {C X base3 : Nat} {bs : List Int} {w3 w w' : World} {u : Value} {c c' : Cu} {js : List Jt} (h : Nw3 C X base3 bs w3 u c js w) (ho : Only (fun k => k = C) w w') (hc : CurAt w' C bs c') (hCX : C < X) (hX : X < base3) : Nw3 C X base3 bs w3 u c' js w' := by
 obtain ⟨v, hB, hJ⟩ := h.net
 exact ⟨hc, ⟨v, hB.onlyS ho (show ¬ X = C by omega), hJ.blocks fun k hk hk' => ho.block k hk' (show ¬ k = C by omega)⟩, h.but.trans (but_only ho (fun k _ e => Or.inl e) h.base_), Nat.le_trans h.base_ ho.size⟩
theorem Nw3.below {C X base3 : Nat} {bs : List Int} {w3 w w' : World} {u : Value} {c : Cu} {js : List Jt} (h : Nw3 C X base3 bs w3 u c js w) (hb : Below w.heap.size w w') : Nw3 C X base3 bs w3 u c js w' := by
 obtain ⟨v, hB, hJ⟩ := h.net
 exact ⟨h.cur.below hb, ⟨v, hB.below hb, hJ.blocks fun k _ hk' => hb.block k hk'⟩, h.but.trans (but_below hb h.base_), Nat.le_trans h.base_ hb.size⟩
theorem Nw3.joint {C X base3 : Nat} {bs : List Int} {w3 w w2 : World} {u v v' ev : Value} {c : Cu} {js : List Jt} {j : Jt} {qs : List (Jt × Value)} (h : Nw3 C X base3 bs w3 u c js w) (hB : Boxed w X [u, v]) (hqs : qs.map Prod.fst = js) (hv : JvRow w base3 v qs) (hqe : ∀ q ∈ qs, EdRow w base3 q.2 q.1.ends)
  (hev : EdRow w base3 ev j.ends) (hg : w.grownBy w2 v.ownBlock) (hown : JvRow w2 base3 v' (qs ++ [(j, ev)])) (hCX : C < X) (hX : X < base3) : Nw3 C X base3 bs w3 u c (js ++ [j]) (w2.setCell ⟨X, 1, none⟩ v') := by
 have hne : ∀ k, v.ownBlock = some k → base3 ≤ k := fun k hk => (hv.lt k hk).1
 have hBC : Below (C + 1) w (w2.setCell ⟨X, 1, none⟩ v') := Below.setCell (Below.grown (Below.refl (C + 1) w) hg (by have := h.base_; omega) (fun k hk => by have := hne k hk; omega)) (show C + 1 ≤ X by omega) _
 have hed : ∀ {x : Value} {es : List Ed}, EdRow w base3 x es → EdRow (w2.setCell ⟨X, 1, none⟩ v') base3 x es := fun hx => (hx.kept hg (fun k hk hc => Row.apart hx hv (by decide) k hk hc)).setCell (p := ⟨X, 1, none⟩) hX v'
 refine ⟨h.cur.of_below hBC (by omega), ⟨v', (hB.grownE hg (fun hc => by have := hne _ hc; omega)).setI (i := 1) (by simp) v', qs ++ [(j, ev)], by simp [hqs], hown.setCell (p := ⟨X, 1, none⟩) hX v', fun q hq => ?_⟩, (h.but.grown hg h.base_ hne).trans (but_setCell _ (Or.inl (Or.inr rfl)) _), Nat.le_trans (Nat.le_trans h.base_ hg.size) (by simp [World.setCell])⟩
 rcases List.mem_append.1 hq with hq | hq
 ·exact hed (hqe q hq)
 ·simp at hq
  subst hq
  exact hed hev
theorem kind_cells (W : World) {K : Nat} (hK : K = W.heap.size) {r : Nat} (hr : r < 7) : (W.alloc (.cells #[.int .i64 1, .int .i64 2, .int .i64 2, .int .i64 3, .int .i64 3, .int .i64 3, .int .i64 4] 3)).cell? ⟨K, r, none⟩ = some (.int .i64 (kinds.getD r 1 : Nat)) := by
 have h := boxedN W #[.int .i64 1, .int .i64 2, .int .i64 2, .int .i64 3, .int .i64 3, .int .i64 3, .int .i64 4] 3 hK
 match r, hr with
 | 0, _ => exact h.2.1 0 _ rfl
 | 1, _ => exact h.2.1 1 _ rfl
 | 2, _ => exact h.2.1 2 _ rfl
 | 3, _ => exact h.2.1 3 _ rfl
 | 4, _ => exact h.2.1 4 _ rfl
 | 5, _ => exact h.2.1 5 _ rfl
 | 6, _ => exact h.2.1 6 _ rfl

set_option maxRecDepth 100000 in
set_option maxHeartbeats 8000000 in
theorem net_any (C : Nat) (bs : List Int) (c : Cu) (w : World) (hcu : CurAt w C bs c) (hbs : BytesIn bs) (ha : c.at_ ≤ 10000000) :
  Calls Tryz.prog 30 #[.pointer (some ⟨C, 0, none⟩)] w (RetNet C bs (netC bs c) w) := by
 have hCl := hcu.lt
 have HCU := hide hcu
 have HPI := hide (pickC_in bs c 9)
 have hpa := pickC_at bs c 9
 clear hcu
 obtain ⟨i1, hj1, hy0, hy1, hy2⟩ := info_parts info_Joint
 obtain ⟨i2, hj2, hz0, hz1, hz2⟩ := info_parts info_Piece
 obtain ⟨i3, hj3, hx0, hx1, hx2⟩ := info_parts info_End
 go_enter Tryz.func30, Tryz.ntmps30
 go_wp2_with fail
 have hpi := unhide HPI
 refine (pick_any C bs c 9 _ ((unhide HCU).below bw0) hbs (by omega) (by omega)).mono ?_
 rintro e w2 ⟨rfl, hcu2, ho2⟩
 obtain ⟨k0, hk0⟩ : ∃ k0 : Nat, (pickC bs c 9).1 = k0 := ⟨(pickC bs c 9).1.toNat, by omega⟩
 rw [hk0] at hpi ⊢
 obtain ⟨c1, hc1⟩ : ∃ c1, (pickC bs c 9).2 = c1 := ⟨_, rfl⟩
 rw [hc1] at hcu2 hpa
 have HK0 := hide (And.intro hk0 hc1)
 clear hk0 hc1
 obtain ⟨R, hR⟩ : ∃ R, w.heap.size = R := ⟨_, rfl⟩
 have hwk : IntKind.i64.wrap (1 + (k0 : Int)) = ((1 + k0 : Nat) : Int) := (wrap_small (by omega) (by omega)).trans (by omega)
 obtain ⟨wb, hwb⟩ : ∃ wb, ((w.alloc (.cells #[.slice none 0 0, .slice none 0 0] 26)).alloc (.cells #[.slice none 0 0, .slice none 0 0] 26)) = wb := ⟨_, rfl⟩
 have hbB : Below w.heap.size w wb := by rw [← hwb]; exact bw0
 have hbR : Boxed wb w.heap.size [.slice none 0 0, .slice none 0 0] := by rw [← hwb]; exact (boxed_alloc w #[.slice none 0 0, .slice none 0 0] 26).alloc _
 have hbX : Boxed wb (w.heap.size + 1) [.slice none 0 0, .slice none 0 0] := by rw [← hwb]; exact boxedN _ _ _ (by simp)
 have hbS : wb.heap.size = w.heap.size + 2 := by rw [← hwb]; simp
 rw [hwb] at ho2
 have hs2' := ho2.size
 rw [hR] at hbR hbX hbS hCl ⊢
 have HS2 : Hid (Nw1 C R (R + 1) (R + 2) bs wb c1 [] [] (.slice none 0 0) w2) := ⟨hcu2, ⟨.slice none 0 0, hbX.onlyS ho2 (show ¬ R + 1 = C by omega), Row.nil _ _ _ _ _, jtRow_nil _ _⟩, Row.nil _ _ _ _ _, hbR.onlyS ho2 (show ¬ R = C by omega), but_only ho2 (fun k _ h => Or.inl h) (by omega), by omega⟩
 have HB0 := hide hbB
 clear hwb hbB hbR hbX hcu2 ho2
 obtain ⟨base, hbase⟩ : ∃ base, R + 2 = base := ⟨_, rfl⟩
 obtain ⟨X, hX⟩ : ∃ X, R + 1 = X := ⟨_, rfl⟩
 rw [hbase, hX] at HS2
 rw [hX]
 have HEQ := hide (And.intro hbase hX)
 have hord : C < R ∧ R < X ∧ X < base := by omega
 clear hbase hX
 have HRR := hide hR
 have hwR : w.heap.size ≤ R := by omega
 clear hR
 go_wp2_with fail
 have hkn : (1 + (k0 : Int)) = ((1 + k0 : Nat) : Int) := by omega
 rw [hkn]
 obtain ⟨K, hK⟩ : ∃ K, 1 + k0 = K := ⟨_, rfl⟩
 rw [hK]
 have hKb : K ≤ 9 ∧ 1 ≤ K := by omega
 have HKK := hide hK
 clear hK hkn hwk
 go_loopw [4, 5] (fun y z wr => ∃ (i : Nat) (ps : List Pc) (es : List Ed) (cc : Cu), z = .int .i64 i ∧ i ≤ K ∧ Hid (ps.length = i ∧ es.length = 2 * i) ∧ cc.at_ + 6 * (K - i) ≤ c.at_ + 56 ∧ Hid (netGo1 bs (K - i) ps es cc = netGo1 bs K [] [] c1) ∧ Hid (Nw1 C R X base bs wb cc ps es y wr)) (fun _ z _ => K - (intOf z).toNat)
 case atStart => exact ⟨0, [], [], c1, rfl, Nat.zero_le _, hide ⟨rfl, rfl⟩, by omega, rfl, HS2⟩
 case round =>
  clear HS2
  obtain ⟨i, ps, es, cc, rfl, hi, HLI, hat, HGO, HSR⟩ := hrel
  by_cases hlt : i < K
  ·have hlt' : (i : Int) < (K : Int) := by omega
   go_upto_region 6 with fail
   obtain ⟨u, hN⟩ := (unhide HSR).net
   obtain ⟨ua, ucap, hue, _⟩ := hN.2.1.shape pcF_len
   subst hue
   have x0 := hN.1.2.1 0 _ rfl
   have xz := hN.1.2.2
   have xl := hN.1.1
   have HN := hide hN
   clear hN
   dsimp only at x0
   have hr1 := wideC_in bs cc (show (0 : Int) < 300 by omega)
   have ha1 := wideC_at bs cc 300
   obtain ⟨r1, hr1'⟩ : ∃ r, (wideC bs cc 300).1 = r := ⟨_, rfl⟩
   obtain ⟨c4, hc4⟩ : ∃ c4, (wideC bs cc 300).2 = c4 := ⟨_, rfl⟩
   rw [hr1'] at hr1
   rw [hc4] at ha1
   have HR1 := hide (And.intro hr1' hc4)
   have hr2 := pickC_in bs c4 200
   have ha2 := pickC_at bs c4 200
   obtain ⟨r2, hr2'⟩ : ∃ r, (pickC bs c4 200).1 = r := ⟨_, rfl⟩
   obtain ⟨c5, hc5⟩ : ∃ c5, (pickC bs c4 200).2 = c5 := ⟨_, rfl⟩
   rw [hr2'] at hr2
   rw [hc5] at ha2
   have HR2 := hide (And.intro hr2' hc5)
   have hr3 := pickC_in bs c5 90
   have ha3 := pickC_at bs c5 90
   obtain ⟨r3, hr3'⟩ : ∃ r, (pickC bs c5 90).1 = r := ⟨_, rfl⟩
   obtain ⟨c6, hc6⟩ : ∃ c6, (pickC bs c5 90).2 = c6 := ⟨_, rfl⟩
   rw [hr3'] at hr3
   rw [hc6] at ha3
   have HR3 := hide (And.intro hr3' hc6)
   have HNP : Hid (netP bs cc ps.length = (⟨nameC i, 1 + r1, 1 + r2, 1 + r3⟩, c6)) := by
    unfold Hid netP
    rw [(unhide HLI).1, hr1', hc4, hr2', hc5, hr3', hc6]
   clear hr1' hr2' hr3' hc4 hc5 hc6
   have hw1 : IntKind.i64.wrap (1 + r1) = 1 + r1 := wrap_small (by omega) (by omega)
   have hw2 : IntKind.i64.wrap (1 + r2) = 1 + r2 := wrap_small (by omega) (by omega)
   have hw3 : IntKind.i64.wrap (1 + r3) = 1 + r3 := wrap_small (by omega) (by omega)
   go_cut [4, 5] (fun y z wx => y = u4 ∧ z = .int .i64 i ∧ Hid (Nw1 C R X base bs wb c6 (ps ++ [⟨nameC i, 1 + r1, 1 + r2, 1 + r3⟩]) es u4 wx))
   case first =>
    refine wp_region_last (S := fun w' => w'.cell? ⟨X, 0, none⟩ = some (.slice ua ps.length ucap)) 18 (by kernel_rfl) ?_ (fun hHeld => ?_)
    ·simpa using x0
    refine tkL 0 [1, 16, 17, 18] ?_
    refine tkL 1 [16, 17, 18] ?_
    refine tkL 2 [4, 6, 7, 14, 15, 16, 17, 18] ?_
    refine tkL 3 [4, 6, 7, 14, 15, 16, 17, 18] ?_
    refine tkL 5 [6, 7, 14, 15, 16, 17, 18] ?_
    refine tkL 8 [9, 10, 14, 15, 16, 17, 18] ?_
    refine tkL 11 [12, 13, 14, 15, 16, 17, 18] ?_
    refine wpAnyL_ready (rs := [4]) (by kernel_rfl) (by simp) ?_
    refine (AllReadyL.cons rfl (fun K hK => ?_) AllReadyL.nil)
    go_simp
    refine (name_any _ i _ (by omega)).mono ?_
    rintro e w3 ⟨rfl, hb3⟩
    dsimp only
    have hB3 : Below wr.heap.size wr w3 := below_then bw0 hb3
    have HT3 := hide ((unhide HSR).below hB3)
    have HN3 := hide ((unhide HN).below hB3)
    have hHeld3 := (unhide HN3).1.2.1 0 _ rfl
    have xl3 := (unhide HN3).1.1
    refine hK.out _ _ (fun _ => hHeld3) (fun _ => ?_)
    clear hK K
    (try simp only [sA])
    refine wpAnyL_ready (rs := [6]) (by kernel_rfl) (by simp) ?_
    refine (AllReadyL.cons rfl (fun K hK => ?_) AllReadyL.nil)
    go_simp
    refine (wide_any C bs cc 300 _ (unhide HT3).cur hbs (by omega) ⟨by omega, by omega⟩).mono ?_
    rw [(unhide HR1).1, (unhide HR1).2]
    rintro e w4 ⟨rfl, hcu4, ho4⟩
    dsimp only
    have HT4 := hide ((unhide HT3).draw ho4 hcu4 (by omega) (by omega) (by omega))
    have HN4 := hide ((unhide HN3).only ho4 (by omega) (by omega))
    have hHeld4 := (unhide HN4).1.2.1 0 _ rfl
    have xl4 := (unhide HN4).1.1
    clear hcu4 ho4
    refine hK.out _ _ (fun _ => hHeld4) (fun _ => ?_)
    clear hK K
    (try simp only [sA])
    refine tkL 7 [14, 15, 16, 17, 18] ?_
    refine wpAnyL_ready (rs := [9]) (by kernel_rfl) (by simp) ?_
    refine (AllReadyL.cons rfl (fun K hK => ?_) AllReadyL.nil)
    go_simp
    refine (pick_any C bs c4 200 _ (unhide HT4).cur hbs (by omega) (by omega)).mono ?_
    rw [(unhide HR2).1, (unhide HR2).2]
    rintro e w5 ⟨rfl, hcu5, ho5⟩
    dsimp only
    have HT5 := hide ((unhide HT4).draw ho5 hcu5 (by omega) (by omega) (by omega))
    have HN5 := hide ((unhide HN4).only ho5 (by omega) (by omega))
    have hHeld5 := (unhide HN5).1.2.1 0 _ rfl
    have xl5 := (unhide HN5).1.1
    clear hcu5 ho5
    refine hK.out _ _ (fun _ => hHeld5) (fun _ => ?_)
    clear hK K
    (try simp only [sA])
    refine tkL 10 [14, 15, 16, 17, 18] ?_
    refine wpAnyL_ready (rs := [12]) (by kernel_rfl) (by simp) ?_
    refine (AllReadyL.cons rfl (fun K hK => ?_) AllReadyL.nil)
    go_simp
    refine (pick_any C bs c5 90 _ (unhide HT5).cur hbs (by omega) (by omega)).mono ?_
    rw [(unhide HR3).1, (unhide HR3).2]
    rintro e w6 ⟨rfl, hcu6, ho6⟩
    dsimp only
    have HT6 := hide ((unhide HT5).draw ho6 hcu6 (by omega) (by omega) (by omega))
    have HN6 := hide ((unhide HN5).only ho6 (by omega) (by omega))
    have hHeld6 := (unhide HN6).1.2.1 0 _ rfl
    have xl6 := (unhide HN6).1.1
    clear hcu6 ho6
    refine hK.out _ _ (fun _ => hHeld6) (fun _ => ?_)
    clear hK K
    (try simp only [sA])
    refine tkL 13 [14, 15, 16, 17, 18] ?_
    refine tkL 14 [15, 16, 17, 18] ?_
    refine wpAnyL_ready (rs := [15]) (by kernel_rfl) (by simp) ?_
    refine (AllReadyL.cons rfl (fun K hK => ?_) AllReadyL.nil)
    go_simp
    have HT7 := hide ((unhide HT6).below (bw0 : Below _ _ (w6.alloc (.cells #[.string (nameC i), .int .i64 (1 + r1), .int .i64 (1 + r2), .int .i64 (1 + r3)] 96))))
    have HN7 := hide ((unhide HN6).alloc (.cells #[.string (nameC i), .int .i64 (1 + r1), .int .i64 (1 + r2), .int .i64 (1 + r3)] 96))
    have hHeld7 := (unhide HN7).1.2.1 0 _ rfl
    refine hK.out _ _ (fun _ => hHeld7) (fun _ => ?_)
    clear hK K
    (try simp only [sA])
    refine wpAnyL_ready (rs := [16]) (by kernel_rfl) (by simp) ?_
    refine (AllReadyL.cons rfl (fun K hK => ?_) AllReadyL.nil)
    refine step_append_lies _ rfl (.tmp 23) (.tmp 37) 23 rfl base 96 i2 (.agg #[.string ⟨#[]⟩, .int .i64 0, .int .i64 0, .int .i64 0]) 4 40 Tryz.underlying23 hj2 hz0 hz1 hz2 rfl (by decide) (.slice ua ps.length ucap) ps.length (ps.flatMap pcF) (by simp [Act.eval]) (unhide HN7).2.1 _ 1 1 (pcF ⟨nameC i, 1 + r1, 1 + r2, 1 + r3⟩) (by simp [Act.eval]) rfl (pc_news (x := ⟨nameC i, 1 + r1, 1 + r2, 1 + r3⟩) (boxed_alloc _ _ _)) (pc_one _) (by omega) (by have := (unhide HLI).1; unfold maxLen; omega) (by have := (unhide HLI).1; omega) (by have := (unhide HT7).base_; exact this) _ rfl ?_
    intro g gcap w8 hown8 hgrow hat8 hlt8
    have hrow8 : PcRow w8 base (.slice (some ⟨g, 0, none⟩) (ps.length + 1) gcap) (ps ++ [⟨nameC i, 1 + r1, 1 + r2, 1 + r3⟩]) := Row.snoc (f := pcF) hown8
    have HT8 := hide ((unhide HT7).piece (unhide HN7) hgrow hrow8 (by omega) (by omega) (by omega))
    have hX8 := (unhide HN7).1.grownE hgrow (fun hc => by have := ((unhide HN7).2.1.lt _ hc).1; omega)
    have y0 := hX8.2.1 0 _ rfl
    have yz := hX8.2.2
    have yl := hX8.1
    clear hown8 hgrow hrow8 hat8 hX8
    refine hK.out _ _ (fun _ => y0) (fun _ => ?_)
    clear hK K
    (try simp only [sA])
    refine tkL 17 [18] ?_
    refine wpAnyL_ready (rs := [18]) (by kernel_rfl) (by simp) ?_
    refine (AllReadyL.cons rfl (fun K hK => ?_) AllReadyL.nil)
    go_simp
    refine hK.out _ _ (fun h => absurd rfl h) (fun _ => ?_)
    clear hK K
    (try simp only [sA])
    refine wpAnyL_done (by kernel_rfl) ?_ _

    go_wp2_with fail
    go_meet
    exact ⟨rfl, rfl, HT8⟩
   case rest =>
    obtain ⟨rfl, rfl, HSD⟩ := hcut
    have hwi : IntKind.i64.wrap ((i : Int) + 1) = ((i + 1 : Nat) : Int) := (wrap_small (by omega) (by omega)).trans (by omega)
    have hbd := (unhide HSD).base_
    have hel : es.length ≤ 1000 := by have := (unhide HLI).2; omega
    go_wp2_with (at_builtin; refine wpList_append_own _ rfl (.tmp 40) (.tmp 45) 54 rfl base 141 i3 (.agg #[.int .i64 0, .int .i64 0]) 2 16 Tryz.underlying54 hj3 hx0 hx1 hx2 rfl (by decide) _ _ _ rfl ((unhide HSD).eds.below bw0) ⟨wc.heap.size, 0, none⟩ 2 2 (edF ⟨i, 0⟩ ++ edF ⟨i, 1⟩) rfl rfl ?c1 (ed2_one _ _) ?c2 ?c3 ?c4 ?_)
    case c1 => (first | exact fun _ _ h => h | exact box_news (boxedN _ _ _ (by first | rfl | simp)))
    case c2 => unfold maxLen; omega
    case c3 => omega
    case c4 => (first | omega | (simp; omega))
    intro v' w9 hown9 hgrow9 _
    have hrow9 : EdRow w9 base v' (es ++ [⟨i, 0⟩, ⟨i, 1⟩]) := Row.snoc2 hown9
    have HS9 := hide (((unhide HSD).below (bw0 : Below _ _ (wc.alloc (.cells #[.int .i64 i, .int .i64 0, .int .i64 i, .int .i64 1] 141)))).ends2 hgrow9 hrow9 (by omega) (by omega) (by omega))
    clear hown9 hgrow9 hrow9
    go_wp2_with fail
    refine ⟨⟨i + 1, _, _, c6, rfl, by omega, ?_, by omega, ?_, HS9⟩, by simp [intOf]; omega⟩
    ·have h1 := unhide HLI
     refine ⟨?_, ?_⟩
     ·rw [List.length_append, List.length_singleton]; omega
     ·rw [List.length_append, h1.2]; simp; omega
    ·rw [← unhide HGO, show K - i = (K - (i + 1)) + 1 by omega]
     show _ = netGo1 bs (K - (i + 1)) (ps ++ [(netP bs cc ps.length).1]) (es ++ [⟨ps.length, 0⟩, ⟨ps.length, 1⟩]) (netP bs cc ps.length).2
     rw [unhide HNP, (unhide HLI).1]
  ·have hlt' : ¬ (i : Int) < (K : Int) := by omega
   have hiK : i = K := by omega
   subst hiK
   have HN1 : Hid (net1 bs c = (ps, es, cc)) := by
    unfold Hid net1
    rw [(unhide HK0).1, (unhide HK0).2, show (1 + (k0 : Int)).toNat = i by have := unhide HKK; omega, ← unhide HGO, Nat.sub_self]
    rfl
   have hat1 : cc.at_ ≤ c.at_ + 56 := by omega
   have hem : 2 ≤ es.length ∧ es.length ≤ 18 := by have := (unhide HLI).2; omega
   obtain ⟨E, ecap, hev, hEb, hecap, hEdC⟩ := edC_of_row (unhide HSR).eds (by omega)
   have HE0 := hide hEdC
   clear hEdC
   subst hev
   obtain ⟨u, hN⟩ := (unhide HSR).net
   obtain ⟨ua, ucap, hue, _⟩ := hN.2.1.shape pcF_len
   have hUE : ∀ k, u.ownBlock = some k → k ≠ E := fun k hk he => by
    subst he
    exact Row.apart hN.2.1 (unhide HSR).eds (by decide) k hk (by simp [Value.ownBlock])
   have HPS := hide hN
   have HUE := hide hUE
   clear hN hUE HGO hat
   obtain ⟨m, hm⟩ : ∃ m, es.length = m := ⟨_, rfl⟩
   rw [hm] at hem hecap ⊢
   have HM := hide hm
   clear hm
   have hwm : IntKind.i64.wrap ((m : Int) - 1) = ((m - 1 : Nat) : Int) := (wrap_small (by omega) (by omega)).trans (by omega)
   go_wp2_with fail
   obtain ⟨base2, hb2⟩ : ∃ base2, wr.heap.size = base2 := ⟨_, rfl⟩
   have hEb2 : base ≤ E ∧ E < base2 := by omega
   have hbb2 : base ≤ base2 := by have := (unhide HSR).base_; omega
   have HB2 := hide hb2
   have hb2' : base2 ≤ wr.heap.size := by omega
   obtain ⟨wp, hwp⟩ : ∃ wp, wr = wp := ⟨_, rfl⟩
   have hwpr : wp.heap.size = base2 := by rw [← hwp]; exact hb2
   clear hb2 hEb
   have HT0 : Hid (Nw2 C E base2 bs wp cc es wr) := ⟨(unhide HSR).cur, unhide HE0, by rw [hwp]; exact But.refl _ _ _, hb2'⟩
   rw [hwp] at HT0 HSR HPS HE0 ⊢
   have HWP := hide hwpr
   clear hwp hwpr hb2' HB2
   go_loopw [7] (fun z wr => ∃ (j : Nat) (xs : List Ed) (c7 : Cu), z = .int .i64 j ∧ j < m ∧ Hid (xs.length = m) ∧ c7.at_ + 4 * j ≤ c.at_ + 56 + 4 * 17 ∧ Hid (netGo2 bs j xs c7 = netGo2 bs (m - 1) es cc) ∧ Hid (Nw2 C E base2 bs wp c7 xs wr)) (fun z _ => (intOf z).toNat)
   case atStart => exact ⟨m - 1, es, cc, rfl, by omega, HM, by omega, rfl, HT0⟩
   case round =>
    clear HT0
    obtain ⟨j, xs, c7, rfl, hj, HLX, hat7, HGO2, HTR⟩ := hrel
    by_cases hjp : 0 < j
    ·have hjp' : (0 : Int) < (j : Int) := by omega
     obtain ⟨⟨hd0, hd1⟩, hkj⟩ := netK_in bs c7 j
     have hr1 := pickC_in bs c7 ((j : Int) + 1)
     have ha1 := pickC_at bs c7 ((j : Int) + 1)
     have HNK : Hid (netK bs c7 j = (((j : Int) - (pickC bs c7 ((j : Int) + 1)).1.tdiv (1 + (pickC bs (pickC bs c7 ((j : Int) + 1)).2 3).1)).toNat, (pickC bs (pickC bs c7 ((j : Int) + 1)).2 3).2)) := rfl
     obtain ⟨r1, hr1'⟩ : ∃ r, (pickC bs c7 ((j : Int) + 1)).1 = r := ⟨_, rfl⟩
     obtain ⟨c8, hc8⟩ : ∃ c8, (pickC bs c7 ((j : Int) + 1)).2 = c8 := ⟨_, rfl⟩
     rw [hr1', hc8] at hd0 hd1 HNK
     rw [hr1'] at hr1
     rw [hc8] at ha1
     have hr2 := pickC_in bs c8 3
     have ha2 := pickC_at bs c8 3
     obtain ⟨r2, hr2'⟩ : ∃ r, (pickC bs c8 3).1 = r := ⟨_, rfl⟩
     obtain ⟨c9, hc9⟩ : ∃ c9, (pickC bs c8 3).2 = c9 := ⟨_, rfl⟩
     rw [hr2'] at hr2 hd0 hd1
     rw [hr2', hc9] at HNK
     rw [hc9] at ha2
     have HR1 := hide (And.intro hr1' hc8)
     have HR2 := hide (And.intro hr2' hc9)
     clear hr1' hc8 hr2' hc9
     obtain ⟨d, hd⟩ : ∃ d, r1.tdiv (1 + r2) = d := ⟨_, rfl⟩
     rw [hd] at hd0 hd1 HNK
     obtain ⟨k, hk⟩ : ∃ k : Nat, (j : Int) - d = k := ⟨((j : Int) - d).toNat, by omega⟩
     have hkj' : k ≤ j := by omega
     have HNK2 : Hid (netK bs c7 j = (k, c9)) := by rw [unhide HNK, hk, Int.toNat_natCast]; rfl
     clear hkj HNK
     have hw1 : IntKind.i64.wrap ((j : Int) + 1) = (j : Int) + 1 := wrap_small (by omega) (by omega)
     have hw2 : IntKind.i64.wrap (1 + r2) = 1 + r2 := wrap_small (by omega) (by omega)
     have hw3 : ((1 + r2) == 0) = false := by rw [beq_eq_false_iff_ne]; omega
     have hw4 : IntKind.i64.wrap d = d := wrap_small (by omega) (by omega)
     have hw5 : IntKind.i64.wrap ((j : Int) - d) = (k : Int) := (wrap_small (by omega) (by omega)).trans hk
     have hw6 : IntKind.i64.wrap ((j : Int) - 1) = ((j - 1 : Nat) : Int) := (wrap_small (by omega) (by omega)).trans (by omega)
     have HKD := hide hk
     clear hk
     go_wp2_with fail
     refine (pick_any C bs c7 ((j : Int) + 1) _ (unhide HTR).cur hbs (by omega) (by omega)).mono ?_
     rw [(unhide HR1).1, (unhide HR1).2]
     rintro e wA ⟨rfl, hcuA, hoA⟩
     have HTA := hide ((unhide HTR).draw hoA hcuA (by omega))
     clear hcuA hoA
     go_wp2_with fail
     refine (pick_any C bs c8 3 _ (unhide HTA).cur hbs (by omega) (by omega)).mono ?_
     rw [(unhide HR2).1, (unhide HR2).2]
     rintro e wB ⟨rfl, hcuB, hoB⟩
     have HTB := hide ((unhide HTA).draw hoB hcuB (by omega))
     clear hcuB hoB HTA HTR
     have hjl : j < xs.length := by rw [unhide HLX]; exact hj
     have hkl : k < xs.length := by rw [unhide HLX]; omega
     have hcj := (unhide HTB).ed.2.2 j hjl
     have hck := (unhide HTB).ed.2.2 k hkl
     have HSW : Hid (swapE xs j k = (xs.set j xs[k]).set k xs[j]) := swapE_eq hjl hkl
     obtain ⟨ej, hej⟩ : ∃ ej, xs[j] = ej := ⟨_, rfl⟩
     obtain ⟨ek, hek⟩ : ∃ ek, xs[k] = ek := ⟨_, rfl⟩
     rw [hej] at hcj HSW
     rw [hek] at hck HSW
     rw [Nat.zero_add] at hcj hck
     obtain ⟨pj, sj⟩ := ej
     obtain ⟨pk, sk⟩ := ek
     obtain ⟨cj0, cj1⟩ := hcj
     obtain ⟨ck0, ck1⟩ := hck
     have ez := (unhide HTB).ed.2.1
     have el := (unhide HTB).ed.1
     have hjm : (j : Int) < (m : Int) := by omega
     have hkm : (k : Int) < (m : Int) := by omega
     have HEJ := hide (And.intro hej hek)
     clear hej hek
     have HT9 : Hid (Nw2 C E base2 bs wp c9 (swapE xs j k) ((((((wB.setCell ⟨E, j * 2, none⟩ (.int .i64 pk)).setCell ⟨E, j * 2 + 1, none⟩ (.int .i64 sk)).setCell ⟨E, k * 2, none⟩ (.int .i64 pj)).setCell ⟨E, k * 2 + 1, none⟩ (.int .i64 sj)).alloc (.cells #[.int .i64 pj, .int .i64 sj] 141)).alloc (.cells #[.int .i64 pk, .int .i64 sk] 141))) := by
      unfold Hid
      rw [unhide HSW]
      exact ((unhide HTB).swap (es := xs) (ej := ⟨pj, sj⟩) (ek := ⟨pk, sk⟩) hjl hkl (by omega)).below bw0
     have HGO3 : Hid (netGo2 bs (j - 1) (swapE xs j k) c9 = netGo2 bs (m - 1) es cc) := by
      unfold Hid
      rw [← unhide HGO2]
      obtain ⟨j', rfl⟩ : ∃ j', j = j' + 1 := ⟨j - 1, by omega⟩
      show _ = netGo2 bs j' (swapE xs (j' + 1) (netK bs c7 (j' + 1)).1) (netK bs c7 (j' + 1)).2
      rw [unhide HNK2]
      rfl
     have HLS : Hid ((swapE xs j k).length = m) := (swapE_len _ _ _).trans (unhide HLX)
     dsimp only at cj0 cj1 ck0 ck1
     by_cases hkj : k = j
     ·subst hkj
      have hpp : pj = pk := by have := cj0.symm.trans ck0; simpa using this
      have hss : sj = sk := by have := cj1.symm.trans ck1; simpa using this
      subst hpp
      subst hss
      go_wp2_with fail
      exact ⟨⟨k - 1, _, c9, rfl, by omega, HLS, by omega, HGO3, HT9⟩, by simp [intOf]; omega⟩
     ·go_wp2_with fail
      exact ⟨⟨j - 1, _, c9, rfl, by omega, HLS, by omega, HGO3, HT9⟩, by simp [intOf]; omega⟩
    ·have hjp' : ¬ (0 : Int) < (j : Int) := by omega
     have hj0 : j = 0 := by omega
     subst hj0
     have HN2 : Hid (net2 bs c = (xs, c7)) := by
      unfold Hid net2
      rw [unhide HN1]
      show netGo2 bs (es.length - 1) es cc = _
      rw [unhide HM, ← unhide HGO2]
      rfl
     have hat2 : c7.at_ ≤ c.at_ + 124 := by omega
     obtain ⟨base3, hb3⟩ : ∃ base3, wr.heap.size = base3 := ⟨_, rfl⟩
     have hb23 : base2 ≤ base3 := by have := (unhide HTR).base_; omega
     obtain ⟨w3, hw3⟩ : ∃ w3, wr = w3 := ⟨_, rfl⟩
     have hw3b : w3.heap.size = base3 := by rw [← hw3]; exact hb3
     have hNP := unhide HPS
     have hbut2 := (unhide HTR).but
     have HX3 : Hid (Boxed w3 X [u, .slice none 0 0]) := by
      have := hNP.1.but hbut2 (show X < base2 by omega) (fun e => by rcases e with e | e <;> omega)
      rw [← hw3]; exact this
     have HR3 : Hid (Boxed w3 R [.slice none 0 0, .slice none 0 0]) := by
      have := (unhide HSR).rb.but hbut2 (show R < base2 by omega) (fun e => by rcases e with e | e <;> omega)
      rw [← hw3]; exact this
     have HP3 : Hid (PcRow w3 base u ps ∧ ∀ k, u.ownBlock = some k → k < base3) := by
      have hlt : ∀ k, u.ownBlock = some k → base ≤ k ∧ k < base2 := fun k hk => by have := hNP.2.1.lt k hk; have h2 := unhide HWP; omega
      rw [← hw3]
      exact ⟨hNP.2.1.block fun k hk => hbut2.block k (hlt k hk).2 (fun e => by rcases e with e | e; (have := hlt k hk; omega); exact unhide HUE k hk e), fun k hk => by have := hlt k hk; omega⟩
     have HT0 : Hid (Nw3 C X base3 bs w3 u c7 [] wr) := ⟨(unhide HTR).cur, ⟨.slice none 0 0, by rw [hw3]; exact unhide HX3, jtRow_nil _ _⟩, by rw [hw3]; exact But.refl _ _ _, by omega⟩
     have HEC : Hid (EdC w3 E 0 xs) := by rw [← hw3]; exact (unhide HTR).ed
     have HB0' : Hid (But (fun k => k = C) w.heap.size w w3) := by
      have h1 := but_but (unhide HB0) (unhide HSR).but (show w.heap.size ≤ X by omega) (by omega)
      have h2 : But (fun k => k = C) w.heap.size wp wr := hbut2.mono (by omega) (fun k hk e => by rcases e with e | e; exact e; omega)
      rw [← hw3]
      exact h1.trans h2
     rw [hw3] at HT0 ⊢
     have hlast : X < base3 ∧ E < base3 ∧ C < X := by omega
     have HW3 := hide hw3b
     clear hNP hbut2 hb3 hw3b hw3 HTR HSR HPS HE0 HUE HGO2 hat7
     go_wp2_with fail
     go_loopw [4] (fun y wr => ∃ (mm off cap : Nat) (ys : List Ed) (c8 : Cu) (js : List Jt), y = .slice (some ⟨E, off, none⟩) mm cap ∧ mm ≤ cap ∧ mm ≤ m ∧ Hid (ys.length = mm) ∧ js.length + mm ≤ m ∧ c8.at_ + 2 * mm ≤ c.at_ + 160 ∧ Hid (EdC w3 E off ys) ∧ Hid (netGo3 bs mm js ys c8 = netGo3 bs m [] xs c7) ∧ Hid (Nw3 C X base3 bs w3 u c8 js wr)) (fun y _ => lenOfS y)
     case atStart => exact ⟨m, 0, ecap, xs, c7, [], rfl, hecap, Nat.le_refl _, HLX, by simp, by omega, HEC, rfl, HT0⟩
     case round =>
      clear HT0
      obtain ⟨mm, off, cap, ys, c8, js, rfl, hmc, hmm, HLY, hjl, hat8, HEY, HGO3, HUR⟩ := hrel
      by_cases hmp : 0 < mm
      ·have hmp' : (0 : Int) < (mm : Int) := by omega
       have hpi7 := pickC_in bs c8 7
       have hpa7 := pickC_at bs c8 7
       have hki := netKind_in bs c8 hmp
       have HKN : Hid (netKind bs c8 mm = (if mm < kinds.getD (pickC bs c8 7).1.toNat 1 then 1 else kinds.getD (pickC bs c8 7).1.toNat 1, (pickC bs c8 7).2)) := rfl
       obtain ⟨r, hr⟩ : ∃ r : Nat, (pickC bs c8 7).1 = r := ⟨(pickC bs c8 7).1.toNat, by omega⟩
       obtain ⟨c9, hc9⟩ : ∃ c9, (pickC bs c8 7).2 = c9 := ⟨_, rfl⟩
       rw [hr] at hpi7 HKN
       rw [hc9] at hpa7 HKN
       rw [Int.toNat_natCast] at HKN
       have hrb : r < 7 := by omega
       have hkb := kinds_in r
       obtain ⟨kd, hkd⟩ : ∃ kd, (netKind bs c8 mm).1 = kd := ⟨_, rfl⟩
       rw [hkd] at hki
       obtain ⟨k1, hk1⟩ : ∃ k1, kinds.getD r 1 = k1 := ⟨_, rfl⟩
       have hkc := fun (W : World) (K : Nat) (hK : K = W.heap.size) => kind_cells W hK hrb
       rw [hk1] at hkb HKN
       simp only [hk1] at hkc
       have hkdi : kd = if mm < k1 then 1 else k1 := by rw [← hkd, unhide HKN]
       have HKD : Hid (netKind bs c8 mm = (kd, c9)) := by rw [unhide HKN, hkdi]; rfl
       have HRC := hide (And.intro hr hc9)
       have HK1 := hide hk1
       clear hr hc9 hkd hk1 HKN
       go_wp2_with fail
       refine (pick_any C bs c8 7 _ ((unhide HUR).cur.below bw0) hbs (by omega) (by omega)).mono ?_
       rw [(unhide HRC).1, (unhide HRC).2]
       rintro e wA ⟨rfl, hcuA, hoA⟩
       have HUA := hide (((unhide HUR).below (bw0 : Below _ _ (wr.alloc (.cells #[.int .i64 1, .int .i64 2, .int .i64 2, .int .i64 3, .int .i64 3, .int .i64 3, .int .i64 4] 3)))).draw hoA hcuA (by omega) (by omega))
       have hb3r := (unhide HUR).base_
       have hck : wA.cell? ⟨wr.heap.size, r, none⟩ = some (.int .i64 k1) := by
        rw [World.cell?_of_block (w := wr.alloc _) (a := ⟨wr.heap.size, r, none⟩) (hoA.block _ (by simp) (show ¬ wr.heap.size = C by omega))]
        exact hkc wr _ rfl
       have hwAl : wr.heap.size < wA.heap.size := by have := hoA.size; simp at this; omega
       have hr7 : (r : Int) < 7 := by omega
       clear hcuA hoA hkc HUR
       go_upto_if 91 with fail
       go_cut [11] (fun z wx => z = .int .i64 kd ∧ wx = wA)
       case first =>
        by_cases hbig : mm < k1
        ·have hb' : (mm : Int) < (k1 : Int) := by omega
         rw [if_pos hbig] at hkdi
         subst hkdi
         go_wp2_with fail
         go_meet
         exact ⟨rfl, rfl⟩
        ·have hb' : ¬ (mm : Int) < (k1 : Int) := by omega
         rw [if_neg hbig] at hkdi
         subst hkdi
         go_wp2_with fail
         go_meet
         exact ⟨rfl, rfl⟩
       case rest =>
        obtain ⟨rfl, hwcA⟩ := hcut
        rw [hwcA]
        clear hwcA hkdi hck hwAl hr7
        go_wp2_with fail
        obtain ⟨J, hJ⟩ : ∃ J, wA.heap.size = J := ⟨_, rfl⟩
        have hJb : base3 ≤ J := by have := (unhide HUA).base_; omega
        rw [hJ]
        go_loopw [13] (fun z wx => ∃ (x : Nat) (ja : Option Addr) (jc : Nat), z = .int .i64 x ∧ x ≤ kd ∧ Boxed wx J [.int .i64 kd, .string ⟨#[]⟩, .slice ja x jc] ∧ Hid (EdRow wx (J + 1) (.slice ja x jc) (ys.take x)) ∧ Below J wA wx ∧ J + 1 ≤ wx.heap.size) (fun z _ => kd - (intOf z).toNat)
        case atStart => exact ⟨0, none, 0, rfl, Nat.zero_le _, by rw [← hJ]; exact boxed_alloc _ _ _, hide (Row.nil _ _ _ _ _), by rw [← hJ]; exact bw0, by rw [← hJ]; simp⟩
        case round =>
         obtain ⟨x, ja, jc, rfl, hx, hBJ, HER, hBW, hJs⟩ := hrel
         by_cases hxk : x < kd
         ·have hxk' : (x : Int) < (kd : Int) := by omega
          have hxl : x < ys.length := by rw [unhide HLY]; omega
          have HEX : Hid (EdC wr E off ys) := ((unhide HEY).blk (w' := wr) (Nat.le_trans (by have h1 := (unhide HUA).but.size; exact h1) hBW.size) ((hBW.block E (by omega)).trans ((unhide HUA).but.block E (by omega) (fun e => by rcases e with e | e <;> omega))))
          have hcx := (unhide HEX).2.2 x hxl
          obtain ⟨ex, hex⟩ : ∃ ex, ys[x] = ex := ⟨_, rfl⟩
          rw [hex] at hcx
          obtain ⟨px, sx⟩ := ex
          obtain ⟨cx0, cx1⟩ := hcx
          dsimp only at cx0 cx1
          have HPX := hide hex
          have HTX : Hid ((ys.take x).length = x) := by unfold Hid; rw [List.length_take]; omega
          have HTS : Hid (ys.take x ++ [⟨px, sx⟩] = ys.take (x + 1)) := by
           unfold Hid
           rw [← hex, List.take_append_getElem]
          have hwx : IntKind.i64.wrap ((x : Int) + 1) = ((x + 1 : Nat) : Int) := (wrap_small (by omega) (by omega)).trans (by omega)
          have hEl : E < wr.heap.size := (unhide HEX).1
          have hxm : (x : Int) < (mm : Int) := by omega
          have jb2 := hBJ.2.1 2 _ rfl
          have jbl := hBJ.1
          clear hex
          go_upto_region 24 with fail
          refine wp_region_last (S := fun w' => w'.cell? ⟨J, 2, none⟩ = some (.slice ja x jc) ∧ w'.cell? ⟨E, off + x * 2, none⟩ = some (.int .i64 px) ∧ w'.cell? ⟨E, off + x * 2 + 1, none⟩ = some (.int .i64 sx)) 9 (by kernel_rfl) ?_ (fun hHeld => ?_)
          ·exact ⟨by simpa using jb2, by simpa using cx0, by simpa using cx1⟩
          refine tkL 0 [1, 7, 8, 9] ?_
          refine tkL 1 [7, 8, 9] ?_
          refine tkL 2 [4, 5, 6, 7, 8, 9] ?_
          refine tkL 3 [4, 5, 6, 7, 8, 9] ?_
          refine tkL 4 [5, 6, 7, 8, 9] ?_
          refine tkL 5 [6, 7, 8, 9] ?_
          refine wpAnyL_ready (rs := [6]) (by kernel_rfl) (by simp) ?_
          refine (AllReadyL.cons rfl (fun K hK => ?_) AllReadyL.nil)
          go_simp
          have hBJ2 := hBJ.below (bw0 : Below _ _ (wr.alloc (.cells #[.int .i64 px, .int .i64 sx] 141)).drew)
          have HE2 := hide ((unhide HEX).below (bw0 : Below _ _ (wr.alloc (.cells #[.int .i64 px, .int .i64 sx] 141)).drew))
          have hc2 := (unhide HE2).2.2 x hxl
          have hHeld2 := And.intro (hBJ2.2.1 2 _ rfl) hc2
          rw [unhide HPX] at hHeld2
          clear hc2
          refine hK.out _ _ (fun _ => hHeld2) (fun _ => ?_)
          clear hK K
          (try simp only [sA])
          refine wpAnyL_ready (rs := [7]) (by kernel_rfl) (by simp) ?_
          refine (AllReadyL.cons rfl (fun K hK => ?_) AllReadyL.nil)
          refine step_append_lies _ rfl (.tmp 100) (.tmp 105) 54 rfl (J + 1) 141 i3 (.agg #[.int .i64 0, .int .i64 0]) 2 16 Tryz.underlying54 hj3 hx0 hx1 hx2 rfl (by decide) (.slice ja x jc) (ys.take x).length ((ys.take x).flatMap edF) (by simp [Act.eval]) ((unhide HER).below bw0) _ 1 1 (edF ⟨px, sx⟩) (by simp [Act.eval]) rfl (box_news (boxed_alloc _ _ _)) (ed_one _) (by omega) (by rw [unhide HTX]; unfold maxLen; omega) (by rw [unhide HTX]; omega) (by simp; omega) _ rfl ?_
          intro g gcap w9 hown9 hgrow9 hat9 hlt9
          have hrow9 : EdRow w9 (J + 1) (.slice (some ⟨g, 0, none⟩) ((ys.take x).length + 1) gcap) (ys.take x ++ [⟨px, sx⟩]) := Row.snoc (f := edF) hown9
          rw [unhide HTS, unhide HTX] at hrow9
          rw [unhide HTX]
          have hne : ∀ k, (Value.slice ja x jc).ownBlock = some k → J + 1 ≤ k := fun k hk => ((unhide HER).lt k hk).1
          have hBJ9 := hBJ2.grownE hgrow9 (fun hc => by have := hne _ hc; omega)
          have y2 := hBJ9.2.1 2 _ rfl
          have yz := hBJ9.2.2
          have yl := hBJ9.1
          have HBW9 : Hid (Below J wA w9) := Below.grown (hBW.trans (bw0 : Below J wr (wr.alloc (.cells #[.int .i64 px, .int .i64 sx] 141)).drew)) hgrow9 (by simp; omega) (fun k hk => by have := hne k hk; omega)
          have hE9 : w9.heap[E]? = (wr.alloc (.cells #[.int .i64 px, .int .i64 sx] 141)).drew.heap[E]? := hgrow9.block E (by simp; omega) (fun e => by have := hne E e.symm; omega)
          have hc9 := ((unhide HE2).blk hgrow9.size hE9).2.2 x hxl
          rw [unhide HPX] at hc9
          have HR9 := hide hrow9
          clear hown9 hgrow9 hat9 hE9 hrow9
          have hHeld9 := And.intro y2 hc9
          clear hc9
          refine hK.out _ _ (fun _ => hHeld9) (fun _ => ?_)
          clear hK K
          (try simp only [sA])
          refine tkL 8 [9] ?_
          refine wpAnyL_ready (rs := [9]) (by kernel_rfl) (by simp) ?_
          refine (AllReadyL.cons rfl (fun K hK => ?_) AllReadyL.nil)
          go_simp
          refine hK.out _ _ (fun h => absurd rfl h) (fun _ => ?_)
          clear hK K
          (try simp only [sA])
          refine wpAnyL_done (by kernel_rfl) ?_ _

          have HQ9 : Hid (Boxed (w9.setCell ⟨J, 2, none⟩ (.slice (some ⟨g, 0, none⟩) (x + 1) gcap)) J [.int .i64 kd, .string ⟨#[]⟩, .slice (some ⟨g, 0, none⟩) (x + 1) gcap] ∧ EdRow (w9.setCell ⟨J, 2, none⟩ (.slice (some ⟨g, 0, none⟩) (x + 1) gcap)) (J + 1) (.slice (some ⟨g, 0, none⟩) (x + 1) gcap) (ys.take (x + 1)) ∧ Below J wA (w9.setCell ⟨J, 2, none⟩ (.slice (some ⟨g, 0, none⟩) (x + 1) gcap)) ∧ J + 1 ≤ (w9.setCell ⟨J, 2, none⟩ (.slice (some ⟨g, 0, none⟩) (x + 1) gcap)).heap.size) :=
           ⟨hBJ9.setI (i := 2) (by simp) _, (unhide HR9).setCell (p := ⟨J, 2, none⟩) (show J < J + 1 by omega) _, (unhide HBW9).setCell (p := ⟨J, 2, none⟩) (Nat.le_refl J) _, Nat.le_trans (show J + 1 ≤ w9.heap.size from yl) (by simp [World.setCell])⟩
          clear HEX HE2 hBJ2 cx0 cx1 hBJ9 HR9 HBW9 y2 yz yl hHeld2 hHeld9 hBJ HER hBW hJs jb2 jbl hlt9 hne
          obtain ⟨wq, hwq⟩ : ∃ wq, w9.setCell ⟨J, 2, none⟩ (.slice (some ⟨g, 0, none⟩) (x + 1) gcap) = wq := ⟨_, rfl⟩
          rw [hwq] at HQ9
          (try rw [hwq])
          clear hwq
          go_wp2_with fail
          exact ⟨⟨x + 1, some ⟨g, 0, none⟩, gcap, rfl, by omega, (unhide HQ9).1, (unhide HQ9).2.1, (unhide HQ9).2.2.1, (unhide HQ9).2.2.2⟩, by simp [intOf]; omega⟩
         ·have hxk' : ¬ (x : Int) < (kd : Int) := by omega
          have hxe : x = kd := by omega
          subst hxe
          obtain ⟨nm, hnm⟩ : ∃ nm, (netJ ys x js.length).name = nm := ⟨_, rfl⟩
          have HNJ : Hid (netJ ys x js.length = ⟨x, nm, ys.take x⟩) := by unfold Hid; rw [← hnm]; rfl
          have HNM2 : Hid (nm = if 3 ≤ x then nameC (100 + js.length) else ⟨#[]⟩) := hnm.symm
          clear hnm
          go_upto_if 109 with fail
          go_cut [13] (fun z wx => z = .int .i64 x ∧ Boxed wx J [.int .i64 x, .string nm, .slice ja x jc] ∧ Hid (EdRow wx (J + 1) (.slice ja x jc) (ys.take x)) ∧ Below J wA wx)
          case first =>
           by_cases h3 : 3 ≤ x
           ·have h3' : (3 : Int) ≤ (x : Int) := by omega
            have hnm2 := unhide HNM2
            rw [if_pos h3] at hnm2
            have HNM := hide hnm2
            clear hnm2
            have HUB := hide ((unhide HUA).below (show Below wA.heap.size wA wr by rw [hJ]; exact hBW))
            obtain ⟨v, hBX, qs, hqs, hqv, hqe⟩ := (unhide HUB).net
            obtain ⟨va, vc, hve, _⟩ := hqv.shape jvF_len
            subst hve
            have HQL : Hid (qs.length = js.length) := by unfold Hid; rw [← hqs, List.length_map]
            have hqb : qs.length ≤ 18 := by rw [unhide HQL]; omega
            have x1 := hBX.2.1 1 _ rfl
            have xz := hBX.2.2
            have xl := hBX.1
            have hb3B := (unhide HUB).base_
            have HBX := hide hBX
            have HQV := hide hqv
            have HQE := hide hqe
            have HQS := hide hqs
            clear hBX hqv hqe hqs
            have jb0 := hBJ.2.1 0 _ rfl
            have jb1 := hBJ.2.1 1 _ rfl
            have jb2 := hBJ.2.1 2 _ rfl
            have jbz := hBJ.2.2
            have jbl := hBJ.1
            have hXJ : ¬ X = J := by omega
            have hJX : ¬ J = X := by omega
            have hwq : IntKind.i64.wrap (100 + (qs.length : Int)) = ((100 + qs.length : Nat) : Int) := (wrap_small (by omega) (by omega)).trans (by omega)
            go_wp2_with fail
            refine (name_any _ (100 + qs.length) _ (by omega)).mono ?_
            rintro e wn ⟨rfl, hbn⟩
            have hBJn := hBJ.below hbn
            have n1 := hBJn.2.1 1 _ rfl
            have nz := hBJn.2.2
            have nl := hBJn.1
            have HRN := hide ((unhide HER).below hbn)
            have HBN : Hid (Below J wA wn) := hBW.trans (hbn.mono (by omega))
            have hQ : nameC (100 + qs.length) = nm := by rw [unhide HNM, unhide HQL]
            rw [hQ]
            go_wp2_with fail
            go_meet
            exact ⟨rfl, hBJn.setI (i := 1) (by simp) _, hide ((unhide HRN).setCell (p := ⟨J, 1, none⟩) (show J < J + 1 by omega) _), (unhide HBN).setCell (p := ⟨J, 1, none⟩) (Nat.le_refl J) _⟩
           ·have h3' : ¬ (3 : Int) ≤ (x : Int) := by omega
            have hnm2 := unhide HNM2
            clear HNM2
            rw [if_neg h3] at hnm2
            subst hnm2
            go_wp2_with fail
            go_meet
            exact ⟨rfl, hBJ, HER, hBW⟩
          case rest =>
           clear hBJ HER hBW
           obtain ⟨rfl, hBJ, HER, hBW⟩ := hcut
           have HUB := hide ((unhide HUA).below (show Below wA.heap.size wA wc by rw [hJ]; exact hBW))
           obtain ⟨v, hBX, qs, hqs, hqv, hqe⟩ := (unhide HUB).net
           obtain ⟨va, vc, hve, _⟩ := hqv.shape jvF_len
           subst hve
           have HQL : Hid (qs.length = js.length) := by unfold Hid; rw [← hqs, List.length_map]
           have hqb : qs.length ≤ 18 := by rw [unhide HQL]; omega
           have x1 := hBX.2.1 1 _ rfl
           have xz := hBX.2.2
           have xl := hBX.1
           have hb3B := (unhide HUB).base_
           have HBX := hide hBX
           have HQV := hide hqv
           have HQE := hide hqe
           have HQS := hide hqs
           clear hBX hqv hqe hqs
           have jb0 := hBJ.2.1 0 _ rfl
           have jb1 := hBJ.2.1 1 _ rfl
           have jb2 := hBJ.2.1 2 _ rfl
           have jbz := hBJ.2.2
           have jbl := hBJ.1
           have hXJ : ¬ X = J := by omega
           have hJX : ¬ J = X := by omega
           have hev : EdRow wc base3 (.slice ja x jc) (ys.take x) := (unhide HER).mono (by omega)
           have HEV := hide hev
           clear hev
           go_wp2_with (at_builtin; refine wpList_append_own _ rfl (.tmp 118) (.tmp 120) 24 rfl base3 56 i1 (.agg #[.int .i64 0, .string ⟨#[]⟩, .slice none 0 0]) 3 48 Tryz.underlying24 hj1 hy0 hy1 hy2 rfl (by decide) _ _ _ rfl ((unhide HQV).below bw0) ⟨wc.heap.size, 0, none⟩ 1 1 (jvF (⟨x, nm, ys.take x⟩, .slice ja x jc)) rfl rfl ?c1 (jv_one _ _ _ _) ?c2 ?c3 ?c4 ?_)
           case c1 => (first | exact fun _ _ h => h | exact box_news (boxedN _ _ _ (by first | rfl | simp)))
           case c2 => unfold maxLen; omega
           case c3 => omega
           case c4 => (first | omega | (simp; omega))
           intro v' w9 hown9 hgrow9 _
           have hrow9 : JvRow w9 base3 v' (qs ++ [(⟨x, nm, ys.take x⟩, .slice ja x jc)]) := Row.snoc (f := jvF) hown9
           obtain ⟨va9, vc9, hve9, _⟩ := hrow9.shape jvF_len
           rw [List.length_append, List.length_singleton] at hve9
           subst hve9
           have hBA : Below wc.heap.size wc (wc.alloc (.cells #[.int .i64 x, .string nm, .slice ja x jc] 56)) := bw0
           have HU9 := hide (((unhide HUB).below hBA).joint ((unhide HBX).below hBA) (unhide HQS) ((unhide HQV).below hBA) (fun q hq => (unhide HQE q hq).below hBA) (j := ⟨x, nm, ys.take x⟩) ((unhide HEV).below hBA) hgrow9 hrow9 (by omega) (by omega))
           have hX9 := ((unhide HBX).below hBA).grownE hgrow9 (fun hc => by have := ((unhide HQV).lt _ hc).1; omega)
           have y1 := hX9.2.1 1 _ rfl
           have yz := hX9.2.2
           have yl := hX9.1
           clear hown9 hgrow9 hrow9 hX9 hBA jb0 jb1 jb2 jbz jbl x1 xz xl HBX HQV HQE HQS HEV HER hBW hBJ HUB
           have hxm : (x : Int) ≤ (mm : Int) := by omega
           have hxc : (x : Int) ≤ (cap : Int) := by omega
           have HLD : Hid ((ys.drop x).length = mm - x) := by unfold Hid; rw [List.length_drop, unhide HLY]
           have HJL : Hid ((js ++ [(⟨x, nm, ys.take x⟩ : Jt)]).length + (mm - x) ≤ m) := by unfold Hid; rw [List.length_append, List.length_singleton]; omega
           have HGN : Hid (netGo3 bs (mm - x) (js ++ [⟨x, nm, ys.take x⟩]) (ys.drop x) c9 = netGo3 bs m [] xs c7) := by
            unfold Hid
            rw [← unhide HGO3]
            obtain ⟨f, rfl⟩ : ∃ f, mm = f + 1 := ⟨mm - 1, by omega⟩
            show _ = (if ys.length = 0 then (js, c8) else netGo3 bs f (js ++ [netJ ys (netKind bs c8 ys.length).1 js.length]) (ys.drop (netKind bs c8 ys.length).1) (netKind bs c8 ys.length).2)
            rw [unhide HLY, if_neg (by omega), unhide HKD]
            dsimp only
            rw [unhide HNJ]
            exact netGo3_fuel bs _ _ _ _ _ (by rw [unhide HLD]; omega) (by rw [unhide HLD]; omega)
           go_wp2_with fail
           by_cases hcx : cap = x
           ·rw [if_pos hcx]
            refine ⟨⟨mm - x, off, cap - x, ys.drop x, c9, _, rfl, by omega, by omega, HLD, unhide HJL, by omega, ?_, HGN, HU9⟩, show mm - x < mm by omega⟩
            have h1 := unhide HEY
            exact ⟨h1.1, h1.2.1, fun i hi => by have h2 := unhide HLD; omega⟩
           ·rw [if_neg hcx]
            exact ⟨⟨mm - x, off + x * 2, cap - x, ys.drop x, c9, _, rfl, by omega, by omega, HLD, unhide HJL, by omega, (unhide HEY).drop x, HGN, HU9⟩, show mm - x < mm by omega⟩
      ·have hmp' : ¬ (0 : Int) < (mm : Int) := by omega
       have hm0 : mm = 0 := by omega
       subst hm0
       have HN3 : Hid (net3 bs c = (js, c8)) := by
        unfold Hid net3
        rw [unhide HN2]
        show netGo3 bs xs.length [] xs c7 = _
        rw [unhide HLX, ← unhide HGO3]
        rfl
       have hbz := (unhide HUR).but
       obtain ⟨v, hBX, hJt⟩ := (unhide HUR).net
       obtain ⟨a2, cap2, hv2, hjz⟩ := jtRow_at hJt
       subst hv2
       subst hue
       have hpz : PcRow wr base (.slice ua ps.length ucap) ps := (unhide HP3).1.block fun k hk => hbz.block k ((unhide HP3).2 k hk) (fun e => by have := ((unhide HP3).1.lt k hk).1; rcases e with e | e <;> omega)
       obtain ⟨a1, cap1, hu1, hpz'⟩ := pcRow_at hpz
       simp only [Value.slice.injEq] at hu1
       obtain ⟨rfl, _, rfl⟩ := hu1
       have HNZ : Hid (NetAt base wr (.agg #[.slice ua ps.length ucap, .slice a2 js.length cap2]) ⟨ps, js⟩) := ⟨ua, a2, ucap, cap2, rfl, hpz', hjz.mono (by omega)⟩
       have hRb := (unhide HR3).but hbz (show R < base3 by omega) (fun e => by rcases e with e | e <;> omega)
       have z0 := hBX.2.1 0 _ rfl
       have z1 := hBX.2.1 1 _ rfl
       have zl := hBX.1
       have r0 := hRb.2.1 0 _ rfl
       have r1 := hRb.2.1 1 _ rfl
       have rz := hRb.2.2
       have rl := hRb.1
       have hRX : ¬ R = X := by omega
       have hXR : ¬ X = R := by omega
       have hbf := (hRb.setI (i := 0) (by simp) (.slice ua ps.length ucap)).setI (i := 1) (by simp) (.slice a2 js.length cap2)
       have HF := hide (And.intro (hbf.2.1 0 _ rfl) (hbf.2.1 1 _ rfl))
       have HBZ := hide hbz
       clear hbf hRb hBX hJt hjz hpz hpz' hbz
       go_wp2_with fail
       obtain ⟨f0, f1⟩ := unhide HF
       have hres : netC bs c = (⟨ps, js⟩, c8) := by
        unfold netC
        rw [unhide HN1, unhide HN3]
       refine bodyPost_ret (v := .agg #[.slice ua ps.length ucap, .slice a2 js.length cap2]) (by simp [results, Tryz.results30, go_sem, f0, f1]) rfl ?_
       rw [hres]
       refine ⟨_, rfl, ?_, ?_, ?_⟩
       ·exact ((unhide HNZ).keeps ((keeps_setCell _ (p := ⟨R, 0, none⟩) (show R < base by omega) _).trans (keeps_setCell _ (p := ⟨R, 1, none⟩) (show R < base by omega) _))).mono (by omega)
       ·exact (unhide HUR).cur.of_below (U := C + 1) bw0 (by omega)
       ·exact (((unhide HB0').trans ((unhide HBZ).mono (by omega) (fun k hk e => by rcases e with e | e; exact e; omega))).trans (but_setCell _ (Or.inr (show w.heap.size ≤ R by omega)) _)).trans (but_setCell _ (Or.inr (show w.heap.size ≤ R by omega)) _)
end Go.Proofs.YtjacbppeebnjfaaGreat

