import Derived.Test.YtcggkfpkkhjdhaaGreatMToInts
set_option linter.unusedSimpArgs false
namespace Go.Proofs.YtcggkfpkkhjdhaaGreat
open Go.RowKit

/-! ### A heap, as a list -/

section
variable {α : Type} (R : α → α → Prop) (d : α)
def swapL (l : List α) (i k : Nat) : List α := (l.set i (l.getD k d)).set k (l.getD i d)
theorem swapL_len (l : List α) (i k : Nat) : (swapL d l i k).length = l.length := by simp [swapL]
theorem swapL_get (l : List α) {i k : Nat} (hi : i < l.length) (hk : k < l.length) (j : Nat) : (swapL d l i k).getD j d = if j = k then l.getD i d else if j = i then l.getD k d else l.getD j d := by
  unfold swapL
  rw [List.getD_eq_getElem?_getD, List.getElem?_set, List.length_set]
  by_cases h1 : k = j
  · subst h1
    rw [if_pos rfl, if_pos hk, if_pos rfl]
    rfl
  · rw [if_neg h1, List.getElem?_set, if_neg (show ¬ j = k from fun h => h1 h.symm)]
    by_cases h2 : i = j
    · subst h2
      rw [if_pos rfl, if_pos hi, if_pos rfl]
      rfl
    · rw [if_neg h2, if_neg (show ¬ j = i from fun h => h2 h.symm), ← List.getD_eq_getElem?_getD]
def HeapL (l : List α) : Prop := ∀ j, 0 < j → j < l.length → ¬ R (l.getD j d) (l.getD ((j - 1) / 2) d)
/-- A heap but for the item i, that may have to rise. -/
def HpU (l : List α) (i : Nat) : Prop := (∀ j, 0 < j → j < l.length → j ≠ i → ¬ R (l.getD j d) (l.getD ((j - 1) / 2) d)) ∧ ∀ j, 0 < i → 0 < j → j < l.length → (j - 1) / 2 = i → ¬ R (l.getD j d) (l.getD ((i - 1) / 2) d)
/-- A heap but for the item i, that may have to sink. -/
def HpD (l : List α) (i : Nat) : Prop := (∀ j, 0 < j → j < l.length → (j - 1) / 2 ≠ i → ¬ R (l.getD j d) (l.getD ((j - 1) / 2) d)) ∧ ∀ j, 0 < i → 0 < j → j < l.length → (j - 1) / 2 = i → ¬ R (l.getD j d) (l.getD ((i - 1) / 2) d)
variable {R d}
theorem getD_app {l : List α} {x : α} {j : Nat} (h : j < l.length) : (l ++ [x]).getD j d = l.getD j d := by
  rw [List.getD_eq_getElem?_getD, List.getD_eq_getElem?_getD, List.getElem?_append_left h]
theorem up_start {l : List α} (h : HeapL R d l) (x : α) : HpU R d (l ++ [x]) l.length := by
  constructor
  · intro j h0 hj hne
    simp only [List.length_append, List.length_singleton] at hj
    rw [getD_app (by omega), getD_app (by omega)]
    exact h j h0 (by omega)
  · intro j _ h0 hj he
    simp only [List.length_append, List.length_singleton] at hj
    omega
theorem up_end0 {l : List α} (h : HpU R d l 0) : HeapL R d l := fun j h0 hj => h.1 j h0 hj (by omega)
theorem up_end {l : List α} {i : Nat} (h : HpU R d l i) (hr : ¬ R (l.getD i d) (l.getD ((i - 1) / 2) d)) : HeapL R d l := fun j h0 hj => by
  by_cases e : j = i
  · subst e; exact hr
  · exact h.1 j h0 hj e
theorem up_step (asy : ∀ x y, R x y → ¬ R y x) (tr : ∀ x y z, ¬ R y x → ¬ R z y → ¬ R z x) {l : List α} {i : Nat} (h : HpU R d l i) (h0 : 0 < i) (hi : i < l.length) (hr : R (l.getD i d) (l.getD ((i - 1) / 2) d)) : HpU R d (swapL d l i ((i - 1) / 2)) ((i - 1) / 2) := by
  have ha : (i - 1) / 2 < l.length := by omega
  constructor
  · intro j hj0 hj hne
    rw [swapL_len] at hj
    rw [swapL_get d l hi ha, swapL_get d l hi ha]
    by_cases e1 : j = i
    · subst e1
      rw [if_neg (show ¬ j = (j - 1) / 2 by omega), if_pos rfl, if_pos rfl]
      exact asy _ _ hr
    · rw [if_neg hne, if_neg e1]
      by_cases e2 : (j - 1) / 2 = (i - 1) / 2
      · rw [if_pos e2]
        have := h.1 j hj0 hj e1
        rw [e2] at this
        exact tr _ _ _ (asy _ _ hr) this
      · rw [if_neg e2]
        by_cases e3 : (j - 1) / 2 = i
        · rw [if_pos e3]
          exact h.2 j h0 hj0 hj e3
        · rw [if_neg e3]
          exact h.1 j hj0 hj e1
  · intro j ha0 hj0 hj he
    rw [swapL_len] at hj
    rw [swapL_get d l hi ha, swapL_get d l hi ha, if_neg (show ¬ j = (i - 1) / 2 by omega), if_neg (show ¬ ((i - 1) / 2 - 1) / 2 = (i - 1) / 2 by omega), if_neg (show ¬ ((i - 1) / 2 - 1) / 2 = i by omega)]
    have hg := h.1 ((i - 1) / 2) ha0 ha (by omega)
    by_cases e1 : j = i
    · rw [if_pos e1]
      exact hg
    · rw [if_neg e1]
      have := h.1 j hj0 hj e1
      rw [he] at this
      exact tr _ _ _ hg this
theorem down_start {l : List α} {k : Nat} (h : HeapL R d l) (hk : l.length = k + 1) : HpD R d ((swapL d l 0 k).take k) 0 := by
  have get : ∀ j, 0 < j → j < k → ((swapL d l 0 k).take k).getD j d = l.getD j d := fun j h0 hj => by
    have e : ((swapL d l 0 k).take k).getD j d = (swapL d l 0 k).getD j d := by
      rw [List.getD_eq_getElem?_getD, List.getD_eq_getElem?_getD, List.getElem?_take_of_lt hj]
    rw [e, swapL_get d l (by omega) (by omega), if_neg (show ¬ j = k by omega), if_neg (show ¬ j = 0 by omega)]
  constructor
  · intro j h0 hj hne
    rw [List.length_take, swapL_len] at hj
    rw [get j h0 (by omega), get _ (by omega) (by omega)]
    exact h j h0 (by omega)
  · intro j h0
    omega
theorem down_end {l : List α} {i : Nat} (h : HpD R d l i) (hc : ∀ j, j = 2 * i + 1 ∨ j = 2 * i + 2 → j < l.length → ¬ R (l.getD j d) (l.getD i d)) : HeapL R d l := fun j h0 hj => by
  by_cases e : (j - 1) / 2 = i
  · rw [e]
    exact hc j (by omega) hj
  · exact h.1 j h0 hj e
theorem down_step (asy : ∀ x y, R x y → ¬ R y x) {l : List α} {i c : Nat} (h : HpD R d l i) (hc : c = 2 * i + 1 ∨ c = 2 * i + 2) (hcl : c < l.length) (hr : R (l.getD c d) (l.getD i d)) (ho : ∀ j, j = 2 * i + 1 ∨ j = 2 * i + 2 → j < l.length → ¬ R (l.getD j d) (l.getD c d)) : HpD R d (swapL d l i c) c := by
  have hi : i < l.length := by omega
  have hic : (c - 1) / 2 = i := by omega
  constructor
  · intro j hj0 hj hne
    rw [swapL_len] at hj
    rw [swapL_get d l hi hcl, swapL_get d l hi hcl]
    rw [if_neg (show ¬ (j - 1) / 2 = c from hne)]
    by_cases e1 : j = c
    · subst e1
      rw [if_pos rfl, if_pos hic]
      exact asy _ _ hr
    · rw [if_neg e1]
      by_cases e2 : j = i
      · subst e2
        rw [if_pos rfl, if_neg (show ¬ (j - 1) / 2 = j by omega)]
        exact h.2 c (by omega) (by omega) hcl hic
      · rw [if_neg e2]
        by_cases e3 : (j - 1) / 2 = i
        · rw [if_pos e3]
          exact ho j (by omega) hj
        · rw [if_neg e3]
          exact h.1 j hj0 hj e3
  · intro j _ hj0 hj he
    rw [swapL_len] at hj
    rw [swapL_get d l hi hcl, swapL_get d l hi hcl, if_neg (show ¬ j = c by omega), if_neg (show ¬ j = i by omega), hic, if_neg (show ¬ i = c by omega), if_pos rfl]
    have := h.1 j hj0 hj (by omega)
    rw [he] at this
    exact this
theorem heap_min (tr : ∀ x y z, ¬ R y x → ¬ R z y → ¬ R z x) (irr : ∀ x, ¬ R x x) {l : List α} (h : HeapL R d l) : ∀ (j : Nat), j < l.length → ¬ R (l.getD j d) (l.getD 0 d) := by
  intro j
  induction j using Nat.strongRecOn with
  | _ j ih =>
    intro hj
    rcases Nat.eq_zero_or_pos j with rfl | h0
    · exact irr _
    · exact tr _ _ _ (ih ((j - 1) / 2) (by omega) (by omega)) (h j h0 hj)
theorem mem_getD {l : List α} {x : α} : x ∈ l ↔ ∃ j, j < l.length ∧ l.getD j d = x := by
  constructor
  · intro h
    obtain ⟨j, hj, rfl⟩ := List.getElem_of_mem h
    exact ⟨j, hj, by rw [List.getD_eq_getElem?_getD, List.getElem?_eq_getElem hj]; rfl⟩
  · rintro ⟨j, hj, rfl⟩
    rw [List.getD_eq_getElem?_getD, List.getElem?_eq_getElem hj]
    exact List.getElem_mem hj
/-- The same items. -/
def SameL (R : α → α → Prop) (d : α) (l k : List α) : Prop := k.length = l.length ∧ (∀ x, x ∈ k ↔ x ∈ l) ∧ ((∀ i j, i < l.length → j < l.length → i ≠ j → R (l.getD i d) (l.getD j d)) → ∀ i j, i < k.length → j < k.length → i ≠ j → R (k.getD i d) (k.getD j d))
theorem SameL.refl (R : α → α → Prop) (l : List α) : SameL R d l l := ⟨rfl, fun _ => Iff.rfl, fun h => h⟩
theorem SameL.trans {R : α → α → Prop} {l k m : List α} (h : SameL R d l k) (g : SameL R d k m) : SameL R d l m := ⟨g.1.trans h.1, fun x => (g.2.1 x).trans (h.2.1 x), fun q => g.2.2 (h.2.2 q)⟩
theorem same_swap (R : α → α → Prop) {l : List α} {i k : Nat} (hi : i < l.length) (hk : k < l.length) : SameL R d l (swapL d l i k) := by
  refine ⟨swapL_len d l i k, fun x => ?_, fun h a b ha hb hab => ?_⟩
  · rw [mem_getD (d := d), mem_getD (d := d), swapL_len]
    constructor
    · rintro ⟨j, hj, rfl⟩
      rw [swapL_get d l hi hk]
      split
      · exact ⟨i, hi, rfl⟩
      · split
        · exact ⟨k, hk, rfl⟩
        · exact ⟨j, hj, rfl⟩
    · rintro ⟨j, hj, rfl⟩
      by_cases e1 : j = i
      · subst e1
        exact ⟨k, hk, by rw [swapL_get d l hi hk, if_pos rfl]⟩
      · by_cases e2 : j = k
        · subst e2
          exact ⟨i, hi, by rw [swapL_get d l hi hk, if_neg (fun h => e1 h.symm), if_pos rfl]⟩
        · exact ⟨j, hj, by rw [swapL_get d l hi hk, if_neg e2, if_neg e1]⟩
  · rw [swapL_len] at ha hb
    rw [swapL_get d l hi hk, swapL_get d l hi hk]
    split <;> split <;> (try split) <;> (try split) <;> first | (apply h <;> omega) | omega
end

/-! ### Wheels -/

structure Wh where
  axle : Int
  back : Int
  ms : List Mrk
def noWh : Wh := ⟨0, 0, []⟩
def noMk : Mrk := ⟨0, 0, 0⟩
def Wh.next (w : Wh) : Int := (w.ms.headD noMk).far + w.back
def bef (w v : Wh) : Prop := w.next < v.next ∨ (w.next = v.next ∧ w.axle < v.axle)
theorem bef_asymm (x y : Wh) (h : bef x y) : ¬ bef y x := fun g => by unfold bef at h g; omega
theorem bef_irr (x : Wh) : ¬ bef x x := fun g => by unfold bef at g; omega
theorem bef_trans (x y z : Wh) (h : ¬ bef y x) (g : ¬ bef z y) : ¬ bef z x := fun q => by unfold bef at h g q; omega
def tagM (w : Wh) (m : Mrk) : Tg := ⟨m.far + w.back, w.axle.toNat, m.post, m.way⟩
/-- What a wheel has yet to pass. -/
def remW (w : Wh) : List Tg := w.ms.map (tagM w)
/-- A wheel as it is kept. -/
structure WhOk (w : Wh) : Prop where
  some : w.ms ≠ []
  sorted : w.ms.Pairwise Mlt
  axle : 0 ≤ w.axle
def OtherAx (w v : Wh) : Prop := w.axle ≠ v.axle
/-- The merge under way. -/
structure Merge (T : Tg → Prop) (l : List Wh) (L : List Tg) : Prop where
  ok : ∀ w ∈ l, WhOk w
  two : ∀ i j, i < l.length → j < l.length → i ≠ j → OtherAx (l.getD i noWh) (l.getD j noWh)
  sorted : L.Pairwise Tlt
  later : ∀ t ∈ L, ∀ w ∈ l, ∀ r ∈ remW w, Tlt t r
  all : ∀ t, T t ↔ t ∈ L ∨ ∃ w ∈ l, t ∈ remW w
/-- The marks at the place of the next one, and those behind it. -/
def grpW (w : Wh) : List Mrk := w.ms.takeWhile fun m => m.far == (w.ms.headD noMk).far
def rstW (w : Wh) : List Mrk := w.ms.dropWhile fun m => m.far == (w.ms.headD noMk).far
theorem rst_far {w : Wh} (h : WhOk w) : ∀ m ∈ rstW w, (w.ms.headD noMk).far < m.far := by
  obtain ⟨ax, bk, ms⟩ := w
  have hs := h.sorted
  unfold rstW
  dsimp only at hs ⊢
  cases ms with
  | nil => intro m hm; simp at hm
  | cons x r =>
    simp only [List.headD_cons]
    have key : ∀ l : List Mrk, (∀ y ∈ l, x.far ≤ y.far) → l.Pairwise Mlt → ∀ m ∈ l.dropWhile (fun m => m.far == x.far), x.far < m.far := by
      intro l
      induction l with
      | nil => intro _ _ m hm; simp at hm
      | cons y q ih =>
        intro hl hp m hm
        rw [List.dropWhile_cons] at hm
        by_cases e : y.far = x.far
        · rw [if_pos (by simpa using e)] at hm
          exact ih (fun z hz => hl z (List.mem_cons_of_mem _ hz)) (List.pairwise_cons.1 hp).2 m hm
        · rw [if_neg (by simpa using e)] at hm
          have h1 := hl y List.mem_cons_self
          rcases List.mem_cons.1 hm with rfl | hm
          · omega
          · have := (List.pairwise_cons.1 hp).1 m hm
            unfold Mlt at this
            omega
    refine key (x :: r) (fun y hy => ?_) hs
    rcases List.mem_cons.1 hy with rfl | hy
    · exact Int.le_refl _
    · have := (List.pairwise_cons.1 hs).1 y hy
      unfold Mlt at this
      omega
theorem grp_far {w : Wh} : ∀ m ∈ grpW w, m.far = (w.ms.headD noMk).far := by
  have key : ∀ (f : Int) (l : List Mrk), ∀ m ∈ l.takeWhile (fun m => m.far == f), m.far = f := by
    intro f l
    induction l with
    | nil => intro m hm; simp at hm
    | cons x r ih =>
      intro m hm
      rw [List.takeWhile_cons] at hm
      by_cases e : x.far = f
      · rw [if_pos (by simpa using e)] at hm
        rcases List.mem_cons.1 hm with rfl | hm
        · exact e
        · exact ih m hm
      · rw [if_neg (by simpa using e)] at hm
        cases hm
  exact fun m hm => key _ _ m hm
theorem grp_rst (w : Wh) : grpW w ++ rstW w = w.ms := List.takeWhile_append_dropWhile
/-- One wheel's turn. -/
theorem Merge.turn {T : Tg → Prop} {l k : List Wh} {L : List Tg} (h : Merge T l L) {w : Wh} (hw : w ∈ l) (hmin : ∀ v ∈ l, ¬ bef v w) (hmem : ∀ v, v ∈ l ↔ v = w ∨ v ∈ k) (hk2 : ∀ i j, i < k.length → j < k.length → i ≠ j → OtherAx (k.getD i noWh) (k.getD j noWh)) (hkw : ∀ v ∈ k, OtherAx v w) :
    (rstW w = [] → Merge T k (L ++ (grpW w).map (tagM w))) ∧ (rstW w ≠ [] → ∀ k', (∀ v, v ∈ k' ↔ v ∈ k ∨ v = ⟨w.axle, w.back, rstW w⟩) → (∀ i j, i < k'.length → j < k'.length → i ≠ j → OtherAx (k'.getD i noWh) (k'.getD j noWh)) → Merge T k' (L ++ (grpW w).map (tagM w))) := by
  have hok := h.ok w hw
  have hsrt := hok.sorted
  rw [← grp_rst w] at hsrt
  obtain ⟨s1, s2, s3⟩ := List.pairwise_append.1 hsrt
  have hL : (L ++ (grpW w).map (tagM w)).Pairwise Tlt := by
    refine List.pairwise_append.2 ⟨h.sorted, ?_, fun t ht r hr => ?_⟩
    · rw [List.pairwise_map]
      refine (List.Pairwise.and_mem.1 s1).imp fun {x y} ⟨hx, hy, hxy⟩ => ?_
      have e1 := grp_far x hx
      have e2 := grp_far y hy
      unfold Mlt at hxy
      unfold Tlt tagM
      dsimp only
      omega
    · refine h.later t ht w hw r ?_
      unfold remW
      rw [← grp_rst w, List.map_append]
      exact List.mem_append_left _ hr
  have hgl : ∀ t ∈ (grpW w).map (tagM w), ∀ v ∈ k, ∀ r ∈ remW v, Tlt t r := fun t ht v hv r hr => by
    obtain ⟨m, hm, rfl⟩ := List.mem_map.1 ht
    obtain ⟨q, hq, rfl⟩ := List.mem_map.1 hr
    have hvl := (hmem v).2 (Or.inr hv)
    have hvo := h.ok v hvl
    have e1 := grp_far m hm
    have hnb := hmin v hvl
    have hax := hkw v hv
    have hva := hvo.axle
    have hwa := hok.axle
    have hqf : (v.ms.headD noMk).far ≤ q.far := by
      have hvs := hvo.sorted
      cases hvm : v.ms with
      | nil => exact absurd hvm hvo.some
      | cons y r' =>
        rw [hvm] at hq hvs
        simp only [List.headD_cons]
        rcases List.mem_cons.1 hq with rfl | hq
        · exact Int.le_refl _
        · have := (List.pairwise_cons.1 hvs).1 q hq
          unfold Mlt at this
          omega
    unfold bef Wh.next at hnb
    unfold OtherAx at hax
    unfold Tlt tagM
    dsimp only
    omega
  have hgr : ∀ t ∈ (grpW w).map (tagM w), ∀ r ∈ (rstW w).map (tagM w), Tlt t r := fun t ht r hr => by
    obtain ⟨m, hm, rfl⟩ := List.mem_map.1 ht
    obtain ⟨q, hq, rfl⟩ := List.mem_map.1 hr
    have e1 := grp_far m hm
    have e2 := rst_far hok q hq
    unfold Tlt tagM
    dsimp only
    omega
  have hrem : remW w = (grpW w).map (tagM w) ++ (rstW w).map (tagM w) := by
    unfold remW
    rw [← List.map_append, grp_rst]
  constructor
  · intro hr
    refine ⟨fun v hv => h.ok v ((hmem v).2 (Or.inr hv)), hk2, hL, fun t ht v hv r hr' => ?_, fun t => ?_⟩
    · rcases List.mem_append.1 ht with ht | ht
      · exact h.later t ht v ((hmem v).2 (Or.inr hv)) r hr'
      · exact hgl t ht v hv r hr'
    · rw [h.all t, List.mem_append]
      constructor
      · rintro (ht | ⟨v, hv, hr'⟩)
        · exact Or.inl (Or.inl ht)
        · rcases (hmem v).1 hv with rfl | hv
          · rw [hrem, hr] at hr'
            exact Or.inl (Or.inr (by simpa using hr'))
          · exact Or.inr ⟨v, hv, hr'⟩
      · rintro ((ht | ht) | ⟨v, hv, hr'⟩)
        · exact Or.inl ht
        · exact Or.inr ⟨w, hw, by rw [hrem]; exact List.mem_append_left _ ht⟩
        · exact Or.inr ⟨v, (hmem v).2 (Or.inr hv), hr'⟩
  · intro hr k' hk' hk2'
    have hrw : remW ⟨w.axle, w.back, rstW w⟩ = (rstW w).map (tagM w) := rfl
    refine ⟨fun v hv => ?_, hk2', hL, fun t ht v hv r hr' => ?_, fun t => ?_⟩
    · rcases (hk' v).1 hv with hv | rfl
      · exact h.ok v ((hmem v).2 (Or.inr hv))
      · exact ⟨hr, s2, hok.axle⟩
    · rcases (hk' v).1 hv with hv | rfl
      · rcases List.mem_append.1 ht with ht | ht
        · exact h.later t ht v ((hmem v).2 (Or.inr hv)) r hr'
        · exact hgl t ht v hv r hr'
      · rw [hrw] at hr'
        rcases List.mem_append.1 ht with ht | ht
        · exact h.later t ht w hw r (by rw [hrem]; exact List.mem_append_right _ hr')
        · exact hgr t ht r hr'
    · rw [h.all t, List.mem_append]
      constructor
      · rintro (ht | ⟨v, hv, hr'⟩)
        · exact Or.inl (Or.inl ht)
        · rcases (hmem v).1 hv with rfl | hv
          · rw [hrem] at hr'
            rcases List.mem_append.1 hr' with hr' | hr'
            · exact Or.inl (Or.inr hr')
            · exact Or.inr ⟨_, (hk' _).2 (Or.inr rfl), by rw [hrw]; exact hr'⟩
          · exact Or.inr ⟨v, (hk' v).2 (Or.inl hv), hr'⟩
      · rintro ((ht | ht) | ⟨v, hv, hr'⟩)
        · exact Or.inl ht
        · exact Or.inr ⟨w, hw, by rw [hrem]; exact List.mem_append_left _ ht⟩
        · rcases (hk' v).1 hv with hv | rfl
          · exact Or.inr ⟨v, (hmem v).2 (Or.inr hv), hr'⟩
          · rw [hrw] at hr'
            exact Or.inr ⟨w, hw, by rw [hrem]; exact List.mem_append_right _ hr'⟩

end Go.Proofs.YtcggkfpkkhjdhaaGreat

