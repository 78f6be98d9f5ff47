import Derived.Test.YtjacbppeebnjfaaGreatMReadBy
import Derived.Test.YtjacbppeebnjfaaGreatMPlain7
import Derived.Test.YtjacbppeebnjfaaGreatMSpec9
import Derived.Test.YtjacbppeebnjfaaGreatMKt12
set_option linter.unusedSimpArgs false
namespace Go.Proofs.YtjacbppeebnjfaaGreat
open Go.RowKit

section
variable {α : Type} (R : α → α → Prop) (d : α)
def swapL (l : List α) (i k : Nat) : List α := (l.set i (l.getD k d)).set k (l.getD i d)
theorem swapL_len (l : List α) (i k : Nat) : (swapL d l i k).length = l.length := by simp [swapL]
theorem swapL_get (l : List α) {i k : Nat} (hi : i < l.length) (hk : k < l.length) (j : Nat) : (swapL d l i k).getD j d = if j = k then l.getD i d else if j = i then l.getD k d else l.getD j d := by
 unfold swapL
 rw [List.getD_eq_getElem?_getD, List.getElem?_set, List.length_set]
 by_cases h1 : k = j
 ·subst h1
  rw [if_pos rfl, if_pos hk, if_pos rfl]
  rfl
 ·rw [if_neg h1, List.getElem?_set, if_neg (show ¬ j = k from fun h => h1 h.symm)]
  by_cases h2 : i = j
  ·subst h2
   rw [if_pos rfl, if_pos hi, if_pos rfl]
   rfl
  ·rw [if_neg h2, if_neg (show ¬ j = i from fun h => h2 h.symm), ← List.getD_eq_getElem?_getD]
def HeapL (l : List α) : Prop := ∀ j, 0 < j → j < l.length → ¬ R (l.getD j d) (l.getD ((j - 1) / 2) d)
def HpU (l : List α) (i : Nat) : Prop := (∀ j, 0 < j → j < l.length → j ≠ i → ¬ R (l.getD j d) (l.getD ((j - 1) / 2) d)) ∧ ∀ j, 0 < i → 0 < j → j < l.length → (j - 1) / 2 = i → ¬ R (l.getD j d) (l.getD ((i - 1) / 2) d)
def HpD (l : List α) (i : Nat) : Prop := (∀ j, 0 < j → j < l.length → (j - 1) / 2 ≠ i → ¬ R (l.getD j d) (l.getD ((j - 1) / 2) d)) ∧ ∀ j, 0 < i → 0 < j → j < l.length → (j - 1) / 2 = i → ¬ R (l.getD j d) (l.getD ((i - 1) / 2) d)
variable {R d}
theorem getD_app {l : List α} {x : α} {j : Nat} (h : j < l.length) : (l ++ [x]).getD j d = l.getD j d := by
 rw [List.getD_eq_getElem?_getD, List.getD_eq_getElem?_getD, List.getElem?_append_left h]
theorem up_start {l : List α} (h : HeapL R d l) (x : α) : HpU R d (l ++ [x]) l.length := by
 constructor
 ·intro j h0 hj hne
  simp only [List.length_append, List.length_singleton] at hj
  rw [getD_app (by omega), getD_app (by omega)]
  exact h j h0 (by omega)
 ·intro j _ h0 hj he
  simp only [List.length_append, List.length_singleton] at hj
  omega
theorem up_end0 {l : List α} (h : HpU R d l 0) : HeapL R d l := fun j h0 hj => h.1 j h0 hj (by omega)
theorem up_end {l : List α} {i : Nat} (h : HpU R d l i) (hr : ¬ R (l.getD i d) (l.getD ((i - 1) / 2) d)) : HeapL R d l := fun j h0 hj => by
 by_cases e : j = i
 ·subst e; exact hr
 ·exact h.1 j h0 hj e
theorem up_step (asy : ∀ x y, R x y → ¬ R y x) (tr : ∀ x y z, ¬ R y x → ¬ R z y → ¬ R z x) {l : List α} {i : Nat} (h : HpU R d l i) (h0 : 0 < i) (hi : i < l.length) (hr : R (l.getD i d) (l.getD ((i - 1) / 2) d)) : HpU R d (swapL d l i ((i - 1) / 2)) ((i - 1) / 2) := by
 have ha : (i - 1) / 2 < l.length := by omega
 constructor
 ·intro j hj0 hj hne
  rw [swapL_len] at hj
  rw [swapL_get d l hi ha, swapL_get d l hi ha]
  by_cases e1 : j = i
  ·subst e1
   rw [if_neg (show ¬ j = (j - 1) / 2 by omega), if_pos rfl, if_pos rfl]
   exact asy _ _ hr
  ·rw [if_neg hne, if_neg e1]
   by_cases e2 : (j - 1) / 2 = (i - 1) / 2
   ·rw [if_pos e2]
    have := h.1 j hj0 hj e1
    rw [e2] at this
    exact tr _ _ _ (asy _ _ hr) this
   ·rw [if_neg e2]
    by_cases e3 : (j - 1) / 2 = i
    ·rw [if_pos e3]
     exact h.2 j h0 hj0 hj e3
    ·rw [if_neg e3]
     exact h.1 j hj0 hj e1
 ·intro j ha0 hj0 hj he
  rw [swapL_len] at hj
  rw [swapL_get d l hi ha, swapL_get d l hi ha, if_neg (show ¬ j = (i - 1) / 2 by omega), if_neg (show ¬ ((i - 1) / 2 - 1) / 2 = (i - 1) / 2 by omega), if_neg (show ¬ ((i - 1) / 2 - 1) / 2 = i by omega)]
  have hg := h.1 ((i - 1) / 2) ha0 ha (by omega)
  by_cases e1 : j = i
  ·rw [if_pos e1]
   exact hg
  ·rw [if_neg e1]
   have := h.1 j hj0 hj e1
   rw [he] at this
   exact tr _ _ _ hg this
theorem down_start {l : List α} {k : Nat} (h : HeapL R d l) (hk : l.length = k + 1) : HpD R d ((swapL d l 0 k).take k) 0 := by
 have get : ∀ j, 0 < j → j < k → ((swapL d l 0 k).take k).getD j d = l.getD j d := fun j h0 hj => by
  have e : ((swapL d l 0 k).take k).getD j d = (swapL d l 0 k).getD j d := by
   rw [List.getD_eq_getElem?_getD, List.getD_eq_getElem?_getD, List.getElem?_take_of_lt hj]
  rw [e, swapL_get d l (by omega) (by omega), if_neg (show ¬ j = k by omega), if_neg (show ¬ j = 0 by omega)]
 constructor
 ·intro j h0 hj hne
  rw [List.length_take, swapL_len] at hj
  rw [get j h0 (by omega), get _ (by omega) (by omega)]
  exact h j h0 (by omega)
 ·intro j h0
  omega
theorem down_end {l : List α} {i : Nat} (h : HpD R d l i) (hc : ∀ j, j = 2 * i + 1 ∨ j = 2 * i + 2 → j < l.length → ¬ R (l.getD j d) (l.getD i d)) : HeapL R d l := fun j h0 hj => by
 by_cases e : (j - 1) / 2 = i
 ·rw [e]
  exact hc j (by omega) hj
 ·exact h.1 j h0 hj e
theorem down_step (asy : ∀ x y, R x y → ¬ R y x) {l : List α} {i c : Nat} (h : HpD R d l i) (hc : c = 2 * i + 1 ∨ c = 2 * i + 2) (hcl : c < l.length) (hr : R (l.getD c d) (l.getD i d)) (ho : ∀ j, j = 2 * i + 1 ∨ j = 2 * i + 2 → j < l.length → ¬ R (l.getD j d) (l.getD c d)) : HpD R d (swapL d l i c) c := by
 have hi : i < l.length := by omega
 have hic : (c - 1) / 2 = i := by omega
 constructor
 ·intro j hj0 hj hne
  rw [swapL_len] at hj
  rw [swapL_get d l hi hcl, swapL_get d l hi hcl]
  rw [if_neg (show ¬ (j - 1) / 2 = c from hne)]
  by_cases e1 : j = c
  ·subst e1
   rw [if_pos rfl, if_pos hic]
   exact asy _ _ hr
  ·rw [if_neg e1]
   by_cases e2 : j = i
   ·subst e2
    rw [if_pos rfl, if_neg (show ¬ (j - 1) / 2 = j by omega)]
    exact h.2 c (by omega) (by omega) hcl hic
   ·rw [if_neg e2]
    by_cases e3 : (j - 1) / 2 = i
    ·rw [if_pos e3]
     exact ho j (by omega) hj
    ·rw [if_neg e3]
     exact h.1 j hj0 hj e3
 ·intro j _ hj0 hj he
  rw [swapL_len] at hj
  rw [swapL_get d l hi hcl, swapL_get d l hi hcl, if_neg (show ¬ j = c by omega), if_neg (show ¬ j = i by omega), hic, if_neg (show ¬ i = c by omega), if_pos rfl]
  have := h.1 j hj0 hj (by omega)
  rw [he] at this
  exact this
theorem heap_min (tr : ∀ x y z, ¬ R y x → ¬ R z y → ¬ R z x) (irr : ∀ x, ¬ R x x) {l : List α} (h : HeapL R d l) : ∀ (j : Nat), j < l.length → ¬ R (l.getD j d) (l.getD 0 d) := by
 intro j
 induction j using Nat.strongRecOn with
 | _ j ih =>
  intro hj
  rcases Nat.eq_zero_or_pos j with rfl | h0
  ·exact irr _
  ·exact tr _ _ _ (ih ((j - 1) / 2) (by omega) (by omega)) (h j h0 hj)
theorem mem_getD {l : List α} {x : α} : x ∈ l ↔ ∃ j, j < l.length ∧ l.getD j d = x := by
 constructor
 ·intro h
  obtain ⟨j, hj, rfl⟩ := List.getElem_of_mem h
  exact ⟨j, hj, by rw [List.getD_eq_getElem?_getD, List.getElem?_eq_getElem hj]; rfl⟩
 ·rintro ⟨j, hj, rfl⟩
  rw [List.getD_eq_getElem?_getD, List.getElem?_eq_getElem hj]
  exact List.getElem_mem hj
def SameL (R : α → α → Prop) (d : α) (l k : List α) : Prop := k.length = l.length ∧ (∀ x, x ∈ k ↔ x ∈ l) ∧ ((∀ i j, i < l.length → j < l.length → i ≠ j → R (l.getD i d) (l.getD j d)) → ∀ i j, i < k.length → j < k.length → i ≠ j → R (k.getD i d) (k.getD j d))
theorem SameL.refl (R : α → α → Prop) (l : List α) : SameL R d l l := ⟨rfl, fun _ => Iff.rfl, fun h => h⟩
theorem SameL.trans {R : α → α → Prop} {l k m : List α} (h : SameL R d l k) (g : SameL R d k m) : SameL R d l m := ⟨g.1.trans h.1, fun x => (g.2.1 x).trans (h.2.1 x), fun q => g.2.2 (h.2.2 q)⟩
theorem same_swap (R : α → α → Prop) {l : List α} {i k : Nat} (hi : i < l.length) (hk : k < l.length) : SameL R d l (swapL d l i k) := by
 refine ⟨swapL_len d l i k, fun x => ?_, fun h a b ha hb hab => ?_⟩
 ·rw [mem_getD (d := d), mem_getD (d := d), swapL_len]
  constructor
  ·rintro ⟨j, hj, rfl⟩
   rw [swapL_get d l hi hk]
   split
   ·exact ⟨i, hi, rfl⟩
   ·split
    ·exact ⟨k, hk, rfl⟩
    ·exact ⟨j, hj, rfl⟩
  ·rintro ⟨j, hj, rfl⟩
   by_cases e1 : j = i
   ·subst e1
    exact ⟨k, hk, by rw [swapL_get d l hi hk, if_pos rfl]⟩
   ·by_cases e2 : j = k
    ·subst e2
     exact ⟨i, hi, by rw [swapL_get d l hi hk, if_neg (fun h => e1 h.symm), if_pos rfl]⟩
    ·exact ⟨j, hj, by rw [swapL_get d l hi hk, if_neg e2, if_neg e1]⟩
 ·rw [swapL_len] at ha hb
  rw [swapL_get d l hi hk, swapL_get d l hi hk]
  split <;> split <;> (try split) <;> (try split) <;> first | (apply h <;> omega) | omega
end

structure Wh where
 axle : Int
 back : Int
 ms : List Mrk
def noWh : Wh := ⟨0, 0, []⟩
def noMk : Mrk := ⟨0, 0, 0⟩
def Wh.next (w : Wh) : Int := (w.ms.headD noMk).far + w.back
def bef (w v : Wh) : Prop := w.next < v.next ∨ (w.next = v.next ∧ w.axle < v.axle)
theorem bef_asymm (x y : Wh) (h : bef x y) : ¬ bef y x := fun g => by unfold bef at h g; omega
theorem bef_irr (x : Wh) : ¬ bef x x := fun g => by unfold bef at g; omega
theorem bef_trans (x y z : Wh) (h : ¬ bef y x) (g : ¬ bef z y) : ¬ bef z x := fun q => by unfold bef at h g q; omega
def tagM (w : Wh) (m : Mrk) : Tg := ⟨m.far + w.back, w.axle.toNat, m.post, m.way⟩
def remW (w : Wh) : List Tg := w.ms.map (tagM w)
structure WhOk (w : Wh) : Prop where
 some : w.ms ≠ []
 sorted : w.ms.Pairwise Mlt
 axle : 0 ≤ w.axle
def OtherAx (w v : Wh) : Prop := w.axle ≠ v.axle
structure Merge (T : Tg → Prop) (l : List Wh) (L : List Tg) : Prop where
 ok : ∀ w ∈ l, WhOk w
 two : ∀ i j, i < l.length → j < l.length → i ≠ j → OtherAx (l.getD i noWh) (l.getD j noWh)
 sorted : L.Pairwise Tlt
 later : ∀ t ∈ L, ∀ w ∈ l, ∀ r ∈ remW w, Tlt t r
 all : ∀ t, T t ↔ t ∈ L ∨ ∃ w ∈ l, t ∈ remW w
def grpW (w : Wh) : List Mrk := w.ms.takeWhile fun m => m.far == (w.ms.headD noMk).far
def rstW (w : Wh) : List Mrk := w.ms.dropWhile fun m => m.far == (w.ms.headD noMk).far
theorem rst_far {w : Wh} (h : WhOk w) : ∀ m ∈ rstW w, (w.ms.headD noMk).far < m.far := by
 obtain ⟨ax, bk, ms⟩ := w
 have hs := h.sorted
 unfold rstW
 dsimp only at hs ⊢
 cases ms with
 | nil => intro m hm; simp at hm
 | cons x r =>
  simp only [List.headD_cons]
  have key : ∀ l : List Mrk, (∀ y ∈ l, x.far ≤ y.far) → l.Pairwise Mlt → ∀ m ∈ l.dropWhile (fun m => m.far == x.far), x.far < m.far := by
   intro l
   induction l with
   | nil => intro _ _ m hm; simp at hm
   | cons y q ih =>
    intro hl hp m hm
    rw [List.dropWhile_cons] at hm
    by_cases e : y.far = x.far
    ·rw [if_pos (by simpa using e)] at hm
     exact ih (fun z hz => hl z (List.mem_cons_of_mem _ hz)) (List.pairwise_cons.1 hp).2 m hm
    ·rw [if_neg (by simpa using e)] at hm
     have h1 := hl y List.mem_cons_self
     rcases List.mem_cons.1 hm with rfl | hm
     ·omega
     ·have := (List.pairwise_cons.1 hp).1 m hm
      unfold Mlt at this
      omega
  refine key (x :: r) (fun y hy => ?_) hs
  rcases List.mem_cons.1 hy with rfl | hy
  ·exact Int.le_refl _
  ·have := (List.pairwise_cons.1 hs).1 y hy
   unfold Mlt at this
   omega
theorem grp_far {w : Wh} : ∀ m ∈ grpW w, m.far = (w.ms.headD noMk).far := by
 have key : ∀ (f : Int) (l : List Mrk), ∀ m ∈ l.takeWhile (fun m => m.far == f), m.far = f := by
  intro f l
  induction l with
  | nil => intro m hm; simp at hm
  | cons x r ih =>
   intro m hm
   rw [List.takeWhile_cons] at hm
   by_cases e : x.far = f
   ·rw [if_pos (by simpa using e)] at hm
    rcases List.mem_cons.1 hm with rfl | hm
    ·exact e
    ·exact ih m hm
   ·rw [if_neg (by simpa using e)] at hm
    cases hm
 exact fun m hm => key _ _ m hm
theorem grp_rst (w : Wh) : grpW w ++ rstW w = w.ms := List.takeWhile_append_dropWhile
theorem Merge.turn {T : Tg → Prop} {l k : List Wh} {L : List Tg} (h : Merge T l L) {w : Wh} (hw : w ∈ l) (hmin : ∀ v ∈ l, ¬ bef v w) (hmem : ∀ v, v ∈ l ↔ v = w ∨ v ∈ k) (hk2 : ∀ i j, i < k.length → j < k.length → i ≠ j → OtherAx (k.getD i noWh) (k.getD j noWh)) (hkw : ∀ v ∈ k, OtherAx v w) :
  (rstW w = [] → Merge T k (L ++ (grpW w).map (tagM w))) ∧ (rstW w ≠ [] → ∀ k', (∀ v, v ∈ k' ↔ v ∈ k ∨ v = ⟨w.axle, w.back, rstW w⟩) → (∀ i j, i < k'.length → j < k'.length → i ≠ j → OtherAx (k'.getD i noWh) (k'.getD j noWh)) → Merge T k' (L ++ (grpW w).map (tagM w))) := by
 have hok := h.ok w hw
 have hsrt := hok.sorted
 rw [← grp_rst w] at hsrt
 obtain ⟨s1, s2, s3⟩ := List.pairwise_append.1 hsrt
 have hL : (L ++ (grpW w).map (tagM w)).Pairwise Tlt := by
  refine List.pairwise_append.2 ⟨h.sorted, ?_, fun t ht r hr => ?_⟩
  ·rw [List.pairwise_map]
   refine (List.Pairwise.and_mem.1 s1).imp fun {x y} ⟨hx, hy, hxy⟩ => ?_
   have e1 := grp_far x hx
   have e2 := grp_far y hy
   unfold Mlt at hxy
   unfold Tlt tagM
   dsimp only
   omega
  ·refine h.later t ht w hw r ?_
   unfold remW
   rw [← grp_rst w, List.map_append]
   exact List.mem_append_left _ hr
 have hgl : ∀ t ∈ (grpW w).map (tagM w), ∀ v ∈ k, ∀ r ∈ remW v, Tlt t r := fun t ht v hv r hr => by
  obtain ⟨m, hm, rfl⟩ := List.mem_map.1 ht
  obtain ⟨q, hq, rfl⟩ := List.mem_map.1 hr
  have hvl := (hmem v).2 (Or.inr hv)
  have hvo := h.ok v hvl
  have e1 := grp_far m hm
  have hnb := hmin v hvl
  have hax := hkw v hv
  have hva := hvo.axle
  have hwa := hok.axle
  have hqf : (v.ms.headD noMk).far ≤ q.far := by
   have hvs := hvo.sorted
   cases hvm : v.ms with
   | nil => exact absurd hvm hvo.some
   | cons y r' =>
    rw [hvm] at hq hvs
    simp only [List.headD_cons]
    rcases List.mem_cons.1 hq with rfl | hq
    ·exact Int.le_refl _
    ·have := (List.pairwise_cons.1 hvs).1 q hq
     unfold Mlt at this
     omega
  unfold bef Wh.next at hnb
  unfold OtherAx at hax
  unfold Tlt tagM
  dsimp only
  omega
 have hgr : ∀ t ∈ (grpW w).map (tagM w), ∀ r ∈ (rstW w).map (tagM w), Tlt t r := fun t ht r hr => by
  obtain ⟨m, hm, rfl⟩ := List.mem_map.1 ht
  obtain ⟨q, hq, rfl⟩ := List.mem_map.1 hr
  have e1 := grp_far m hm
  have e2 := rst_far hok q hq
  unfold Tlt tagM
  dsimp only
  omega
 have hrem : remW w = (grpW w).map (tagM w) ++ (rstW w).map (tagM w) := by
  unfold remW
  rw [← List.map_append, grp_rst]
 constructor
 ·intro hr
  refine ⟨fun v hv => h.ok v ((hmem v).2 (Or.inr hv)), hk2, hL, fun t ht v hv r hr' => ?_, fun t => ?_⟩
  ·rcases List.mem_append.1 ht with ht | ht
   ·exact h.later t ht v ((hmem v).2 (Or.inr hv)) r hr'
   ·exact hgl t ht v hv r hr'
  ·rw [h.all t, List.mem_append]
   constructor
   ·rintro (ht | ⟨v, hv, hr'⟩)
    ·exact Or.inl (Or.inl ht)
    ·rcases (hmem v).1 hv with rfl | hv
     ·rw [hrem, hr] at hr'
      exact Or.inl (Or.inr (by simpa using hr'))
     ·exact Or.inr ⟨v, hv, hr'⟩
   ·rintro ((ht | ht) | ⟨v, hv, hr'⟩)
    ·exact Or.inl ht
    ·exact Or.inr ⟨w, hw, by rw [hrem]; exact List.mem_append_left _ ht⟩
    ·exact Or.inr ⟨v, (hmem v).2 (Or.inr hv), hr'⟩
 ·intro hr k' hk' hk2'
  have hrw : remW ⟨w.axle, w.back, rstW w⟩ = (rstW w).map (tagM w) := rfl
  refine ⟨fun v hv => ?_, hk2', hL, fun t ht v hv r hr' => ?_, fun t => ?_⟩
  ·rcases (hk' v).1 hv with hv | rfl
   ·exact h.ok v ((hmem v).2 (Or.inr hv))
   ·exact ⟨hr, s2, hok.axle⟩
  ·rcases (hk' v).1 hv with hv | rfl
   ·rcases List.mem_append.1 ht with ht | ht
    ·exact h.later t ht v ((hmem v).2 (Or.inr hv)) r hr'
    ·exact hgl t ht v hv r hr'
   ·rw [hrw] at hr'
    rcases List.mem_append.1 ht with ht | ht
    ·exact h.later t ht w hw r (by rw [hrem]; exact List.mem_append_right _ hr')
    ·exact hgr t ht r hr'
  ·rw [h.all t, List.mem_append]
   constructor
   ·rintro (ht | ⟨v, hv, hr'⟩)
    ·exact Or.inl (Or.inl ht)
    ·rcases (hmem v).1 hv with rfl | hv
     ·rw [hrem] at hr'
      rcases List.mem_append.1 hr' with hr' | hr'
      ·exact Or.inl (Or.inr hr')
      ·exact Or.inr ⟨_, (hk' _).2 (Or.inr rfl), by rw [hrw]; exact hr'⟩
     ·exact Or.inr ⟨v, (hk' v).2 (Or.inl hv), hr'⟩
   ·rintro ((ht | ht) | ⟨v, hv, hr'⟩)
    ·exact Or.inl ht
    ·exact Or.inr ⟨w, hw, by rw [hrem]; exact List.mem_append_left _ ht⟩
    ·rcases (hk' v).1 hv with hv | rfl
     ·exact Or.inr ⟨v, (hmem v).2 (Or.inr hv), hr'⟩
     ·rw [hrw] at hr'
      exact Or.inr ⟨w, hw, by rw [hrem]; exact List.mem_append_right _ hr'⟩

end Go.Proofs.YtjacbppeebnjfaaGreat

set_option linter.unusedSimpArgs false
namespace Go.Proofs.YtjacbppeebnjfaaGreat
open Go.RowKit

def TgOf (ax : List Int) (M : List Mrk) (F : Int) (t : Tg) : Prop := 1 ≤ t.k ∧ t.k ≤ F ∧ ∃ a, ax[t.i]? = some a ∧ (⟨t.k - a, t.post, t.way⟩ : Mrk) ∈ M
theorem mlt_far {M : List Mrk} (h : M.Pairwise Mlt) (i j : Nat) (hi : i < M.length) (hj : j < M.length) (hij : i ≤ j) : M[i].far ≤ M[j].far := by
 rcases Nat.eq_or_lt_of_le hij with e | e
 ·subst e; exact Int.le_refl _
 ·have := List.pairwise_iff_getElem.1 h i j hi hj e
  unfold Mlt at this
  omega
theorem cut_mem {M : List Mrk} {lo hi : Int} {f1 f2 : Nat} (h1 : f1 ≤ M.length) (h2 : f2 ≤ M.length) (a1 : ∀ j (hj : j < M.length), j < f1 → M[j].far < lo) (b1 : ∀ j (hj : j < M.length), f1 ≤ j → lo ≤ M[j].far) (a2 : ∀ j (hj : j < M.length), j < f2 → M[j].far < hi) (b2 : ∀ j (hj : j < M.length), f2 ≤ j → hi ≤ M[j].far) (m : Mrk) :
  m ∈ (M.drop f1).take (f2 - f1) ↔ m ∈ M ∧ lo ≤ m.far ∧ m.far < hi := by
 constructor
 ·intro hm
  obtain ⟨j, hj, rfl⟩ := List.getElem_of_mem hm
  rw [List.length_take, List.length_drop] at hj
  rw [List.getElem_take, List.getElem_drop]
  exact ⟨List.getElem_mem _, b1 _ (by omega) (by omega), a2 _ (by omega) (by omega)⟩
 ·rintro ⟨hm, hl, hh⟩
  obtain ⟨j, hj, rfl⟩ := List.getElem_of_mem hm
  have q1 : f1 ≤ j := by
   rcases Nat.lt_or_ge j f1 with e | e
   ·have := a1 j hj e; omega
   ·exact e
  have q2 : j < f2 := by
   rcases Nat.lt_or_ge j f2 with e | e
   ·exact e
   ·have := b2 j hj e; omega
  refine List.mem_iff_getElem.2 ⟨j - f1, by rw [List.length_take, List.length_drop]; omega, ?_⟩
  rw [List.getElem_take, List.getElem_drop]
  congr 1
  omega
theorem take_sorted {M : List Mrk} (h : M.Pairwise Mlt) (a b : Nat) : ((M.drop a).take b).Pairwise Mlt := (h.sublist (List.drop_sublist _ _)).sublist (List.take_sublist _ _)
theorem incr_len : ∀ (l : List Nat) (a N : Nat), l.Pairwise (· < ·) → (∀ x ∈ l, a ≤ x ∧ x < N) → l.length ≤ N - a
 | [], a, N, _, _ => by simp
 | x :: r, a, N, hp, hb => by
  obtain ⟨h1, h2⟩ := List.pairwise_cons.1 hp
  have hx := hb x List.mem_cons_self
  have := incr_len r (x + 1) N h2 (fun y hy => ⟨h1 y hy, (hb y (List.mem_cons_of_mem _ hy)).2⟩)
  simp only [List.length_cons]
  omega
def codeT (t : Tg) : Nat := (t.k.toNat * 1000 + t.i) * 1000 + t.post.toNat
theorem tg_len {ax : List Int} {M : List Mrk} {F : Int} (hF : 0 ≤ F ∧ F ≤ 10000) (hax : ax.length ≤ 60) (hM : ∀ m ∈ M, 0 ≤ m.post ∧ m.post < 1000) {L : List Tg} (hL : L.Pairwise Tlt) (hT : ∀ t ∈ L, TgOf ax M F t) : L.length ≤ 10001000000 := by
 have hb : ∀ t ∈ L, (1 ≤ t.k ∧ t.k ≤ 10000) ∧ t.i < 1000 ∧ (0 ≤ t.post ∧ t.post < 1000) := fun t ht => by
  obtain ⟨h1, h2, a, h3, h4⟩ := hT t ht
  have h5 := (List.getElem?_eq_some_iff.1 h3).1
  have h6 := hM _ h4
  exact ⟨⟨h1, by omega⟩, by omega, h6⟩
 have := incr_len (L.map codeT) 0 10001000000 (by
  rw [List.pairwise_map]
  refine (List.Pairwise.and_mem.1 hL).imp fun {x y} ⟨hx, hy, hxy⟩ => ?_
  have h1 := hb x hx
  have h2 := hb y hy
  unfold Tlt at hxy
  unfold codeT
  omega) (fun x hx => by
  obtain ⟨t, ht, rfl⟩ := List.mem_map.1 hx
  have h1 := hb t ht
  unfold codeT
  omega)
 simpa using this
theorem Merge.same {T : Tg → Prop} {l k : List Wh} {L : List Tg} (h : Merge T l L) (hm : ∀ v, v ∈ k ↔ v ∈ l) (h2 : ∀ i j, i < k.length → j < k.length → i ≠ j → OtherAx (k.getD i noWh) (k.getD j noWh)) : Merge T k L :=
 ⟨fun w hw => h.ok w ((hm w).1 hw), h2, h.sorted, fun t ht w hw => h.later t ht w ((hm w).1 hw), fun t => by
  rw [h.all t]
  constructor
  ·rintro (e | ⟨w, hw, e⟩)
   ·exact Or.inl e
   ·exact Or.inr ⟨w, (hm w).2 hw, e⟩
  ·rintro (e | ⟨w, hw, e⟩)
   ·exact Or.inl e
   ·exact Or.inr ⟨w, (hm w).1 hw, e⟩⟩
theorem getD_map {α β : Type} (f : α → β) (l : List α) (d : α) (i : Nat) : (l.map f).getD i (f d) = f (l.getD i d) := by
 rw [List.getD_eq_getElem?_getD, List.getD_eq_getElem?_getD, List.getElem?_map]
 cases l[i]? <;> rfl
theorem tg_un (x : Wh) : (grpW x).map (fun m => (x.next, m.post, m.way)) = ((grpW x).map (tagM x)).map Tg.un := by
 rw [List.map_map]
 refine List.map_congr_left fun m hm => ?_
 have := grp_far m hm
 unfold Wh.next
 show _ = ((m.far + x.back), m.post, m.way)
 rw [this]

end Go.Proofs.YtjacbppeebnjfaaGreat

set_option linter.unusedSimpArgs false
namespace Go.Proofs.YtjacbppeebnjfaaGreat
open Go.RowKit

def WayIs (n : Nt) (zs : List Int) (t : Tr) (F : Int) (us : List (St × Int)) : Prop :=
 (SitsAll n zs t.front t.back ∧ ∃ c s xs, UC n zs t.long t.front t.back c us s xs ∧ (us.length : Int) ≤ F ∧ (Stuck n zs s xs ∨ (us.length : Int) = F)) ∨ (¬ SitsAll n zs t.front t.back ∧ us = [])
theorem WayIs.unique {n : Nt} (hG : NetGood n) {zs : List Int} {t : Tr} {F : Int} (hs : SpotOk n t.front) (hx : ∀ x ∈ t.back, StepOk n x) {us us' : List (St × Int)} (h : WayIs n zs t F us) (g : WayIs n zs t F us') : us = us' := by
 rcases h with ⟨h0, c, s, xs, h1, h2, h3⟩ | ⟨h0, h1⟩
 ·rcases g with ⟨g0, c', s', xs', g1, g2, g3⟩ | ⟨g0, g1⟩
  ·exact UC.meet hG hs hx (F := F.toNat) h1 g1 (by omega) (by omega) (h3.imp id fun e => by omega) (g3.imp id fun e => by omega)
  ·exact absurd h0 g0
 ·rcases g with ⟨g0, _⟩ | ⟨g0, g1⟩
  ·exact absurd g0 h0
  ·rw [h1, g1]
def PsGood (n : Nt) (zs : List Int) (t : Tr) (ax : List Int) (qs : List (Int × Int)) (F : Int) : Prop := (TrainRight n t ∧ LiesFit n.joints zs ∧ (0 ≤ F ∧ F ≤ 10000)) ∧ AxFit ax t.long ∧ PoFit n qs
def PsIs (n : Nt) (zs : List Int) (t : Tr) (ax : List Int) (qs : List (Int × Int)) (F : Int) (out : List (Int × Int × Int)) : Prop :=
 (PsGood n zs t ax qs F ∧ ∃ us, WayIs n zs t F us ∧ out = outS n qs ax (bu n t.front t.back) us) ∨ (¬ PsGood n zs t ax qs F ∧ out = [])
theorem PsIs.unique {n : Nt} {zs : List Int} {t : Tr} {ax : List Int} {qs : List (Int × Int)} {F : Int} {o o' : List (Int × Int × Int)} (h : PsIs n zs t ax qs F o) (g : PsIs n zs t ax qs F o') : o = o' := by
 rcases h with ⟨h0, us, h1, rfl⟩ | ⟨h0, rfl⟩
 ·rcases g with ⟨_, us', g1, rfl⟩ | ⟨g0, _⟩
  ·rw [h1.unique (netGood h0.1.1.1) h0.1.1.2.1 (backOk_steps h0.1.1.2.2.2.2) g1]
  ·exact absurd h0 g0
 ·rcases g with ⟨g0, _⟩ | ⟨_, rfl⟩
  ·exact absurd g0 h0
  ·rfl
theorem ur_body {n : Nt} (hG : NetGood n) (sp : Int) : ∀ (xs : List St) (along long : Int) (at_ : St), 0 ≤ along → 0 < long → (∀ x ∈ xs, StepOk n x) → (∀ j, j < xs.length → along + sumLen n (xs.take j) < long) → long ≤ along + sumLen n xs → sp = along + sumLen n xs - long →
  (stretchL n sp along at_ xs).flatMap unR = (down at_ along.toNat ++ fl n xs).take long.toNat ∧ lenS (stretchL n sp along at_ xs) = long ∧ ∀ x ∈ stretchL n sp along at_ xs, LowHigh x
 | [], along, long, at_, h0, hl, _, _, he, hsp => by
  rw [sumLen_nil] at he hsp
  refine ⟨?_, ?_, fun x hx => ?_⟩
  ·simp only [stretchL, List.flatMap_cons, List.flatMap_nil, List.append_nil, fl]
   unfold unR
   dsimp only
   rw [show along - sp = long by omega]
  ·simp only [stretchL, lenS]
   omega
  ·simp only [stretchL, List.mem_singleton] at hx
   subst hx
   exact ⟨by dsimp only; omega, by dsimp only; omega⟩
 | y :: r, along, long, at_, h0, hl, hx, ht, he, hsp => by
  have h1 := ht 0 (by simp)
  simp only [List.take_zero, sumLen_nil] at h1
  have hy := hx y List.mem_cons_self
  have hyl := hG.len hy.1.1 hy.1.2
  rw [sumLen_cons] at he hsp
  obtain ⟨i1, i2, i3⟩ := ur_body hG sp r (lenOf n y.piece) (long - along) y (by omega) (by omega) (fun x h => hx x (List.mem_cons_of_mem _ h)) (fun j hj => by
   have := ht (j + 1) (by simp; omega)
   rw [List.take_succ_cons, sumLen_cons] at this
   omega) (by omega) (by omega)
  refine ⟨?_, ?_, fun x h => ?_⟩
  ·simp only [stretchL, List.flatMap_cons]
   rw [i1]
   have e1 : unR ⟨at_, 0, along⟩ = down at_ along.toNat := by
    unfold unR
    dsimp only
    rw [show along - 0 = along by omega, List.take_of_length_le (by rw [down_len]; omega)]
   have e2 : (down at_ along.toNat ++ fl n (y :: r)).take long.toNat = down at_ along.toNat ++ (fl n (y :: r)).take (long - along).toNat := by
    rw [List.take_append, down_len, List.take_of_length_le (by rw [down_len]; omega), show (long - along).toNat = long.toNat - along.toNat by omega]
   rw [e1, e2, fl_cons]
  ·simp only [stretchL, lenS]
   omega
  ·simp only [stretchL, List.mem_cons] at h
   rcases h with rfl | h
   ·exact ⟨by dsimp only; omega, by dsimp only; omega⟩
   ·exact i3 x h
theorem outS_take {n : Nt} {qs : List (Int × Int)} {ax : List Int} {B0 : List (St × Int)} {long : Nat} (hax : ∀ a ∈ ax, 0 ≤ a ∧ a ≤ (long : Int)) (us : List (St × Int)) : outS n qs ax (B0.take long) us = outS n qs ax B0 us := by
 induction us with
 | nil => rfl
 | cons u us ih =>
  simp only [outS]
  rw [ih]
  congr 1
  have : ∀ a ∈ ax, hitsAt n qs ((us.length : Int) + 1) ((u :: us ++ B0.take long)[a.toNat]?) = hitsAt n qs ((us.length : Int) + 1) ((u :: us ++ B0)[a.toNat]?) := fun a ha => by
   congr 1
   have h2 := hax a ha
   by_cases hl : a.toNat < (u :: us).length
   ·rw [List.getElem?_append_left hl, List.getElem?_append_left hl]
   ·rw [List.getElem?_append_right (by omega), List.getElem?_append_right (by omega)]
    rw [List.getElem?_take_of_lt (by simp at hl ⊢; omega)]
  rw [List.flatMap_def, List.flatMap_def, List.map_congr_left this]
theorem lenS_rev (l : List Sx) : lenS l.reverse = lenS l := by
 induction l with
 | nil => rfl
 | cons x r ih =>
  rw [List.reverse_cons, lenS_app, ih]
  simp only [lenS]
  omega
theorem impl_out {n : Nt} (hG : NetGood n) {s : Sp} {xs : List St} {long : Int} (hs : SpotOk n s) (hl : 0 < long) (hx : ∀ x ∈ xs, StepOk n x) (ht : ∀ j, j < xs.length → behind n s + sumLen n (xs.take j) < long) (he : long ≤ behind n s + sumLen n xs) {sx : List Sx} (hsx : ∀ x ∈ sx, LowHigh x) {qs : List (Int × Int)} {ax : List Int} (hax : ∀ a ∈ ax, 0 ≤ a ∧ a ≤ long) {M : List Mrk}
  (hM : M.Perm (marksI n qs (-long) ((stretchL n (spareOf n long s xs) (behind n s) ⟨s.piece, s.way⟩ xs).reverse ++ sx))) {L : List Tg} (hL : L.Pairwise Tlt) (hm : ∀ t, t ∈ L ↔ TgOf ax M (lenS sx) t) : L.map Tg.un = outS n qs ax (bu n s xs) (ur sx) := by
 obtain ⟨b1, b2, b3⟩ := ur_body hG (spareOf n long s xs) xs (behind n s) long ⟨s.piece, s.way⟩ (behind_nonneg hs) hl hx ht he rfl
 have hP : ∀ x ∈ (stretchL n (spareOf n long s xs) (behind n s) ⟨s.piece, s.way⟩ xs).reverse ++ sx, LowHigh x := fun x h => by
  rcases List.mem_append.1 h with h | h
  ·exact b3 x (List.mem_reverse.1 h)
  ·exact hsx x h
 have hmem := mem_marks (n := n) (qs := qs) _ (-long) [] [] hP (fun m => ⟨fun h => by simp at h, fun ⟨u, p, _, h2, _⟩ => by simp at h2⟩)
 have e1 : ur ((stretchL n (spareOf n long s xs) (behind n s) ⟨s.piece, s.way⟩ xs).reverse ++ sx) = ur sx ++ (bu n s xs).take long.toNat := by
  unfold ur
  rw [List.reverse_append, List.flatMap_append, List.reverse_reverse, b1, bu_eq]
 have e2 : lenS (stretchL n (spareOf n long s xs) (behind n s) ⟨s.piece, s.way⟩ xs).reverse = long := by rw [lenS_rev, b2]
 have e3 := ur_len hsx
 rw [e1, lenS_app, e2] at hmem
 rw [← outS_take (long := long.toNat) (fun a ha => by have := hax a ha; omega)]
 refine passes_are (fun a ha => (hax a ha).1) hL fun t => ?_
 rw [hm t]
 unfold TgOf
 rw [e3]
 constructor
 ·rintro ⟨h1, h2, a, h3, h4⟩
  have := (hmem _).1 (by rw [List.nil_append]; exact hM.mem_iff.1 h4)
  rw [List.append_nil, show -long + (long + lenS sx) = lenS sx by omega] at this
  exact ⟨h1, h2, a, h3, this⟩
 ·rintro ⟨h1, h2, a, h3, h4⟩
  have := (hmem ⟨t.k - a, t.post, t.way⟩).2 (by rw [List.append_nil, show -long + (long + lenS sx) = lenS sx by omega]; exact h4)
  rw [List.nil_append] at this
  exact ⟨h1, h2, a, h3, hM.mem_iff.2 this⟩
end Go.Proofs.YtjacbppeebnjfaaGreat

