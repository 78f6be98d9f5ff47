import Derived.Test.YtcggkfpkkhjdhaaGreatMEq
import Derived.Test.YtcggkfpkkhjdhaaGreatMPlain2
import Derived.Test.YtcggkfpkkhjdhaaGreatMPs2
namespace Go.Proofs.YtcggkfpkkhjdhaaGreat
open Go.RowKit

set_option maxHeartbeats 400000 in
theorem toIntS_own (a : Option Addr) (zs : List Int) (cap : Nat) (w : World) (hl : zs.length ≤ 1048576) {L : Nat} (hp : IntsAt L w a zs) :
    Calls Tryz.prog 9 #[.slice a zs.length cap] w fun e w' =>
      ∃ b f, e = .returned (.slice (some ⟨b, 0, none⟩) zs.length zs.length) ∧ IntsAt w.heap.size w' (some ⟨b, 0, none⟩) zs ∧ OwnL w' (some ⟨b, 0, none⟩) zs.length f ∧ (w.heap.size ≤ b ∧ b < w'.heap.size) ∧ Below w.heap.size w w' := by
  have hmk := run_make_rows (P := Tryz.prog) 26 3 _ 1 8 (by kernel_rfl) info_Int zs.length (by omega) hl
  go_enter Tryz.func9, Tryz.ntmps9
  go_wp2
  go_loopw [4] (fun i wr => ∃ (k : Nat) (f : Nat → Value), k ≤ zs.length ∧ i = .int .i64 k ∧ wr.rowIs w.heap.size 3 (zs.length * 1) f ∧ (∀ i (h : i < zs.length), i < k → f i = .int .i64 zs[i]) ∧ Below w.heap.size w wr) (fun i _ => zs.length - (intOf i).toNat)
  case atStart => exact ⟨0, _, Nat.zero_le _, rfl, by simpa using row_made _ _ (zs.length * 1) _, fun i h h' => by omega, (Below.refl _ _).alloc (Nat.le_refl _) _⟩
  case round =>
    obtain ⟨k, f, hk, rfl, hrow, hf, hb⟩ := hrel
    clear hmk
    by_cases hlt : k < zs.length
    · obtain ⟨b, off, rfl, hbs, c0⟩ := hp.below hb k hlt
      have z0 := hrow.frozen k
      have y0 := hrow.cell (i := k) (by omega)
      have HR := hide hrow
      clear hrow
      go_wp2
      go_roundw
      case rel =>
        refine ⟨k + 1, _, by omega, by go_num, (unhide HR).set _ _, ?_, Below.setCell hb (by simp) _⟩
        intro i h h'
        by_cases e : i = k
        · subst e
          simp
        · rw [if_neg (by omega)]
          exact hf i h (by omega)
      case measure => simp [intOf]; omega
    · obtain rfl : k = zs.length := by omega
      go_wp2
      go_ret
      refine ⟨_, f, rfl, fun i h => ?_, fun _ => ⟨_, 0, rfl, ?_⟩, ⟨Nat.le_refl _, hrow.lt⟩, hb⟩
      · exact ⟨_, 0, rfl, ⟨Nat.le_refl _, hrow.lt⟩, by rw [← hf i h h, hrow.cell (by omega)]; simp⟩
      · have := own_row hrow
        rwa [Nat.mul_one] at this
end Go.Proofs.YtcggkfpkkhjdhaaGreat

set_option linter.unusedSimpArgs false
namespace Go.Proofs.YtcggkfpkkhjdhaaGreat
open Go.RowKit

/-! ### Marks -/

theorem sorted_unique {α : Type} {R : α → α → Prop} (asy : ∀ x y, R x y → ¬ R y x) : ∀ (l k : List α), l.Pairwise R → k.Pairwise R → (∀ x, x ∈ l ↔ x ∈ k) → l = k
  | [], [], _, _, _ => rfl
  | [], y :: k, _, _, h => by have := (h y).2 List.mem_cons_self; cases this
  | x :: l, [], _, _, h => by have := (h x).1 List.mem_cons_self; cases this
  | x :: l, y :: k, hl, hk, h => by
    have irr : ∀ z, ¬ R z z := fun z hz => asy z z hz hz
    obtain ⟨hl1, hl2⟩ := List.pairwise_cons.1 hl
    obtain ⟨hk1, hk2⟩ := List.pairwise_cons.1 hk
    have e : x = y := by
      rcases List.mem_cons.1 ((h x).1 List.mem_cons_self) with e | hx
      · exact e
      · rcases List.mem_cons.1 ((h y).2 List.mem_cons_self) with e | hy
        · exact e.symm
        · exact absurd (hk1 x hx) (asy _ _ (hl1 y hy))
    subst e
    rw [sorted_unique asy l k hl2 hk2 fun z => ?_]
    constructor
    · intro hz
      rcases List.mem_cons.1 ((h z).1 (List.mem_cons_of_mem _ hz)) with e | hz'
      · exact absurd (hl1 z hz) (by rw [e]; exact irr x)
      · exact hz'
    · intro hz
      rcases List.mem_cons.1 ((h z).2 (List.mem_cons_of_mem _ hz)) with e | hz'
      · exact absurd (hk1 z hz) (by rw [e]; exact irr x)
      · exact hz'
structure Mrk where
  far : Int
  post : Int
  way : Int
def Mlt (x y : Mrk) : Prop := x.far < y.far ∨ (x.far = y.far ∧ x.post < y.post)
theorem Mlt.asymm (x y : Mrk) (h : Mlt x y) : ¬ Mlt y x := fun g => by unfold Mlt at h g; omega
/-- The marks of one stretch. -/
def mkX (n : Nt) (qs : List (Int × Int)) (d : Int) (x : Sx) : List Mrk :=
  qs.zipIdx.filterMap fun (p, i) => if p.1 = x.step.piece ∧ x.low < beh n p x.step.way ∧ beh n p x.step.way ≤ x.high then some ⟨d + beh n p x.step.way - x.low, (i : Int), x.step.way⟩ else none
def marksI (n : Nt) (qs : List (Int × Int)) : Int → List Sx → List Mrk
  | _, [] => []
  | d, x :: r => mkX n qs d x ++ marksI n qs (d + (x.high - x.low)) r
theorem marksI_app (n : Nt) (qs : List (Int × Int)) (l k : List Sx) (d : Int) : marksI n qs d (l ++ k) = marksI n qs d l ++ marksI n qs (d + lenS l) k := by
  induction l generalizing d with
  | nil => simp [marksI, lenS]
  | cons x r ih =>
    simp only [List.cons_append, marksI, ih, List.append_assoc, lenS]
    rw [show d + (x.high - x.low) + lenS r = d + (x.high - x.low + lenS r) by omega]
/-- A mark, by the place that it stands at: the places newest first, the newest so far. -/
def Hit (n : Nt) (qs : List (Int × Int)) (W : List (St × Int)) (F : Int) (m : Mrk) : Prop :=
  ∃ u p, m.far ≤ F ∧ W[(F - m.far).toNat]? = some u ∧ 0 ≤ m.post ∧ qs[m.post.toNat]? = some p ∧ AtU n p u ∧ m.way = u.1.way
def LowHigh (x : Sx) : Prop := 0 ≤ x.low ∧ x.low ≤ x.high
theorem unR_len {x : Sx} (h : LowHigh x) : ((unR x).length : Int) = x.high - x.low := by
  have := h.1
  have := h.2
  unfold unR
  rw [List.length_take, down_len]
  omega
theorem unR_get {x : Sx} (h : LowHigh x) (j : Nat) (hj : (j : Int) < x.high - x.low) : (unR x)[j]? = some (x.step, x.high - j) := by
  have := h.1
  unfold unR
  rw [List.getElem?_take_of_lt (by omega), down_get _ _ _ (by omega)]
  congr 2
  omega
theorem ur_len {l : List Sx} (h : ∀ x ∈ l, LowHigh x) : ((ur l).length : Int) = lenS l := by
  induction l with
  | nil => simp [ur, lenS]
  | cons x r ih =>
    have h1 := unR_len (h x List.mem_cons_self)
    have h2 := ih fun y hy => h y (List.mem_cons_of_mem _ hy)
    have e : ur (x :: r) = ur r ++ unR x := by simp [ur]
    rw [e, List.length_append]
    simp only [lenS]
    omega
theorem mem_mkX {n : Nt} {qs : List (Int × Int)} {d : Int} {x : Sx} {m : Mrk} : m ∈ mkX n qs d x ↔ ∃ p, 0 ≤ m.post ∧ qs[m.post.toNat]? = some p ∧ p.1 = x.step.piece ∧ x.low < beh n p x.step.way ∧ beh n p x.step.way ≤ x.high ∧ m.far = d + beh n p x.step.way - x.low ∧ m.way = x.step.way := by
  unfold mkX
  rw [List.mem_filterMap]
  constructor
  · rintro ⟨⟨p, i⟩, hm, he⟩
    dsimp only at he
    split at he
    · rename_i hc
      cases he
      rw [List.mem_zipIdx_iff_getElem?] at hm
      exact ⟨p, by simp, by simpa using hm, hc.1, hc.2.1, hc.2.2, rfl, rfl⟩
    · cases he
  · rintro ⟨p, h0, hq, h1, h2, h3, h4, h5⟩
    refine ⟨(p, m.post.toNat), by rw [List.mem_zipIdx_iff_getElem?]; simpa using hq, ?_⟩
    dsimp only
    rw [if_pos ⟨h1, h2, h3⟩]
    obtain ⟨f, q, y⟩ := m
    dsimp only at h0 h4 h5 ⊢
    rw [← h4, ← h5, show ((q.toNat : Nat) : Int) = q by omega]
theorem hit_step {n : Nt} {qs : List (Int × Int)} {W : List (St × Int)} {d : Int} {x : Sx} (hx : LowHigh x) (m : Mrk) : Hit n qs (unR x ++ W) (d + (x.high - x.low)) m ↔ Hit n qs W d m ∨ m ∈ mkX n qs d x := by
  have hl := unR_len hx
  have h0 := hx.1
  have h1 := hx.2
  rw [mem_mkX]
  constructor
  · rintro ⟨u, p, g1, g2, g3, g4, g5, g6⟩
    by_cases hlt : m.far ≤ d
    · left
      refine ⟨u, p, hlt, ?_, g3, g4, g5, g6⟩
      rw [List.getElem?_append_right (by omega)] at g2
      rw [← g2]
      congr 1
      omega
    · right
      rw [List.getElem?_append_left (by omega), unR_get hx _ (by omega)] at g2
      cases g2
      have g7 := g5.2
      dsimp only at g7
      exact ⟨p, g3, g4, g5.1, by omega, by omega, by omega, g6⟩
  · rintro (⟨u, p, g1, g2, g3, g4, g5, g6⟩ | ⟨p, g1, g2, g3, g4, g5, g6, g7⟩)
    · refine ⟨u, p, by omega, ?_, g3, g4, g5, g6⟩
      rw [List.getElem?_append_right (by omega), ← g2]
      congr 1
      omega
    · refine ⟨(x.step, beh n p x.step.way), p, by omega, ?_, g1, g2, ⟨g3, rfl⟩, g7⟩
      rw [List.getElem?_append_left (by omega), unR_get hx _ (by omega)]
      congr 2
      omega
theorem mem_marks {n : Nt} {qs : List (Int × Int)} : ∀ (P : List Sx) (d : Int) (W : List (St × Int)) (Ms : List Mrk), (∀ x ∈ P, LowHigh x) → (∀ m, m ∈ Ms ↔ Hit n qs W d m) → ∀ m, (m ∈ Ms ++ marksI n qs d P ↔ Hit n qs (ur P ++ W) (d + lenS P) m)
  | [], d, W, Ms, _, h, m => by simpa [marksI, ur, lenS] using h m
  | x :: r, d, W, Ms, hP, h, m => by
    have e : ur (x :: r) = ur r ++ unR x := by simp [ur]
    have hx := hP x List.mem_cons_self
    have ih := mem_marks r (d + (x.high - x.low)) (unR x ++ W) (Ms ++ mkX n qs d x) (fun y hy => hP y (List.mem_cons_of_mem _ hy)) (fun m => by rw [List.mem_append, h m, hit_step hx]) m
    rw [marksI, ← List.append_assoc, ih, e, List.append_assoc, lenS, show d + (x.high - x.low) + lenS r = d + (x.high - x.low + lenS r) by omega]
theorem marks_far {n : Nt} {qs : List (Int × Int)} {P : List Sx} (hP : ∀ x ∈ P, LowHigh x) {d : Int} {m : Mrk} (h : m ∈ marksI n qs d P) : d < m.far := by
  induction P generalizing d with
  | nil => cases h
  | cons x r ih =>
    have hx := hP x List.mem_cons_self
    have := hx.2
    rcases List.mem_append.1 h with h | h
    · obtain ⟨p, _, _, _, h4, _, h6, _⟩ := mem_mkX.1 h
      omega
    · have := ih (fun y hy => hP y (List.mem_cons_of_mem _ hy)) h
      omega
theorem zipIdx_two {α : Type} (l : List α) (k : Nat) : (l.zipIdx k).Pairwise fun x y => x.2 ≠ y.2 := by
  induction l generalizing k with
  | nil => simp
  | cons x r ih =>
    rw [List.zipIdx_cons, List.pairwise_cons]
    refine ⟨fun y hy => ?_, ih (k + 1)⟩
    have := (List.mem_zipIdx hy).1
    dsimp only
    omega
theorem marks_two {n : Nt} {qs : List (Int × Int)} {P : List Sx} (hP : ∀ x ∈ P, LowHigh x) (d : Int) : (marksI n qs d P).Pairwise fun x y => x.far ≠ y.far ∨ x.post ≠ y.post := by
  induction P generalizing d with
  | nil => exact List.Pairwise.nil
  | cons x r ih =>
    have hr : ∀ y ∈ r, LowHigh y := fun y hy => hP y (List.mem_cons_of_mem _ hy)
    rw [marksI, List.pairwise_append]
    refine ⟨?_, ih hr _, fun a ha b hb => ?_⟩
    · unfold mkX
      rw [List.pairwise_filterMap]
      refine (zipIdx_two qs 0).imp fun {a b} hab c hc e he => ?_
      right
      dsimp only at hc he
      split at hc
      · split at he
        · cases hc
          cases he
          dsimp only
          omega
        · cases he
      · cases hc
    · left
      obtain ⟨p, _, _, _, h4, h5, h6, _⟩ := mem_mkX.1 ha
      have := marks_far hr hb
      omega
/-- Marks that are sorted are in the one order. -/
theorem sorted_marks {M K : List Mrk} (hp : M.Perm K) (h : M.Pairwise fun x y => ¬ Mlt y x) (ht : K.Pairwise fun x y => x.far ≠ y.far ∨ x.post ≠ y.post) : M.Pairwise Mlt := by
  have ht' := (hp.pairwise_iff (R := fun x y : Mrk => x.far ≠ y.far ∨ x.post ≠ y.post) (fun {x y} h => by rcases h with h | h; exact Or.inl (Ne.symm h); exact Or.inr (Ne.symm h))).2 ht
  refine (h.and ht').imp fun {x y} ⟨h1, h2⟩ => ?_
  unfold Mlt at h1 ⊢
  omega

/-! ### Passings, with their axles -/

/-- When the front had come so far; which axle; which post; which way. -/
structure Tg where
  k : Int
  i : Nat
  post : Int
  way : Int
def Tlt (x y : Tg) : Prop := x.k < y.k ∨ (x.k = y.k ∧ (x.i < y.i ∨ (x.i = y.i ∧ x.post < y.post)))
theorem Tlt.asymm (x y : Tg) (h : Tlt x y) : ¬ Tlt y x := fun g => by unfold Tlt at h g; omega
def Tg.un (t : Tg) : Int × Int × Int := (t.k, t.post, t.way)
def outT (n : Nt) (qs : List (Int × Int)) (ax : List Int) (B0 : List (St × Int)) : List (St × Int) → List Tg
  | [] => []
  | u :: us => outT n qs ax B0 us ++ ax.zipIdx.flatMap fun (a, i) => (hitsAt n qs ((us.length : Int) + 1) ((u :: us ++ B0)[a.toNat]?)).map fun h => ⟨h.1, i, h.2.1, h.2.2⟩
theorem flatMap_zip {α β : Type} (l : List α) (f : α → List β) (k : Nat) : (l.zipIdx k).flatMap (fun x => f x.1) = l.flatMap f := by
  induction l generalizing k with
  | nil => rfl
  | cons x r ih => rw [List.zipIdx_cons, List.flatMap_cons, List.flatMap_cons, ih]
theorem outT_un (n : Nt) (qs : List (Int × Int)) (ax : List Int) (B0 us : List (St × Int)) : (outT n qs ax B0 us).map Tg.un = outS n qs ax B0 us := by
  induction us with
  | nil => rfl
  | cons u us ih =>
    rw [outT, outS, List.map_append, ih, List.map_flatMap]
    congr 1
    rw [← flatMap_zip ax _ 0]
    congr 1
    funext x
    rw [List.map_map]
    conv => rhs; rw [← List.map_id (hitsAt n qs ((us.length : Int) + 1) ((u :: us ++ B0)[x.1.toNat]?))]
    rfl
theorem mem_hits {n : Nt} {qs : List (Int × Int)} {k : Int} {o : Option (St × Int)} {h : Int × Int × Int} : h ∈ hitsAt n qs k o ↔ ∃ u p, o = some u ∧ h.1 = k ∧ 0 ≤ h.2.1 ∧ qs[h.2.1.toNat]? = some p ∧ AtU n p u ∧ h.2.2 = u.1.way := by
  unfold hitsAt
  cases o with
  | none => simp
  | some u =>
    dsimp only
    rw [List.mem_filterMap]
    constructor
    · rintro ⟨⟨p, i⟩, hm, he⟩
      dsimp only at he
      split at he
      · rename_i hc
        cases he
        rw [List.mem_zipIdx_iff_getElem?] at hm
        exact ⟨u, p, rfl, rfl, by simp, by simpa using hm, hc, rfl⟩
      · cases he
    · rintro ⟨u', p, hu, h1, h2, h3, h4, h5⟩
      cases hu
      refine ⟨(p, h.2.1.toNat), by rw [List.mem_zipIdx_iff_getElem?]; simpa using h3, ?_⟩
      dsimp only
      rw [if_pos h4]
      obtain ⟨a, b, c⟩ := h
      dsimp only at h1 h2 h5 ⊢
      rw [← h1, ← h5, show ((b.toNat : Nat) : Int) = b by omega]
theorem hits_sorted (n : Nt) (qs : List (Int × Int)) (k : Int) (o : Option (St × Int)) : (hitsAt n qs k o).Pairwise fun x y => x.2.1 < y.2.1 := by
  unfold hitsAt
  cases o with
  | none => exact List.Pairwise.nil
  | some u =>
    rw [List.pairwise_filterMap]
    have hz : ∀ (l : List (Int × Int)) (k : Nat), (l.zipIdx k).Pairwise fun x y => x.2 < y.2 := by
      intro l
      induction l with
      | nil => intro k; simp
      | cons x r ih =>
        intro k
        rw [List.zipIdx_cons, List.pairwise_cons]
        refine ⟨fun y hy => ?_, ih (k + 1)⟩
        have := (List.mem_zipIdx hy).1
        dsimp only
        omega
    refine (hz qs 0).imp fun {a b} hab c hc e he => ?_
    dsimp only at hc he
    split at hc
    · split at he
      · cases hc
        cases he
        dsimp only
        omega
      · cases he
    · cases hc
theorem outT_k {n : Nt} {qs : List (Int × Int)} {ax : List Int} {B0 us : List (St × Int)} {t : Tg} (h : t ∈ outT n qs ax B0 us) : 1 ≤ t.k ∧ t.k ≤ us.length := by
  induction us with
  | nil => cases h
  | cons u us ih =>
    rw [outT] at h
    rcases List.mem_append.1 h with h | h
    · have := ih h
      simp only [List.length_cons]
      omega
    · rw [List.mem_flatMap] at h
      obtain ⟨x, _, hx⟩ := h
      obtain ⟨y, hy, rfl⟩ := List.mem_map.1 hx
      obtain ⟨_, _, _, e, _⟩ := mem_hits.1 hy
      dsimp only
      simp only [List.length_cons]
      omega
theorem outT_sorted (n : Nt) (qs : List (Int × Int)) (ax : List Int) (B0 us : List (St × Int)) : (outT n qs ax B0 us).Pairwise Tlt := by
  induction us with
  | nil => exact List.Pairwise.nil
  | cons u us ih =>
    rw [outT, List.pairwise_append]
    refine ⟨ih, ?_, fun a ha b hb => ?_⟩
    · have hz : ∀ (l : List Int) (k : Nat), ((l.zipIdx k).flatMap fun (a, i) => (hitsAt n qs ((us.length : Int) + 1) ((u :: us ++ B0)[a.toNat]?)).map fun h => (⟨h.1, i, h.2.1, h.2.2⟩ : Tg)).Pairwise Tlt ∧ ∀ t ∈ ((l.zipIdx k).flatMap fun (a, i) => (hitsAt n qs ((us.length : Int) + 1) ((u :: us ++ B0)[a.toNat]?)).map fun h => (⟨h.1, i, h.2.1, h.2.2⟩ : Tg)), t.k = (us.length : Int) + 1 ∧ k ≤ t.i := by
        intro l
        induction l with
        | nil => intro k; exact ⟨List.Pairwise.nil, fun t ht => by cases ht⟩
        | cons a r ih2 =>
          intro k
          obtain ⟨i1, i2⟩ := ih2 (k + 1)
          rw [List.zipIdx_cons, List.flatMap_cons]
          have hk : ∀ t ∈ (hitsAt n qs ((us.length : Int) + 1) ((u :: us ++ B0)[a.toNat]?)).map fun h => (⟨h.1, k, h.2.1, h.2.2⟩ : Tg), t.k = (us.length : Int) + 1 ∧ t.i = k := fun t ht => by
            obtain ⟨y, hy, rfl⟩ := List.mem_map.1 ht
            obtain ⟨_, _, _, e, _⟩ := mem_hits.1 hy
            exact ⟨e, rfl⟩
          refine ⟨List.pairwise_append.2 ⟨?_, i1, fun x hx y hy => ?_⟩, fun t ht => ?_⟩
          · rw [List.pairwise_map]
            refine (List.Pairwise.and_mem.1 (hits_sorted n qs _ _)).imp fun {x y} ⟨hx, hy, hxy⟩ => ?_
            obtain ⟨_, _, _, e1, _⟩ := mem_hits.1 hx
            obtain ⟨_, _, _, e2, _⟩ := mem_hits.1 hy
            exact Or.inr ⟨e1.trans e2.symm, Or.inr ⟨rfl, hxy⟩⟩
          · have h1 := hk x hx
            have h2 := i2 y hy
            exact Or.inr ⟨h1.1.trans h2.1.symm, Or.inl (by omega)⟩
          · rcases List.mem_append.1 ht with ht | ht
            · have := hk t ht
              exact ⟨this.1, by omega⟩
            · have := i2 t ht
              exact ⟨this.1, by omega⟩
      exact (hz ax 0).1
    · have h1 := outT_k ha
      rw [List.mem_flatMap] at hb
      obtain ⟨x, _, hx⟩ := hb
      obtain ⟨y, hy, rfl⟩ := List.mem_map.1 hx
      obtain ⟨_, _, _, e, _⟩ := mem_hits.1 hy
      left
      dsimp only
      omega
/-- Which passings there are. -/
theorem mem_outT {n : Nt} {qs : List (Int × Int)} {ax : List Int} {B0 us : List (St × Int)} (hax : ∀ a ∈ ax, 0 ≤ a) {t : Tg} : t ∈ outT n qs ax B0 us ↔ 1 ≤ t.k ∧ t.k ≤ us.length ∧ ∃ a, ax[t.i]? = some a ∧ Hit n qs (us ++ B0) us.length ⟨t.k - a, t.post, t.way⟩ := by
  induction us with
  | nil =>
    constructor
    · intro h; cases h
    · rintro ⟨h1, h2, _⟩
      simp at h2
      omega
  | cons u us ih =>
    rw [outT, List.mem_append, ih]
    have step : ∀ a, t.k ≤ us.length → 0 ≤ a → (Hit n qs (u :: us ++ B0) ((u :: us).length : Int) ⟨t.k - a, t.post, t.way⟩ ↔ Hit n qs (us ++ B0) (us.length : Int) ⟨t.k - a, t.post, t.way⟩) := fun a hk ha => by
      unfold Hit
      dsimp only
      have e : (u :: us ++ B0)[(((u :: us).length : Int) - (t.k - a)).toNat]? = (us ++ B0)[((us.length : Int) - (t.k - a)).toNat]? := by
        rw [List.length_cons, show (((us.length + 1 : Nat) : Int) - (t.k - a)).toNat = ((us.length : Int) - (t.k - a)).toNat + 1 by omega, List.cons_append, List.getElem?_cons_succ]
      rw [e]
      constructor
      · rintro ⟨v, p, _, h2⟩
        exact ⟨v, p, by omega, h2⟩
      · rintro ⟨v, p, _, h2⟩
        exact ⟨v, p, by simp only [List.length_cons]; omega, h2⟩
    constructor
    · rintro (⟨h1, h2, a, h3, h4⟩ | h)
      · exact ⟨h1, by simp only [List.length_cons]; omega, a, h3, (step a h2 (hax a (List.mem_of_getElem? h3))).2 h4⟩
      · rw [List.mem_flatMap] at h
        obtain ⟨⟨a, i⟩, hm, hx⟩ := h
        obtain ⟨y, hy, rfl⟩ := List.mem_map.1 hx
        obtain ⟨v, p, hv, e, g1, g2, g3, g4⟩ := mem_hits.1 hy
        rw [List.mem_zipIdx_iff_getElem?] at hm
        dsimp only at hm hv ⊢
        have ha := hax a (List.mem_of_getElem? hm)
        refine ⟨by omega, by simp only [List.length_cons]; omega, a, hm, v, p, by simp only [List.length_cons]; omega, ?_, g1, g2, g3, g4⟩
        dsimp only
        rw [e, ← hv]
        congr 1
        simp only [List.length_cons]
        omega
    · rintro ⟨h1, h2, a, h3, h4⟩
      have ha := hax a (List.mem_of_getElem? h3)
      simp only [List.length_cons] at h2
      by_cases hk : t.k ≤ us.length
      · exact Or.inl ⟨h1, hk, a, h3, (step a hk ha).1 h4⟩
      · right
        have hk' : t.k = (us.length : Int) + 1 := by omega
        obtain ⟨v, p, g0, g1, g2, g3, g4, g5⟩ := h4
        rw [List.mem_flatMap]
        refine ⟨(a, t.i), by rw [List.mem_zipIdx_iff_getElem?]; exact h3, ?_⟩
        dsimp only at g1 ⊢
        rw [List.mem_map]
        refine ⟨(t.k, t.post, t.way), mem_hits.2 ⟨v, p, ?_, hk', g2, g3, g4, g5⟩, rfl⟩
        rw [← g1]
        congr 1
        simp only [List.length_cons]
        omega
/-- Passings that are sorted, and are just these, are the specification's. -/
theorem passes_are {n : Nt} {qs : List (Int × Int)} {ax : List Int} {B0 us : List (St × Int)} (hax : ∀ a ∈ ax, 0 ≤ a) {L : List Tg} (hs : L.Pairwise Tlt) (hm : ∀ t, t ∈ L ↔ 1 ≤ t.k ∧ t.k ≤ us.length ∧ ∃ a, ax[t.i]? = some a ∧ Hit n qs (us ++ B0) us.length ⟨t.k - a, t.post, t.way⟩) : L.map Tg.un = outS n qs ax B0 us := by
  rw [← outT_un, sorted_unique Tlt.asymm _ _ hs (outT_sorted n qs ax B0 us) fun t => by rw [hm, mem_outT hax]]

end Go.Proofs.YtcggkfpkkhjdhaaGreat

