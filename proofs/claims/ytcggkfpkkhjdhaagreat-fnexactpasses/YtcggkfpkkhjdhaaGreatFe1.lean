import Derived.Test.YtcggkfpkkhjdhaaGreatMKt22
import Derived.Test.YtcggkfpkkhjdhaaGreatMKt12
import Derived.Test.YtcggkfpkkhjdhaaGreatMSpec12
import Derived.Test.YtcggkfpkkhjdhaaGreatMKt17
set_option linter.unusedSimpArgs false
namespace Go.Proofs.YtcggkfpkkhjdhaaGreat
open Go.RowKit

/-! ### From the other end: plain -/

/-- Each step of a list stands so to the one ahead of it. -/
def Ch (R : St → St → Prop) : St → List St → Prop
  | _, [] => True
  | a, s :: r => R s a ∧ Ch R s r
theorem Ch.snoc {R : St → St → Prop} : ∀ {l : List St} {a z : St}, Ch R a l → R z (lastOf a l) → Ch R a (l ++ [z]) := by
  intro l
  induction l with
  | nil => intro a z _ h; exact ⟨h, trivial⟩
  | cons x r ih => intro a z h hz; exact ⟨h.1, ih h.2 hz⟩
theorem Ch.take {R : St → St → Prop} : ∀ {l : List St} {a : St} (k : Nat), Ch R a l → Ch R a (l.take k) := by
  intro l
  induction l with
  | nil => intro a k _; simp [Ch]
  | cons x r ih =>
    intro a k h
    cases k with
    | zero => simp [Ch]
    | succ k => exact ⟨h.1, ih k h.2⟩
theorem sits_ch {n : Nt} {zs : List Int} : ∀ {l : List St} {a : St}, SitsFrom n zs a l ↔ Ch (LeadsBy n zs) a l := by
  intro l
  induction l with
  | nil => intro a; simp [SitsFrom, Ch]
  | cons x r ih => intro a; simp only [SitsFrom, Ch, ih]
theorem back_ch {n : Nt} {long : Int} : ∀ {xs : List St} {hv : Int} {ah : St}, BackOk n long hv ah xs ↔ Ch (Joined n) ah xs ∧ (∀ x ∈ xs, StepOk n x) ∧ (∀ j, j < xs.length → hv + sumLen n (xs.take j) < long) ∧ long ≤ hv + sumLen n xs := by
  intro xs
  induction xs with
  | nil => intro hv ah; simp [BackOk, Ch, sumLen_nil]
  | cons x r ih =>
    intro hv ah
    simp only [BackOk, Ch, ih, sumLen_cons]
    constructor
    · rintro ⟨h1, h2, h3, h4, h5, h6, h7⟩
      refine ⟨⟨h3, h4⟩, ?_, ?_, by omega⟩
      · intro y hy
        rcases List.mem_cons.1 hy with rfl | hy
        · exact h1
        · exact h5 y hy
      · intro j hj
        cases j with
        | zero => simpa [sumLen_nil] using h2
        | succ j =>
          have := h6 j (by simpa using hj)
          simp only [List.take_succ_cons, sumLen_cons]
          omega
    · rintro ⟨⟨h3, h4⟩, h5, h6, h7⟩
      have h0 := h6 0 (by simp)
      simp [sumLen_nil] at h0
      refine ⟨h5 x (by simp), h0, h3, h4, fun y hy => h5 y (by simp [hy]), fun j hj => ?_, by omega⟩
      have := h6 (j + 1) (by simpa using hj)
      simp only [List.take_succ_cons, sumLen_cons] at this
      omega
/-- A list from its other end, turned. -/
def rv (a : St) (l : List St) : List St := (((a :: l).dropLast).reverse).map trn
theorem rv_cons (a x : St) (r : List St) : rv a (x :: r) = rv x r ++ [trn a] := by simp [rv]
theorem lastOf_append (a z : St) (l : List St) : lastOf a (l ++ [z]) = z := by
  induction l generalizing a with
  | nil => rfl
  | cons x r ih => exact ih x
theorem lastOf_rv (a : St) (l : List St) : lastOf (trn (lastOf a l)) (rv a l) = trn a := by
  cases l with
  | nil => rfl
  | cons x r => rw [rv_cons, lastOf_append]
theorem Ch.rev {R S : St → St → Prop} {P : St → Prop} (hs : ∀ a b, P a → P b → R a b → S (trn b) (trn a)) : ∀ {l : List St} {a : St}, P a → (∀ x ∈ l, P x) → Ch R a l → Ch S (trn (lastOf a l)) (rv a l) := by
  intro l
  induction l with
  | nil => intro a _ _ _; simp [rv, Ch]
  | cons x r ih =>
    intro a ha hx h
    rw [rv_cons]
    refine Ch.snoc (ih (hx x (by simp)) (fun y hy => hx y (by simp [hy])) h.2) ?_
    show S (trn a) (lastOf (trn (lastOf x r)) (rv x r))
    rw [lastOf_rv]
    exact hs x a (hx x (by simp)) ha h.1
theorem over_symm {j : Jt} {k : Nat} {lie : Int} {e : Ed} (hK : KindOk j.kind j.ends) (hk : k < j.ends.length) (h : overJ j k lie = (e, 0)) : ∃ (k' : Nat) (hk' : k' < j.ends.length), j.ends[k'] = e ∧ overJ j k' lie = (j.ends[k], 0) := by
  obtain ⟨⟨h1, h4⟩, hl⟩ := hK
  have h5 : j.kind = 1 ∨ j.kind = 2 ∨ j.kind = 3 ∨ j.kind = 4 := by omega
  have hE : ∀ (m : Nat) (hm : m < j.ends.length), endOf j m = j.ends[m] := fun m hm => by simp [endOf, hm]
  rcases h5 with hk1 | hk1 | hk1 | hk1
  · simp [overJ, hk1] at h
  · have hk2 : k = 0 ∨ k = 1 := by omega
    rcases hk2 with rfl | rfl
    · simp [overJ, hk1] at h
      exact ⟨1, by omega, by rw [← hE 1 (by omega)]; exact h, by simp [overJ, hk1, hE 0 (by omega)]⟩
    · simp [overJ, hk1] at h
      exact ⟨0, by omega, by rw [← hE 0 (by omega)]; exact h, by simp [overJ, hk1, hE 1 (by omega)]⟩
  · by_cases h0 : lie = 0
    · simp [overJ, hk1, h0] at h
    · have hk3 : k = 0 ∨ k = 1 ∨ k = 2 := by omega
      by_cases h2 : lie = 2
      · rcases hk3 with rfl | rfl | rfl
        · simp [overJ, hk1, h2] at h
          exact ⟨2, by omega, by rw [← hE 2 (by omega)]; exact h, by simp [overJ, hk1, h2, hE 0 (by omega)]⟩
        · simp [overJ, hk1, h2] at h
        · simp [overJ, hk1, h2] at h
          exact ⟨0, by omega, by rw [← hE 0 (by omega)]; exact h, by simp [overJ, hk1, h2, hE 2 (by omega)]⟩
      · rcases hk3 with rfl | rfl | rfl
        · simp [overJ, hk1, h0, h2] at h
          exact ⟨1, by omega, by rw [← hE 1 (by omega)]; exact h, by simp [overJ, hk1, h0, h2, hE 0 (by omega)]⟩
        · simp [overJ, hk1, h0, h2] at h
          exact ⟨0, by omega, by rw [← hE 0 (by omega)]; exact h, by simp [overJ, hk1, h0, h2, hE 1 (by omega)]⟩
        · simp [overJ, hk1, h0, h2] at h
  · have hk3 : k = 0 ∨ k = 1 ∨ k = 2 ∨ k = 3 := by omega
    rcases hk3 with rfl | rfl | rfl | rfl
    · simp [overJ, hk1] at h
      exact ⟨1, by omega, by rw [← hE 1 (by omega)]; exact h, by simp [overJ, hk1, hE 0 (by omega)]⟩
    · simp [overJ, hk1] at h
      exact ⟨0, by omega, by rw [← hE 0 (by omega)]; exact h, by simp [overJ, hk1, hE 1 (by omega)]⟩
    · simp [overJ, hk1] at h
      exact ⟨3, by omega, by rw [← hE 3 (by omega)]; exact h, by simp [overJ, hk1, hE 2 (by omega)]⟩
    · simp [overJ, hk1] at h
      exact ⟨2, by omega, by rw [← hE 2 (by omega)]; exact h, by simp [overJ, hk1, hE 3 (by omega)]⟩
theorem leads_at {n : Nt} (hG : NetGood n) {s ah : St} {lie : Int} {i k : Nat} (hi : i < n.joints.length) (hst : StandsAt n.joints (hd s.piece s.way) i k) (ho : overJ n.joints[i] k lie = (hd ah.piece (-ah.way), 0)) :
    ∃ k', StandsAt n.joints (hd ah.piece (-ah.way)) i k' ∧ overJ n.joints[i] k' lie = (hd s.piece s.way, 0) := by
  obtain ⟨h1, h2, h3⟩ := hst
  obtain ⟨k', hk', he, ho'⟩ := over_symm (hG.kind hi) h2 ho
  exact ⟨k', ⟨hi, hk', he⟩, by rw [ho', h3]⟩
theorem leads_symm {n : Nt} (hG : NetGood n) {s ah : St} {lie : Int} (h : Leads n s ah lie) : Leads n (trn ah) (trn s) lie := by
  obtain ⟨i, k, hi, hst, ho⟩ := h
  obtain ⟨k', h1, h2⟩ := leads_at hG hi hst ho
  exact ⟨i, k', hi, h1, by show _ = (hd s.piece (- -s.way), 0); rw [h2, Int.neg_neg]⟩
theorem joined_symm {n : Nt} (hG : NetGood n) {s ah : St} (h : Joined n s ah) : Joined n (trn ah) (trn s) := by
  rw [joined_iff hG] at h ⊢
  exact h.imp (leads_symm hG) (leads_symm hG)
/-- Where a step leads to the one ahead, one comes back. -/
theorem leadsBy_at {n : Nt} (hG : NetGood n) {zs : List Int} {s ah : St} (hs : StepOk n s) (h : LeadsBy n zs s ah) : ∃ i k', ∃ hz : i < zs.length, ∃ hi : i < n.joints.length, StandsAt n.joints (hd ah.piece (-ah.way)) i k' ∧ overJ n.joints[i] k' zs[i] = (hd s.piece s.way, 0) := by
  obtain ⟨i, k, hz, hst, i2, k2, hi2, hst2, ho⟩ := h
  obtain ⟨rfl, rfl⟩ := stands_unique (hG.hd hs.1.1 hs.1.2 s.way) hst hst2
  obtain ⟨k', h1, h2⟩ := leads_at hG hi2 hst ho
  exact ⟨i, k', hz, hi2, h1, h2⟩
theorem leadsBy_symm {n : Nt} (hG : NetGood n) {zs : List Int} {s ah : St} (hs : StepOk n s) (h : LeadsBy n zs s ah) : LeadsBy n zs (trn ah) (trn s) := by
  obtain ⟨i, k', hz, hi, h1, h2⟩ := leadsBy_at hG hs h
  exact ⟨i, k', hz, h1, i, k', hi, h1, by show _ = (hd s.piece (- -s.way), 0); rw [h2, Int.neg_neg]⟩
theorem twd_hd {n : Nt} {s : St} (h : StepOk n s) : twd (hd s.piece s.way) = s := by
  obtain ⟨p, y⟩ := s
  rcases h.2 with e | e <;> (dsimp only at e; subst e; simp [twd, hd])

/-! ### A train turned -/

theorem turnList_rv (t : Tr) : turnList t = rv ⟨t.front.piece, t.front.way⟩ t.back := rfl
theorem turnTail_st (n : Nt) (t : Tr) : (⟨(turnTail n t).piece, (turnTail n t).way⟩ : St) = trn (lastOf ⟨t.front.piece, t.front.way⟩ t.back) := rfl
theorem trn_ok {n : Nt} {x : St} (h : StepOk n x) : StepOk n (trn x) := ⟨h.1, by have := h.2; unfold trn; dsimp only; omega⟩
theorem rv_ok {n : Nt} {a : St} {l : List St} (ha : StepOk n a) (hl : ∀ x ∈ l, StepOk n x) : ∀ x ∈ rv a l, StepOk n x := by
  intro x hx
  obtain ⟨y, hy, rfl⟩ := List.mem_map.1 hx
  have := List.dropLast_subset _ (List.mem_reverse.1 hy)
  rcases List.mem_cons.1 this with rfl | h
  · exact trn_ok ha
  · exact trn_ok (hl y h)
theorem front_ok {n : Nt} {t : Tr} (hF : TrainFits n t) : StepOk n ⟨t.front.piece, t.front.way⟩ := ⟨hF.1.1, hF.1.2.1⟩
theorem turn_fits {n : Nt} (hG : NetGood n) {t : Tr} (hF : TrainFits n t) : TrainFits n (turnOf n t) := by
  have h := turnTail_ok hG hF
  have hst := front_ok hF
  have hbs := backOk_steps hF.2.2.2
  refine ⟨h.1, hF.2.1, Nat.le_trans turnBack_len hF.2.2.1, ?_⟩
  show BackOk n t.long (behind n (turnTail n t)) ⟨(turnTail n t).piece, (turnTail n t).way⟩ (turnBack n t)
  rw [turnTail_st]
  obtain ⟨k, h1, h2, h3, h4⟩ := takeLen_take n t.long (turnList t) (behind n (turnTail n t))
  have e : turnBack n t = (turnList t).take k := h2
  rw [e, back_ch]
  refine ⟨Ch.take k ?_, ?_, ?_, ?_⟩
  · rw [turnList_rv]
    exact Ch.rev (P := fun _ => True) (fun a b _ _ => joined_symm hG) trivial (fun _ _ => trivial) (back_ch.1 hF.2.2.2).1
  · intro x hx
    exact rv_ok hst hbs x (List.mem_of_mem_take hx)
  · intro j hj
    have := h3 j (by simp at hj; omega)
    rw [List.take_take, Nat.min_eq_left (by simp at hj; omega)]
    exact this
  · rcases h4 with h4 | h4
    · have h5 := h.2.2
      have h6 : sumLen n (turnList t) = sumLen n ((⟨t.front.piece, t.front.way⟩ :: t.back : List St)).dropLast := by
        unfold turnList
        rw [sumLen_trn, sumLen_rev]
      rw [h4, List.take_length, h6]
      exact h5
    · exact h4
theorem turn_right {n : Nt} {t : Tr} (h : TrainRight n t) : TrainRight n (turnOf n t) := ⟨h.1, turn_fits (netGood h.1) h.2⟩
theorem turn_sits {n : Nt} {zs : List Int} {t : Tr} (h : SitsRight n zs t) : SitsRight n zs (turnOf n t) := by
  obtain ⟨hT, hL, hS⟩ := h
  have hG := netGood hT.1
  refine ⟨turn_right hT, hL, ?_⟩
  rw [← sitsFrom_iff, sits_ch] at hS ⊢
  show Ch (LeadsBy n zs) ⟨(turnTail n t).piece, (turnTail n t).way⟩ (turnBack n t)
  rw [turnTail_st]
  obtain ⟨k, h1, h2, h3, h4⟩ := takeLen_take n t.long (turnList t) (behind n (turnTail n t))
  have e : turnBack n t = (turnList t).take k := h2
  rw [e, turnList_rv]
  exact Ch.take k (Ch.rev (P := StepOk n) (fun a b ha _ => leadsBy_symm hG ha) (front_ok hT.2) (backOk_steps hT.2.2.2.2) hS)

/-! ### Its body is the body from the other end -/

theorem partOf_trn (n : Nt) {s : St} (hs : s.way = 1 ∨ s.way = -1) (a b : Int) : partOf n (trn s) (lenOf n s.piece - b) (lenOf n s.piece - a) = partOf n s a b := by
  obtain ⟨p, y⟩ := s
  dsimp only at hs
  rcases hs with rfl | rfl
  · simp [partOf, trn]
    try omega
  · simp [partOf, trn]
    try omega
def prt (n : Nt) (x : Sx) : List Pt := if x.low < x.high then [partOf n x.step x.low x.high] else []
theorem prt_trn (n : Nt) {s : St} (hs : s.way = 1 ∨ s.way = -1) (a b : Int) : prt n ⟨trn s, lenOf n s.piece - b, lenOf n s.piece - a⟩ = prt n ⟨s, a, b⟩ := by
  unfold prt
  dsimp only
  rw [partOf_trn n hs]
  by_cases h : a < b
  · rw [if_pos h, if_pos (by omega)]
  · rw [if_neg h, if_neg (by omega)]
theorem prt_rev (n : Nt) (x : Sx) : (prt n x).reverse = prt n x := by unfold prt; split <;> rfl
theorem partsL_cons (n : Nt) (x : Sx) (r : List Sx) : partsL n (x :: r) = prt n x ++ partsL n r := by simp [partsL, prt]
theorem partsL_snoc' (n : Nt) (x : Sx) (r : List Sx) : partsL n (r ++ [x]) = partsL n r ++ prt n x := by rw [partsL_snoc]; rfl
theorem stretchL_snoc (n : Nt) (sp : Int) (y : St) : ∀ (bk : List St) (along : Int) (a : St), stretchL n sp along a (bk ++ [y]) = stretchL n 0 along a bk ++ [⟨y, sp, lenOf n y.piece⟩] := by
  intro bk
  induction bk with
  | nil => intro along a; rfl
  | cons x r ih => intro along a; simp only [List.cons_append, stretchL, ih]
theorem stretch_rev (n : Nt) (sp : Int) : ∀ (l : List St) (hi : Int) (a : St), (a.way = 1 ∨ a.way = -1) → (∀ x ∈ l, x.way = 1 ∨ x.way = -1) →
    (partsL n (stretchL n sp hi a l)).reverse = partsL n (stretchL n (lenOf n a.piece - hi) (lenOf n (lastOf a l).piece - sp) (trn (lastOf a l)) (rv a l)) := by
  intro l
  induction l with
  | nil =>
    intro hi a ha _
    simp only [stretchL, partsL_cons, partsL_nil, List.append_nil, lastOf, rv, List.dropLast_singleton, List.reverse_nil, List.map_nil]
    rw [prt_rev, prt_trn n ha]
  | cons x r ih =>
    intro hi a ha hl
    rw [rv_cons]
    simp only [stretchL, lastOf]
    rw [partsL_cons, List.reverse_append, ih _ _ (hl x (by simp)) (fun y hy => hl y (by simp [hy])), stretchL_snoc, partsL_snoc', prt_rev]
    have e1 := prt_trn n ha 0 hi
    rw [Int.sub_zero] at e1
    have e2 : lenOf n (trn a).piece = lenOf n a.piece := rfl
    rw [e2, e1, Int.sub_self]
theorem sum_pos {n : Nt} (hG : NetGood n) {l : List St} (hl : ∀ x ∈ l, StepOk n x) : (l.length : Int) ≤ sumLen n l := by
  induction l with
  | nil => simp [sumLen_nil]
  | cons x r ih =>
    have h1 := ih (fun y hy => hl y (by simp [hy]))
    have h2 := hG.len (hl x (by simp)).1.1 (hl x (by simp)).1.2
    rw [sumLen_cons, List.length_cons]
    omega
theorem takeLen_snoc {n : Nt} {long : Int} : ∀ {R : List St} {h : Int} {z : St}, (∀ j, j < R.length → h + sumLen n (R.take j) < long) → takeLen n long h (R ++ [z]) = R ++ (if h + sumLen n R < long then [z] else []) := by
  intro R
  induction R with
  | nil => intro h z _; simp [takeLen, sumLen_nil]
  | cons x r ih =>
    intro h z hj
    have h0 := hj 0 (by simp)
    simp [sumLen_nil] at h0
    rw [List.cons_append, takeLen_in h0, ih (fun j hj' => by
      have := hj (j + 1) (by simpa using hj')
      simp only [List.take_succ_cons, sumLen_cons] at this
      omega), sumLen_cons, ← Int.add_assoc]
    rfl
/-- What a turned train lies over: all but the piece that the front has not come onto. -/
theorem turn_back {n : Nt} (hG : NetGood n) {t : Tr} (hF : TrainFits n t) {x : St} {r : List St} (hb : t.back = x :: r) :
    turnBack n t = rv x r ++ (if 0 < behind n t.front then [trn ⟨t.front.piece, t.front.way⟩] else []) ∧ behind n (turnTail n t) + sumLen n (rv x r) = t.long - behind n t.front := by
  have h := turnTail_ok hG hF
  have hbs := backOk_steps hF.2.2.2
  have hsum := sumLen_last n x r
  have hrs : sumLen n (rv x r) = sumLen n (x :: r).dropLast := by
    unfold rv
    rw [sumLen_trn, sumLen_rev]
  have hsp : spare n t = behind n t.front - t.long + sumLen n t.back := rfl
  rw [hb, sumLen_cons] at hsp
  have e0 := h.2.1
  rw [hb] at e0
  have e1 : lastOf ⟨t.front.piece, t.front.way⟩ (x :: r) = lastOf x r := rfl
  rw [e1] at e0
  have key : behind n (turnTail n t) + sumLen n (rv x r) = t.long - behind n t.front := by rw [hrs]; omega
  refine ⟨?_, key⟩
  have hbe : 0 ≤ behind n t.front := by
    have h3 := hF.1.2.2
    unfold behind room
    split <;> omega
  unfold turnBack
  rw [turnList_rv, hb, rv_cons, takeLen_snoc (fun j hj => ?_), key]
  · congr 1
    by_cases hp : 0 < behind n t.front
    · rw [if_pos hp, if_pos (by omega)]
    · rw [if_neg hp, if_neg (by omega)]
  · have hx : StepOk n x := hbs x (by rw [hb]; simp)
    have hr : ∀ y ∈ r, StepOk n y := fun y hy => hbs y (by rw [hb]; simp [hy])
    have h5 : sumLen n (rv x r) = sumLen n ((rv x r).take j) + sumLen n ((rv x r).drop j) := by rw [← sumLen_append, List.take_append_drop]
    have h6 := sum_pos hG (l := (rv x r).drop j) (fun y hy => rv_ok hx hr y (List.mem_of_mem_drop hy))
    rw [List.length_drop] at h6
    omega
theorem body_st {n : Nt} (hG : NetGood n) {t : Tr} (hF : TrainFits n t) : bodyParts n t = partsL n (stretchL n (spare n t) (behind n t.front) ⟨t.front.piece, t.front.way⟩ t.back) := by
  have hbe : 0 ≤ behind n t.front := by
    have h3 := hF.1.2.2
    unfold behind room
    split <;> omega
  have := body_same hG (along := behind n t.front) hF.2.2.2 (by have := hF.2.1; omega) hbe
  have e : t.long - (behind n t.front - behind n t.front) = t.long := by omega
  have e2 : behind n t.front + sumLen n t.back - t.long = spare n t := by unfold spare; omega
  rw [e, e2] at this
  exact this
theorem body_turn {n : Nt} (hG : NetGood n) {t : Tr} (hF : TrainFits n t) : bodyParts n (turnOf n t) = (bodyParts n t).reverse := by
  have h := turnTail_ok hG hF
  have hst := front_ok hF
  have hbs := backOk_steps hF.2.2.2
  rw [body_st hG hF, body_st hG (turn_fits hG hF), stretch_rev n _ _ _ _ hst.2 (fun x hx => (hbs x hx).2)]
  show partsL n (stretchL n (behind n (turnTail n t) - t.long + sumLen n (turnBack n t)) (behind n (turnTail n t)) (trn (lastOf ⟨t.front.piece, t.front.way⟩ t.back)) (turnBack n t)) = _
  have hsp : spare n t = behind n t.front - t.long + sumLen n t.back := rfl
  match hb : t.back with
  | [] =>
    rw [hb, sumLen_nil] at hsp
    have e0 := h.2.1
    rw [hb] at e0
    have e1 : turnBack n t = [] := by unfold turnBack turnList; rw [hb]; rfl
    simp only [lastOf] at e0
    rw [e1, sumLen_nil, e0]
    simp only [lastOf, rv, List.dropLast_singleton, List.reverse_nil, List.map_nil]
    congr 2
    omega
  | x :: r =>
    obtain ⟨hB, hK⟩ := turn_back hG hF hb
    have e0 := h.2.1
    rw [hb] at e0
    rw [e0] at hK
    rw [hB, e0, rv_cons]
    by_cases hp : 0 < behind n t.front
    · rw [if_pos hp]
      have e4 : lenOf n (lastOf ⟨t.front.piece, t.front.way⟩ (x :: r)).piece - spare n t - t.long + sumLen n (rv x r ++ [trn ⟨t.front.piece, t.front.way⟩]) = lenOf n t.front.piece - behind n t.front := by
        rw [sumLen_append, sumLen_cons, sumLen_nil]
        have : lenOf n (trn ⟨t.front.piece, t.front.way⟩).piece = lenOf n t.front.piece := rfl
        omega
      rw [e4]
    · have hbe : behind n t.front = 0 := by
        have h3 := hF.1.2.2
        unfold behind room at hp ⊢
        split at hp <;> split <;> omega
      rw [if_neg hp, List.append_nil, stretchL_snoc, partsL_snoc']
      have e4 : lenOf n (lastOf ⟨t.front.piece, t.front.way⟩ (x :: r)).piece - spare n t - t.long + sumLen n (rv x r) = 0 := by omega
      have e5 : prt n ⟨trn ⟨t.front.piece, t.front.way⟩, lenOf n (⟨t.front.piece, t.front.way⟩ : St).piece - behind n t.front, lenOf n (trn ⟨t.front.piece, t.front.way⟩).piece⟩ = [] := by
        unfold prt
        rw [if_neg]
        show ¬ (lenOf n t.front.piece - behind n t.front < lenOf n t.front.piece)
        omega
      rw [e4, e5, List.append_nil]

/-! ### As long as the train; placed it is the train -/

def ptSum (ps : List Pt) : Int := (ps.map fun p => p.to - p.fr).sum
theorem ptSum_cons (p : Pt) (ps : List Pt) : ptSum (p :: ps) = p.to - p.fr + ptSum ps := by simp [ptSum]
theorem ptSum_append (ps qs : List Pt) : ptSum (ps ++ qs) = ptSum ps + ptSum qs := by simp [ptSum]
theorem partOf_long (n : Nt) (s : St) (a b : Int) : (partOf n s a b).to - (partOf n s a b).fr = b - a := by unfold partOf; split <;> (dsimp only; try omega)
theorem bodyFrom_sum {n : Nt} (hG : NetGood n) {long : Int} : ∀ {bk : List St} {hv along : Int} {at_ : St}, BackOk n long hv at_ bk → 0 < long - (hv - along) → 0 ≤ along → ptSum (bodyFrom n (long - (hv - along)) along at_ bk) = long - (hv - along) := by
  intro bk
  induction bk with
  | nil =>
    intro hv along at_ hB hl ha
    simp only [BackOk] at hB
    have e1 : (if along > long - (hv - along) then long - (hv - along) else along) = long - (hv - along) := by split <;> omega
    simp only [bodyFrom]
    rw [e1, if_pos hl, ptSum_cons, partOf_long]
    simp [ptSum]
    omega
  | cons s r ih =>
    intro hv along at_ hB hl ha
    simp only [BackOk] at hB
    obtain ⟨hs, hlt, _, hr⟩ := hB
    have e1 : (if along > long - (hv - along) then long - (hv - along) else along) = along := by split <;> omega
    have e3 : long - (hv - along) - along = long - (hv + lenOf n s.piece - lenOf n s.piece) := by omega
    simp only [bodyFrom]
    rw [e1, if_neg (show ¬ long - (hv - along) - along = 0 by omega), e3, ptSum_append]
    have hl0 := (hG.len hs.1.1 hs.1.2).1
    rw [ih hr (by omega) (by omega)]
    by_cases hp : 0 < along
    · rw [if_pos hp, ptSum_cons, partOf_long]
      simp [ptSum]
      omega
    · rw [if_neg hp]
      simp [ptSum]
      omega
theorem body_sum {n : Nt} {t : Tr} (h : TrainRight n t) : ptSum (bodyParts n t) = t.long := by
  have hF := h.2
  have hbe : 0 ≤ behind n t.front := by
    have h3 := hF.1.2.2
    unfold behind room
    split <;> omega
  have := bodyFrom_sum (netGood h.1) (along := behind n t.front) hF.2.2.2 (by have := hF.2.1; omega) hbe
  have e : t.long - (behind n t.front - behind n t.front) = t.long := by omega
  rw [e] at this
  exact this
theorem back_took {n : Nt} (hG : NetGood n) {zs : List Int} : ∀ {l : List St} {a : St}, (∀ x ∈ l, StepOk n x) → Ch (LeadsBy n zs) a l → Took (NxBack n zs) a l (lastOf a l) := by
  intro l
  induction l with
  | nil => intro a _ _; exact rfl
  | cons x r ih =>
    intro a hx h
    refine ⟨x, ?_, ih (fun y hy => hx y (by simp [hy])) h.2⟩
    have hxo := hx x (by simp)
    obtain ⟨i, k', hz, hi, h1, h2⟩ := leadsBy_at hG hxo h.1
    exact ⟨i, k', _, h1, ⟨hi, hz, h2⟩, Or.inr ⟨rfl, by rw [twd_hd hxo]⟩⟩
theorem place_same {n : Nt} {zs : List Int} {t : Tr} (h : SitsRight n zs t) : PlaceAns n zs t.front t.long true t := by
  obtain ⟨hT, hL, hS⟩ := h
  have hG := netGood hT.1
  have hF := hT.2
  have hbs := backOk_steps hF.2.2.2
  have hbc := back_ch.1 hF.2.2.2
  have hsp := fits_spare hG hF
  refine Or.inl ⟨⟨hT.1, hL, hF.1, hF.2.1⟩, t.back, spare n t, ⟨_, ⟨back_took hG hbs ?_, fun j hj => ?_, hbs, hF.2.2.1⟩, rfl, hsp.1⟩, rfl, rfl⟩
  · rw [← sitsFrom_iff, sits_ch] at hS
    exact hS
  · have := hbc.2.2.1 j hj
    omega
end Go.Proofs.YtcggkfpkkhjdhaaGreat

