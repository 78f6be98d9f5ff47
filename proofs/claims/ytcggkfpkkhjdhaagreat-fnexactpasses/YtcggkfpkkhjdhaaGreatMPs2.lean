import Derived.Test.YtcggkfpkkhjdhaaGreatPs1
import Derived.Test.YtcggkfpkkhjdhaaGreatMPlain
import Derived.Test.YtcggkfpkkhjdhaaGreatMPlain2
import Derived.Test.YtcggkfpkkhjdhaaGreatMRead
set_option linter.unusedSimpArgs false
namespace Go.Proofs.YtcggkfpkkhjdhaaGreat
open Go.RowKit

/-! ### Where an axle is -/

/-- A post inside a piece. -/
def PostOk (n : Nt) (p : Int × Int) : Prop := (0 ≤ p.1 ∧ p.1 < n.pieces.length) ∧ 1 ≤ p.2 ∧ p.2 ≤ lenOf n p.1 - 1
/-- How far a post is from the end behind, this way. -/
def beh (n : Nt) (p : Int × Int) (way : Int) : Int := behind n ⟨p.1, p.2, way⟩
/-- A post stands at a place. -/
def AtU (n : Nt) (p : Int × Int) (u : St × Int) : Prop := p.1 = u.1.piece ∧ beh n p u.1.way = u.2
instance (n : Nt) (p : Int × Int) (u : St × Int) : Decidable (AtU n p u) := by unfold AtU; infer_instance
theorem beh_in {n : Nt} {p : Int × Int} (h : PostOk n p) (way : Int) : 1 ≤ beh n p way ∧ beh n p way ≤ lenOf n p.1 - 1 := by
  have := h.2
  unfold beh behind room
  dsimp only
  split <;> omega
/-- Where an axle is, so far behind the front. -/
def axleSp (n : Nt) (s : Sp) (xs : List St) (a : Int) : Sp := if a = 0 then s else tailOf n ⟨s, a, takeLen n a (behind n s) xs⟩
theorem spot_at {n : Nt} {s : Sp} {p : Int × Int} (hp : s.piece = p.1) : s.at_ = p.2 ↔ beh n p s.way = behind n s := by
  unfold beh behind room
  rw [← hp]
  dsimp only
  split <;> omega
theorem bu_get0 {n : Nt} {s : Sp} {xs : List St} (h : 0 < behind n s) : (bu n s xs)[0]? = some (⟨s.piece, s.way⟩, behind n s) := by
  obtain ⟨r, hr⟩ := down_head ⟨s.piece, s.way⟩ (behind n s).toNat (by omega)
  rw [bu_eq, hr]
  simp
  omega
theorem down_get (x : St) (b i : Nat) (h : i < b) : (down x b)[i]? = some (x, ((b - i : Nat) : Int)) := by
  induction b generalizing i with
  | zero => omega
  | succ b ih =>
    cases i with
    | zero => simp [down]
    | succ i =>
      rw [down, List.getElem?_cons_succ, ih i (by omega)]
      congr 3
      omega
theorem fl_get {n : Nt} (hG : NetGood n) {xs : List St} (hx : ∀ x ∈ xs, StepOk n x) (k : Nat) (hk : k < xs.length) (d : Nat) (hd : (d : Int) < lenOf n xs[k].piece) : (fl n xs)[(sumLen n (xs.take k)).toNat + d]? = some (xs[k], lenOf n xs[k].piece - d) := by
  induction xs generalizing k with
  | nil => simp at hk
  | cons x r ih =>
    have h1 := hx x List.mem_cons_self
    have hl := hG.len h1.1.1 h1.1.2
    cases k with
    | zero =>
      simp only [List.take_zero, sumLen_nil, List.getElem_cons_zero] at hd ⊢
      rw [fl_cons, List.getElem?_append_left (by rw [down_len]; omega)]
      rw [show (Int.toNat 0 + d) = d by simp, down_get _ _ _ (by omega)]
      congr 2
      omega
    | succ k =>
      have hx' : ∀ y ∈ r, StepOk n y := fun y hy => hx y (List.mem_cons_of_mem _ hy)
      simp only [List.length_cons, List.getElem_cons_succ, List.take_succ_cons, sumLen_cons] at hk hd ⊢
      have h0 := sumLen_nonneg hG (xs := r.take k) (fun y hy => hx' y (List.mem_of_mem_take hy))
      rw [fl_cons, List.getElem?_append_right (by rw [down_len]; omega), down_len]
      rw [show (lenOf n x.piece + sumLen n (r.take k)).toNat + d - (lenOf n x.piece).toNat = (sumLen n (r.take k)).toNat + d by omega]
      exact ih hx' k (by omega) hd
theorem tail_mid {n : Nt} {s : Sp} {xs : List St} {a : Int} : tailOf n ⟨s, a, xs⟩ = ⟨(lastOf ⟨s.piece, s.way⟩ xs).piece, if (lastOf ⟨s.piece, s.way⟩ xs).way = -1 then lenOf n (lastOf ⟨s.piece, s.way⟩ xs).piece - (behind n s - a + sumLen n xs) else behind n s - a + sumLen n xs, (lastOf ⟨s.piece, s.way⟩ xs).way⟩ := rfl
/-- A spot given by its step and how far it is from the end behind. -/
theorem spot_by {n : Nt} {x : St} (hx : StepOk n x) {b : Int} {p : Int × Int} (hp : x.piece = p.1) : ((if x.way = -1 then lenOf n x.piece - b else b) = p.2) ↔ beh n p x.way = b := by
  unfold beh behind room
  rw [← hp]
  dsimp only
  rcases hx.2 with h | h
  · rw [h]; simp; omega
  · rw [h]; simp; omega
/-- An axle is at a post just when the place so far behind the front is the post's. -/
theorem axle_at {n : Nt} (hG : NetGood n) {s : Sp} {xs : List St} (hs : SpotOk n s) (hx : ∀ x ∈ xs, StepOk n x) {a : Nat} (ha : (a : Int) ≤ behind n s + sumLen n xs) {p : Int × Int} (hp : PostOk n p) :
    (((axleSp n s xs a).piece = p.1 ∧ (axleSp n s xs a).at_ = p.2) ↔ ∃ u, (bu n s xs)[a]? = some u ∧ AtU n p u) ∧ ∀ u, (bu n s xs)[a]? = some u → AtU n p u → (axleSp n s xs a).way = u.1.way := by
  have hb0 := behind_nonneg hs
  have hsl := hG.len hs.1.1 hs.1.2
  have hble : behind n s ≤ lenOf n s.piece := by have := hs.2.2; unfold behind room; split <;> omega
  unfold axleSp
  by_cases h0 : (a : Int) = 0
  · rw [if_pos h0]
    have h0' : a = 0 := by omega
    subst h0'
    by_cases hb : 0 < behind n s
    · rw [bu_get0 hb]
      constructor
      · constructor
        · rintro ⟨h1, h2⟩
          exact ⟨_, rfl, h1.symm, (spot_at h1).1 h2⟩
        · rintro ⟨u, hu, h1, h2⟩
          cases hu
          exact ⟨h1.symm, (spot_at h1.symm).2 h2⟩
      · intro u hu _
        cases hu
        rfl
    · have hbz : behind n s = 0 := by omega
      have no : ∀ u, (bu n s xs)[0]? = some u → ¬ AtU n p u := fun u hu hat => by
        rw [bu_eq, hbz] at hu
        simp only [Int.toNat_zero, down, List.nil_append] at hu
        cases hf : fl n xs with
        | nil => rw [hf] at hu; simp at hu
        | cons u' r =>
          rw [hf] at hu
          simp at hu
          subst hu
          have := fl_bdry hG hx u' r hf
          have h3 := beh_in hp u'.1.way
          rw [hat.1, ← this, hat.2] at h3
          omega
      refine ⟨⟨fun ⟨h1, h2⟩ => ?_, fun ⟨u, hu, hat⟩ => absurd hat (no u hu)⟩, fun u hu hat => absurd hat (no u hu)⟩
      have h3 := (spot_at (n := n) h1).1 h2
      have h4 := beh_in hp s.way
      omega
  · rw [if_neg h0]
    obtain ⟨k, hk, ek, hk1, hk2⟩ := takeLen_take n (a : Int) xs (behind n s)
    rw [ek, tail_mid]
    dsimp only
    have hxk : ∀ x ∈ xs.take k, StepOk n x := fun x h => hx x (List.mem_of_mem_take h)
    have hen : (a : Int) ≤ behind n s + sumLen n (xs.take k) := by
      rcases hk2 with rfl | h
      · rw [List.take_length]; exact ha
      · exact h
    have hst : StepOk n (lastOf ⟨s.piece, s.way⟩ (xs.take k)) := lastOf_ok ⟨hs.1, hs.2.1⟩ hxk
    obtain ⟨b, hb⟩ : ∃ b, behind n s - (a : Int) + sumLen n (xs.take k) = b := ⟨_, rfl⟩
    rw [hb]
    -- the place, where b is not 0
    have hget : 0 < b → (bu n s xs)[a]? = some (lastOf ⟨s.piece, s.way⟩ (xs.take k), b) := fun hbp => by
      rcases Nat.eq_zero_or_pos k with rfl | hkp
      · simp only [List.take_zero, sumLen_nil, lastOf] at hb ⊢
        rw [bu_eq, List.getElem?_append_left (by rw [down_len]; omega), down_get _ _ _ (by omega)]
        congr 2
        omega
      · obtain ⟨k', rfl⟩ : ∃ k', k = k' + 1 := ⟨k - 1, by omega⟩
        have ht := hk1 k' (by omega)
        have hnn := sumLen_nonneg hG (xs := xs.take k') (fun y hy => hx y (List.mem_of_mem_take hy))
        rw [sumLen_take n xs k' (by omega)] at hb
        rw [lastOf_take _ _ _ (by omega), bu_eq, List.getElem?_append_right (by rw [down_len]; omega), down_len]
        have := fl_get hG hx k' (by omega) (a - (behind n s).toNat - (sumLen n (xs.take k')).toNat) (by omega)
        rw [show (sumLen n (xs.take k')).toNat + (a - (behind n s).toNat - (sumLen n (xs.take k')).toNat) = a - (behind n s).toNat by omega] at this
        rw [this]
        congr 2
        omega
    have hno : ¬ 0 < b → ∀ u, (bu n s xs)[a]? = some u → ¬ AtU n p u := fun hbn u hu hat => by
      have hbz : b = 0 := by omega
      have hnn := sumLen_nonneg hG hxk
      have hbd : u.2 = lenOf n u.1.piece := by
        rw [bu_eq, List.getElem?_append_right (by rw [down_len]; omega), down_len] at hu
        by_cases hkl : k < xs.length
        · have h1 := hx xs[k] (List.getElem_mem hkl)
          have hl := hG.len h1.1.1 h1.1.2
          have := fl_get hG hx k hkl 0 (by simp; omega)
          rw [show (sumLen n (xs.take k)).toNat + 0 = a - (behind n s).toNat by omega, hu] at this
          cases this
          simp
        · have := fl_len hG hx
          rw [show k = xs.length by omega, List.take_length] at hb
          rw [List.getElem?_eq_none (by omega)] at hu
          cases hu
      have h3 := beh_in hp u.1.way
      rw [hat.1, ← hbd, hat.2] at h3
      omega
    by_cases hbp : 0 < b
    · have hg := hget hbp
      rw [hg]
      constructor
      · constructor
        · rintro ⟨h1, h2⟩
          exact ⟨_, rfl, h1.symm, (spot_by hst h1).1 h2⟩
        · rintro ⟨u, hu, h1, h2⟩
          cases hu
          exact ⟨h1.symm, (spot_by hst h1.symm).2 h2⟩
      · intro u hu _
        cases hu
        rfl
    · refine ⟨⟨fun ⟨h1, h2⟩ => ?_, fun ⟨u, hu, hat⟩ => absurd hat (hno hbp u hu)⟩, fun u hu hat => absurd hat (hno hbp u hu)⟩
      have h3 := (spot_by hst h1).1 h2
      have h4 := beh_in hp (lastOf ⟨s.piece, s.way⟩ (xs.take k)).way
      omega

/-! ### What the specification tells -/

/-- The posts at a place, told when the front has come so far. -/
def hitsAt (n : Nt) (qs : List (Int × Int)) (k : Int) (o : Option (St × Int)) : List (Int × Int × Int) :=
  match o with
  | none => []
  | some u => qs.zipIdx.filterMap fun (p, i) => if AtU n p u then some (k, (i : Int), u.1.way) else none
/-- What is passed along a way, its newest place first. -/
def outS (n : Nt) (qs : List (Int × Int)) (ax : List Int) (B0 : List (St × Int)) : List (St × Int) → List (Int × Int × Int)
  | [] => []
  | u :: us => outS n qs ax B0 us ++ ax.flatMap fun a => hitsAt n qs ((us.length : Int) + 1) ((u :: us ++ B0)[a.toNat]?)
/-- A post where an axle is was not where it was. -/
theorem not_twice {n : Nt} {l : List (St × Int)} (h : NxtAll n l) {i : Nat} {u v : St × Int} (hu : l[i]? = some u) (hv : l[i + 1]? = some v) {p : Int × Int} (hp : PostOk n p) (hat : AtU n p u) : ¬ AtU n p v := fun hav => by
  rcases h.get hu hv with ⟨e1, e2, _⟩ | ⟨_, e2⟩
  · have h1 := hat.2
    have h2 := hav.2
    rw [e1] at h2
    omega
  · have h3 := beh_in hp v.1.way
    rw [hav.1, hav.2, e2] at h3
    omega

end Go.Proofs.YtcggkfpkkhjdhaaGreat

set_option linter.unusedSimpArgs false
namespace Go.Proofs.YtcggkfpkkhjdhaaGreat
open Go.RowKit

/-! ### Posts and axles -/

/-- Posts in memory. -/
def PoAt (L : Nat) (w : World) (a : Option Addr) (qs : List (Int × Int)) : Prop :=
  ∀ i (h : i < qs.length), ∃ b off, a = some ⟨b, off, none⟩ ∧ (L ≤ b ∧ b < w.heap.size) ∧ w.cell? ⟨b, off + i * 2, none⟩ = some (.int .i64 qs[i].1) ∧ w.cell? ⟨b, off + i * 2 + 1, none⟩ = some (.int .i64 qs[i].2)
theorem PoAt.keeps {L : Nat} {w w' : World} {a : Option Addr} {es : List (Int × Int)} (h : PoAt L w a es) (hk : Keeps L w w') : PoAt L w' a es := by
  intro i hi
  obtain ⟨b, off, ha, hlt, c0, c1⟩ := h i hi
  exact ⟨b, off, ha, ⟨hlt.1, Nat.lt_of_lt_of_le hlt.2 hk.1⟩, by rw [hk.cell hlt]; exact c0, by rw [hk.cell hlt]; exact c1⟩
theorem PoAt.below {L : Nat} {w w' : World} {a : Option Addr} {es : List (Int × Int)} (h : PoAt L w a es) (hb : Below w.heap.size w w') : PoAt L w' a es := h.keeps (keeps_below L hb)
def AxOne (ax : List Int) (long : Int) (i : Nat) (a : Int) : Prop := (0 ≤ a ∧ a ≤ long) ∧ (0 < i → ax.getD (i - 1) 0 ≤ a)
def AxFit (ax : List Int) (long : Int) : Prop := ax.length ≤ 60 ∧ ∀ i (h : i < ax.length), AxOne ax long i ax[i]
def PoFit (n : Nt) (qs : List (Int × Int)) : Prop := qs.length ≤ 60 ∧ ∀ i (h : i < qs.length), PostOk n qs[i]
theorem AxFit.mem {ax : List Int} {long : Int} (h : AxFit ax long) : ∀ a ∈ ax, 0 ≤ a ∧ a ≤ long := fun a ha => by
  obtain ⟨i, hi, rfl⟩ := List.getElem_of_mem ha
  exact (h.2 i hi).1
theorem PoFit.mem {n : Nt} {qs : List (Int × Int)} (h : PoFit n qs) : ∀ p ∈ qs, PostOk n p := fun a ha => by
  obtain ⟨i, hi, rfl⟩ := List.getElem_of_mem ha
  exact h.2 i hi
end Go.Proofs.YtcggkfpkkhjdhaaGreat

namespace Go.Proofs.YtcggkfpkkhjdhaaGreat
open Go.ChangeShapes Go.WideShapes Go.ChangeAt Go.RowKit Go.Deep Go.Joins

theorem cellsLPost : Tryz.prog.cellsOf 83 = 2 := by kernel_rfl

section
variable {H : Type} {enc : TypeId × Value → H} {w : World} {base : Nat} {held : Bool}

set_option maxRecDepth 100000 in
theorem readPos {fuel : Nat} {cs : List Value} {x : DataW H × List MemPlace} (h : DataW.trod enc Tryz.prog w base (fun _ => true) held fuel 32 cs = some x) :
    ∃ a cap es, cs = [.slice a (List.length es) cap] ∧ PoAt 0 w a es ∧ es.length ≤ maxLen := by
  rcases open_slice Tryz.underlying32 h with ⟨rfl, _⟩ | ⟨a, len, cap, m, n, D, Pl, rfl, hb, hl, hm, hmm, _, hx⟩
  · exact ⟨none, 0, [], rfl, fun i h => by simp at h, by simp⟩
  · rw [cellsLPost] at hx
    simp only [if_true] at hmm
    subst hmm
    have each : ∀ i, i < len → ∃ e : Int × Int, ∃ b off, a = ⟨b, off, none⟩ ∧ b < w.heap.size ∧ w.cell? ⟨b, off + i * 2, none⟩ = some (.int .i64 e.1) ∧ w.cell? ⟨b, off + i * 2 + 1, none⟩ = some (.int .i64 e.2) := by
      intro i hi
      obtain ⟨b, off, cs, ha, hblk, ht, hlen, hcell⟩ := row_cells (by omega) hx (show i < m by omega)
      obtain ⟨y0, y1, k, _, _, h0, h1⟩ := trod_struct2 Tryz.underlying83 ht
      match cs, hlen with
      | [v0, v1], _ =>
        simp [cellsInt] at h0 h1
        obtain ⟨p, e0, _, _⟩ := DataW.trod_int uInt h0
        obtain ⟨s, e1, _, _⟩ := DataW.trod_int uInt h1
        simp at e0 e1
        subst e0 e1
        exact ⟨(p, s), b, off, ha, hblk, by simpa using hcell 0 (by omega), by simpa using hcell 1 (by omega)⟩
    haveI : Inhabited (Int × Int) := ⟨(0, 0)⟩
    obtain ⟨f, hf⟩ := choose_lt each
    refine ⟨some a, m, (List.range len).map f, by simp, fun i hi => ?_, by simp; omega⟩
    have hi' : i < len := by simpa using hi
    obtain ⟨b, off, ha, hblk, r0, r1⟩ := hf i hi'
    exact ⟨b, off, by rw [ha], ⟨Nat.zero_le _, hblk⟩, by simpa using r0, by simpa using r1⟩

set_option maxRecDepth 100000 in
theorem readPosV {r : Reach} {b0 : Nat} {v : Value} {d : DataW H} {p : List MemPlace} (hv : Value.okWide Tryz.prog w r b0 32 v) (h : DataW.Trod enc Tryz.prog w base (fun _ => true) held 32 v d p) :
    ∃ a cap ps, v = .slice a (List.length ps) cap ∧ PoAt 0 w a ps ∧ ps.length ≤ maxLen := by
  obtain ⟨a0, len0, cap0, rfl⟩ := okWide_slice Tryz.underlying32 hv
  obtain ⟨fuel, hf⟩ := h
  obtain ⟨a, cap, zs, hcs, hz, hl⟩ := readPos hf
  simp [Value.cells] at hcs
  obtain ⟨rfl, rfl, rfl⟩ := hcs
  exact ⟨a0, cap0, zs, rfl, hz, hl⟩

end
end Go.Proofs.YtcggkfpkkhjdhaaGreat

namespace Go.Proofs.YtcggkfpkkhjdhaaGreat
open Go.ChangeShapes Go.WideShapes Go.ChangeAt Go.RowKit Go.Deep Go.Joins

theorem cellsLSpotS : Tryz.prog.cellsOf 28 = 3 := by kernel_rfl

section
variable {H : Type} {enc : TypeId × Value → H} {w : World} {base : Nat} {held : Bool}

set_option maxRecDepth 100000 in
/-- A spot that came in. -/
theorem readSpot {r : Reach} {b0 : Nat} {v : Value} {d : DataW H} {p : List MemPlace} (hv : Value.okWide Tryz.prog w r b0 28 v) (h : DataW.Trod enc Tryz.prog w base (fun _ => true) held 28 v d p) :
    ∃ s : Sp, v = .agg #[.int .i64 s.piece, .int .i64 s.at_, .int .i64 s.way] := by
  obtain ⟨cs, rfl, hsz⟩ := okWide_struct Tryz.underlying28 hv
  rw [cellsLSpotS] at hsz
  obtain ⟨l⟩ := cs
  match l, hsz with
  | [c0, c1, c2], _ =>
    obtain ⟨fuel, hf⟩ := h
    obtain ⟨y0, y1, y2, k, _, _, h0, h1, h2⟩ := trod_struct3 Tryz.underlying28 hf
    simp [cellsInt, Value.cells] at h0 h1 h2
    obtain ⟨x0, e0, _, _⟩ := DataW.trod_int uInt h0
    obtain ⟨x1, e1, _, _⟩ := DataW.trod_int uInt h1
    obtain ⟨x2, e2, _, _⟩ := DataW.trod_int uInt h2
    simp at e0 e1 e2
    subst e0 e1 e2
    exact ⟨⟨x0, x1, x2⟩, rfl⟩


set_option maxRecDepth 100000 in
theorem readInt {r : Reach} {b0 : Nat} {v : Value} (hv : Value.okWide Tryz.prog w r b0 3 v) : ∃ z : Int, v = .int .i64 z := okWide_int uInt hv
end
end Go.Proofs.YtcggkfpkkhjdhaaGreat

