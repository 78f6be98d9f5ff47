import Derived.Test.YtbdggfpfpjijoabGreatDoorSb1
import Derived.Test.YtbdggfpfpjijoabGreatDoorShelf
import Derived.Test.YtbdggfpfpjijoabGreatDoorG34
import Derived.Test.YtbdggfpfpjijoabGreatDoorKw8
import Derived.Lib.ItoaNum
namespace Go.Proofs.YtbdggfpfpjijoabGreatDoor
open Go.RowKit

/-! ### Lines of text: plain -/

theorem ba_assoc (a b c : ByteArray) : a ++ b ++ c = a ++ (b ++ c) := ByteArray.append_assoc
theorem ba_nil (a : ByteArray) : (⟨#[]⟩ : ByteArray) ++ a = a := by
  apply ByteArray.ext
  simp
theorem nil_ba (a : ByteArray) : a ++ (⟨#[]⟩ : ByteArray) = a := by
  apply ByteArray.ext
  simp
theorem strCells_app (a b : ByteArray) : Lib.strCells (a ++ b) = Lib.strCells a ++ Lib.strCells b := by
  unfold Lib.strCells
  rw [ByteArray.data_append, Array.toList_append, List.map_append]
theorem strCells_one {c : Int} (h0 : 0 ≤ c) (h1 : c ≤ 255) : Lib.strCells (strOfNums [c]) = [.int .u8 c] := by
  obtain ⟨k, rfl⟩ := Int.eq_ofNat_of_zero_le h0
  have hk : k < 256 := by omega
  simp [Lib.strCells, strOfNums]
  omega
theorem decDigits_zero : Lib.decDigits 0 = [48] := by rw [Lib.decDigits]; rfl
theorem decDigits_lo {k : Nat} (h : k < 10) : Lib.decDigits k = [UInt8.ofNat (48 + k)] := by rw [Lib.decDigits, dif_pos h]
theorem decDigits_hi {k : Nat} (h : ¬ k < 10) : Lib.decDigits k = Lib.decDigits (k / 10) ++ [UInt8.ofNat (48 + k % 10)] := by rw [Lib.decDigits, dif_neg h]
theorem decDigits_len : ∀ (k n : Nat), n < 10 ^ (k + 1) → (Lib.decDigits n).length ≤ k + 1 := by
  intro k
  induction k with
  | zero =>
    intro n h
    rw [Lib.decDigits, dif_pos (by omega)]
    simp
  | succ k ih =>
    intro n h
    rw [Lib.decDigits]
    split
    · simp
    · rw [List.length_append, List.length_singleton]
      have := ih (n / 10) (by rw [Nat.pow_succ] at h; omega)
      omega
theorem decGo_digits : ∀ (k : Nat) (out : ByteArray), 0 < k → decGo k k out = ⟨(Lib.decDigits k).toArray⟩ ++ out := by
  intro k
  induction k using Nat.strongRecOn with
  | ind k ih =>
    intro out h
    rw [decGo_pos h]
    have hone : strOfNums [48 + (k : Int) % 10] = ⟨#[UInt8.ofNat (48 + k % 10)]⟩ := by
      show (⟨#[UInt8.ofNat (48 + (k : Int) % 10).toNat]⟩ : ByteArray) = _
      rw [show (48 + (k : Int) % 10).toNat = 48 + k % 10 by omega]
    by_cases hk : k < 10
    · rw [show k / 10 = 0 by omega, decGo_zero, decDigits_lo hk, hone, show 48 + k % 10 = 48 + k by omega]
    · rw [ih (k / 10) (by omega) _ (by omega), decDigits_hi hk, hone, ← ba_assoc]
      congr 1
theorem decS_digits (n : Nat) : decS n = ⟨(Lib.decDigits n).toArray⟩ := by
  unfold decS
  split
  · rename_i h
    subst h
    rw [decDigits_zero]
  · rw [decGo_digits n _ (by omega)]
    exact nil_ba _
theorem itoa_decS (n : Nat) : (⟨(Lib.itoa (n : Int)).toArray⟩ : ByteArray) = decS n := by
  rw [decS_digits]
  unfold Lib.itoa
  rw [if_neg (by omega), Int.toNat_natCast]
theorem decS_small {n : Nat} (h : n ≤ 10000000) : (decS n).size ≤ 8 := by
  rw [decS_digits]
  have := decDigits_len 7 n (by omega)
  simpa [ByteArray.size] using this
/-- A part of a train, as it is shown. -/
def shPart (k : Nat) (x : Pt) : ByteArray := (((⟨#[32]⟩ ++ strOfNums [65 + (k : Int)]) ++ decS x.fr.toNat) ++ ⟨#[45]⟩) ++ decS x.to.toNat
theorem shPart_size {k : Nat} {x : Pt} (h1 : x.fr ≤ 10000000) (h2 : x.to ≤ 10000000) : (shPart k x).size ≤ 19 := by
  have a := decS_small (n := x.fr.toNat) (by omega)
  have b := decS_small (n := x.to.toNat) (by omega)
  unfold shPart
  simp only [ByteArray.size_append]
  have h3 : (⟨#[32]⟩ : ByteArray).size = 1 := rfl
  have h4 : (⟨#[45]⟩ : ByteArray).size = 1 := rfl
  rw [strOne, h3, h4]
  omega
/-- The parts on one piece. -/
def onGo (p : Int) (k : Nat) : List Pt → ByteArray
  | [] => ⟨#[]⟩
  | x :: r => (if x.piece = p then shPart k x else ⟨#[]⟩) ++ onGo p k r
theorem onGo_snoc (p : Int) (k : Nat) (xs : List Pt) (x : Pt) : onGo p k (xs ++ [x]) = onGo p k xs ++ (if x.piece = p then shPart k x else ⟨#[]⟩) := by
  induction xs with
  | nil => simp only [List.nil_append, onGo]; rw [nil_ba, ba_nil]
  | cons y r ih => simp only [List.cons_append, onGo]; rw [ih, ba_assoc]
theorem onGo_none {p : Int} {k : Nat} {xs : List Pt} (h : (xs.any fun x => decide (x.piece = p)) = false) : onGo p k xs = ⟨#[]⟩ := by
  induction xs with
  | nil => rfl
  | cons y r ih =>
    simp only [List.any_cons, Bool.or_eq_false_iff, decide_eq_false_iff_not] at h
    simp only [onGo]
    rw [if_neg h.1, ih h.2]
    rfl
/-- Of the trains whose numbers are given. -/
def trGo (n : Nt) (ts : List Tr) (p : Int) : List Nat → ByteArray
  | [] => ⟨#[]⟩
  | i :: r => onGo p i (bodyParts n (ts.getD i noTr')) ++ trGo n ts p r
theorem trGo_snoc (n : Nt) (ts : List Tr) (p : Int) (is : List Nat) (i : Nat) : trGo n ts p (is ++ [i]) = trGo n ts p is ++ onGo p i (bodyParts n (ts.getD i noTr')) := by
  induction is with
  | nil => simp only [List.nil_append, trGo]; rw [nil_ba, ba_nil]
  | cons y r ih => simp only [List.cons_append, trGo]; rw [ih, ba_assoc]
theorem trGo_filter (n : Nt) (ts : List Tr) (p : Int) (is : List Nat) : trGo n ts p (is.filter fun i => (bodyParts n (ts.getD i noTr')).any fun x => decide (x.piece = p)) = trGo n ts p is := by
  induction is with
  | nil => rfl
  | cons y r ih =>
    rw [List.filter_cons]
    split
    · simp only [trGo]; rw [ih]
    · rename_i h
      simp only [trGo]
      rw [ih, onGo_none (by simpa using h), ba_nil]
/-- A line. -/
def lnGo (n : Nt) (ts : List Tr) (i : Nat) : ByteArray := ((n.pieces.getD i ⟨⟨#[]⟩, 0, 0, 0⟩).name ++ trGo n ts i (List.range ts.length)) ++ ⟨#[10]⟩
def shGo (n : Nt) (ts : List Tr) : Nat → ByteArray
  | 0 => ⟨#[]⟩
  | i + 1 => shGo n ts i ++ lnGo n ts i
def shown (n : Nt) (ts : List Tr) : ByteArray := shGo n ts n.pieces.length
def ShownIs (n : Nt) (ts : List Tr) (s : ByteArray) : Prop := (WorldOk n ts ∧ s = shown n ts) ∨ (¬ WorldOk n ts ∧ s = ⟨#[]⟩)
theorem ShownIs.unique {n : Nt} {ts : List Tr} {a b : ByteArray} (h : ShownIs n ts a) (g : ShownIs n ts b) : a = b := by
  rcases h with ⟨h1, rfl⟩ | ⟨h1, rfl⟩ <;> rcases g with ⟨g1, rfl⟩ | ⟨g1, rfl⟩
  · rfl
  · exact absurd h1 g1
  · exact absurd g1 h1
  · rfl
theorem onGo_size (p : Int) (k : Nat) (xs : List Pt) (h : ∀ x ∈ xs, x.fr ≤ 10000000 ∧ x.to ≤ 10000000) : (onGo p k xs).size ≤ 19 * xs.length := by
  induction xs with
  | nil => simp [onGo, ByteArray.size]
  | cons y r ih =>
    simp only [onGo, ByteArray.size_append, List.length_cons]
    have h1 := ih fun x hx => h x (List.mem_cons_of_mem _ hx)
    have h2 := shPart_size (k := k) (h y (List.mem_cons_self ..)).1 (h y (List.mem_cons_self ..)).2
    have h3 : (⟨#[]⟩ : ByteArray).size = 0 := rfl
    split
    · omega
    · rw [h3]; omega
end Go.Proofs.YtbdggfpfpjijoabGreatDoor

