import Derived.Test.YtbdggfpfpjijoabGreatDoorKt8
import Derived.Test.YtbdggfpfpjijoabGreatDoorG0
import Derived.Laws.Bits64b
import Derived.Laws.BytesArg
namespace Go.Proofs.YtbdggfpfpjijoabGreatDoor
open Go.RowKit

/-! ### The cursor that draws -/

/-- Bytes in memory, in blocks below U. -/
def BytesAt (U : Nat) (w : World) (a : Option Addr) (bs : List Int) : Prop :=
  ∀ i (h : i < bs.length), ∃ b off, a = some ⟨b, off, none⟩ ∧ (b < U ∧ b < w.heap.size) ∧ w.cell? ⟨b, off + i, none⟩ = some (.int .u8 bs[i]) ∧ (0 ≤ bs[i] ∧ bs[i] ≤ 255)
structure Cu where
  at_ : Nat
  seed : Int
def stir (s b : Int) : Int := IntKind.u64.wrap (IntKind.u64.wrap (IntKind.u64.wrap (s * 6364136223846793005) + b) + 1442695040888963407)
def stir0 (s : Int) : Int := IntKind.u64.wrap (IntKind.u64.wrap (s * 6364136223846793005) + 1442695040888963407)
def nextC (bs : List Int) (c : Cu) : Int × Cu :=
  if h : c.at_ < bs.length then (bs[c.at_], ⟨c.at_ + 1, stir c.seed bs[c.at_]⟩) else (wrap64 (bits .and .u64 (stir0 c.seed / 1099511627776) 255), ⟨c.at_ + 1, stir0 c.seed⟩)
def BytesIn (bs : List Int) : Prop := ∀ i (h : i < bs.length), 0 ≤ bs[i] ∧ bs[i] ≤ 255
/-- The cursor's cells, and the bytes that it reads. -/
def CurAt (w : World) (C : Nat) (bs : List Int) (c : Cu) : Prop := ∃ a cap, Boxed w C [.slice a bs.length cap, .int .i64 c.at_, .int .u64 c.seed] ∧ BytesAt C w a bs

theorem CurAt.lt {w : World} {C : Nat} {bs : List Int} {c : Cu} (h : CurAt w C bs c) : C < w.heap.size := by
  obtain ⟨a, cap, h1, _⟩ := h
  exact h1.1
theorem CurAt.of_below {w w' : World} {C : Nat} {bs : List Int} {c : Cu} (h : CurAt w C bs c) {U : Nat} (hb : Below U w w') (hU : C < U) : CurAt w' C bs c := by
  obtain ⟨a, cap, h1, h2⟩ := h
  refine ⟨a, cap, ⟨Nat.lt_of_lt_of_le h1.1 hb.size, fun i v hi => by rw [World.cell?_of_block (w := w) (a := ⟨C, i, none⟩) (hb.block C hU)]; exact h1.2.1 i v hi, fun i => by rw [World.frozen?_of_block (w := w) (a := ⟨C, i, none⟩) (hb.block C hU)]; exact h1.2.2 i⟩, fun i hi => ?_⟩
  obtain ⟨b, off, e, h3, h4, h5⟩ := h2 i hi
  exact ⟨b, off, e, ⟨h3.1, Nat.lt_of_lt_of_le h3.2 hb.size⟩, by rw [World.cell?_of_block (w := w) (a := ⟨b, off + i, none⟩) (hb.block b (by omega))]; exact h4, h5⟩
theorem CurAt.below {w w' : World} {C : Nat} {bs : List Int} {c : Cu} (h : CurAt w C bs c) (hb : Below w.heap.size w w') : CurAt w' C bs c := h.of_below hb h.lt

theorem nextC_at (bs : List Int) (c : Cu) : (nextC bs c).2.at_ = c.at_ + 1 := by
  unfold nextC
  split <;> rfl
theorem nextC_in {bs : List Int} (hbs : BytesIn bs) (c : Cu) : 0 ≤ (nextC bs c).1 ∧ (nextC bs c).1 ≤ 255 := by
  unfold nextC
  split
  · rename_i h
    exact hbs _ h
  · dsimp only
    obtain ⟨q, hq⟩ : ∃ q : Nat, stir0 c.seed / 1099511627776 = q := by
      unfold stir0
      rw [IntKind.wrap_u64]
      exact ⟨_, (Int.toNat_of_nonneg (by omega)).symm⟩
    have hq2 : q < 18446744073709551616 := by
      have : stir0 c.seed / 1099511627776 < 18446744073709551616 := by
        unfold stir0
        rw [IntKind.wrap_u64]
        omega
      omega
    rw [hq]
    have := bits_and_u64_nat q 255 hq2 (by omega)
    rw [show ((255 : Nat) : Int) = 255 from rfl] at this
    rw [this]
    have h2 : q &&& 255 ≤ 255 := Nat.and_le_right
    unfold wrap64
    omega

end Go.Proofs.YtbdggfpfpjijoabGreatDoor
namespace Go.Proofs.YtbdggfpfpjijoabGreatDoor
open Go.RowKit

def pickC (bs : List Int) (c : Cu) (n : Int) : Int × Cu :=
  if n ≤ 1 then (0, c) else if n > 200 then (((nextC bs c).1 * 256 + (nextC bs (nextC bs c).2).1) % n, (nextC bs (nextC bs c).2).2) else ((nextC bs c).1 % n, (nextC bs c).2)
def wideC (bs : List Int) (c : Cu) (n : Int) : Int × Cu := (((nextC bs c).1 * 256 + (nextC bs (nextC bs c).2).1) % n, (nextC bs (nextC bs c).2).2)

theorem pickC_at (bs : List Int) (c : Cu) (n : Int) : (pickC bs c n).2.at_ ≤ c.at_ + 2 := by
  unfold pickC
  split
  · dsimp only; omega
  · split
    · dsimp only; rw [nextC_at, nextC_at]; omega
    · dsimp only; rw [nextC_at]; omega
theorem pickC_in (bs : List Int) (c : Cu) (n : Int) : 0 ≤ (pickC bs c n).1 ∧ ((pickC bs c n).1 < n ∨ (pickC bs c n).1 = 0) := by
  unfold pickC
  split
  · exact ⟨Int.le_refl _, Or.inr rfl⟩
  · have h0 : n ≠ 0 := by omega
    have hp : 0 < n := by omega
    split
    · exact ⟨Int.emod_nonneg _ h0, Or.inl (Int.emod_lt_of_pos _ hp)⟩
    · exact ⟨Int.emod_nonneg _ h0, Or.inl (Int.emod_lt_of_pos _ hp)⟩
theorem wideC_at (bs : List Int) (c : Cu) (n : Int) : (wideC bs c n).2.at_ ≤ c.at_ + 2 := by
  unfold wideC
  dsimp only; rw [nextC_at, nextC_at]; omega
theorem wideC_in (bs : List Int) (c : Cu) {n : Int} (hn : 0 < n) : 0 ≤ (wideC bs c n).1 ∧ (wideC bs c n).1 < n :=
  ⟨Int.emod_nonneg _ (by omega), Int.emod_lt_of_pos _ hn⟩



end Go.Proofs.YtbdggfpfpjijoabGreatDoor
namespace Go.Proofs.YtbdggfpfpjijoabGreatDoor
open Go.RowKit

/-! ### Numbers as text, and names -/

def decGo : Nat → Nat → ByteArray → ByteArray
  | 0, _, out => out
  | f + 1, k, out => if k = 0 then out else decGo f (k / 10) (strOfNums [48 + (k : Int) % 10] ++ out)
def decS (n : Nat) : ByteArray := if n = 0 then ⟨#[48]⟩ else decGo n n ⟨#[]⟩
theorem decGo_zero (out : ByteArray) : decGo 0 0 out = out := rfl
theorem decGo_more : ∀ (f g k : Nat) (out : ByteArray), k ≤ f → k ≤ g → decGo f k out = decGo g k out := by
  intro f
  induction f with
  | zero =>
    intro g k out hf _
    have h0 : k = 0 := by omega
    subst h0
    cases g <;> simp [decGo]
  | succ f ih =>
    intro g k out hf hg
    by_cases h0 : k = 0
    · subst h0
      cases g <;> simp [decGo]
    · cases g with
      | zero => omega
      | succ g =>
        simp only [decGo, if_neg h0]
        exact ih g (k / 10) _ (by omega) (by omega)
theorem decGo_pos {k : Nat} (h : 0 < k) (out : ByteArray) : decGo k k out = decGo (k / 10) (k / 10) (strOfNums [48 + (k : Int) % 10] ++ out) := by
  obtain ⟨j, rfl⟩ : ∃ j, k = j + 1 := ⟨k - 1, by omega⟩
  simp only [decGo, if_neg (show ¬ j + 1 = 0 by omega)]
  exact decGo_more j ((j + 1) / 10) ((j + 1) / 10) _ (by omega) (Nat.le_refl _)
theorem strOne (b : Int) : (strOfNums [b]).size = 1 := rfl
theorem decGo_size : ∀ (f k : Nat) (out : ByteArray), (decGo f k out).size ≤ out.size + f := by
  intro f
  induction f with
  | zero => intro k out; simp [decGo]
  | succ f ih =>
    intro k out
    unfold decGo
    split
    · omega
    · have := ih (k / 10) (strOfNums [48 + (k : Int) % 10] ++ out)
      rw [ByteArray.size_append, strOne] at this
      omega
theorem decS_size (n : Nat) : (decS n).size ≤ n + 1 := by
  unfold decS
  split
  · simp [ByteArray.size]
  · have := decGo_size n n ⟨#[]⟩
    have h0 : (⟨#[]⟩ : ByteArray).size = 0 := rfl
    omega

theorem conv_at (W : World) (g : Nat) (b : Int) (h : W.cell? ⟨g, 0, none⟩ = some (.int .u8 b)) : (convert 143 9 (.slice (some ⟨g, 0, none⟩) 1 1)).run Tryz.prog W = .ok (.string (strOfNums [b])) W :=
  run_convert_bytes_arg _ 143 5 Tryz.underlying143 Tryz.underlying5 _ 0 1 1 [b] rfl (fun i hi => by have h0 : i = 0 := (by omega); subst h0; simpa using h) _ Tryz.underlying9
theorem conv_one (W : World) (b : Int) : (convert 143 9 (.slice (some ⟨W.heap.size, 0, none⟩) 1 1)).run Tryz.prog (W.alloc (.cells #[.int .u8 b] 5)) = .ok (.string (strOfNums [b])) (W.alloc (.cells #[.int .u8 b] 5)) :=
  run_convert_bytes_arg _ 143 5 Tryz.underlying143 Tryz.underlying5 _ 0 1 1 [b] rfl (fun i hi => by have h0 : i = 0 := (by omega); subst h0; simp) _ Tryz.underlying9

set_option maxRecDepth 100000 in
set_option maxHeartbeats 4000000 in
theorem dec_any (n : Nat) (w : World) (hn : n ≤ 100000000) :
    Calls Tryz.prog 75 #[.int .i64 n] w fun e w' => e = .returned (.string (decS n)) ∧ Below w.heap.size w w' := by
  have kc := conv_one
  go_enter Tryz.func75, Tryz.ntmps75
  by_cases h0 : n = 0
  · subst h0
    go_wp2_with fail
    go_ret
    exact ⟨rfl, Below.refl _ _⟩
  · have hb : ((n : Int) == 0) = false := by rw [beq_eq_false_iff_ne]; omega
    have HD : Hid (decS n = decGo n n ⟨#[]⟩) := by unfold Hid decS; rw [if_neg h0]
    go_wp2_with fail
    go_loopw [0, 3] (fun z u wr => ∃ (k : Nat) (out : ByteArray), z = .int .i64 k ∧ u = .string out ∧ k ≤ n ∧ out.size + k ≤ n ∧ Hid (decGo k k out = decGo n n ⟨#[]⟩) ∧ Below w.heap.size w wr) (fun z _ _ => (intOf z).toNat)
    case atStart => exact ⟨n, ⟨#[]⟩, rfl, rfl, Nat.le_refl _, by simp [ByteArray.size], rfl, Below.refl _ _⟩
    case round =>
      obtain ⟨k, out, rfl, rfl, hk, hos, HG, hbb⟩ := hrel
      by_cases hpos : 0 < k
      · have hp : (0 : Int) < (k : Int) := by omega
        have hmx : ¬ 9223372036854775807 < (strOfNums [48 + (k : Int) % 10]).size + out.size := by rw [strOne]; omega
        have hms : (strOfNums [48 + (k : Int) % 10] ++ out).size = 1 + out.size := by rw [ByteArray.size_append, strOne]
        have HG' : Hid (decGo (k / 10) (k / 10) (strOfNums [48 + (k : Int) % 10] ++ out) = decGo n n ⟨#[]⟩) := by
          have := unhide HG
          rw [decGo_pos hpos] at this
          exact this
        have HS := hide hms
        clear hms
        go_wp2_with fail
        have hszb := hbb.size
        refine ⟨⟨k / 10, _, by go_num, rfl, by omega, ?_, HG', (by repeat (first | with_reducible exact Below.refl _ _ | with_reducible exact hbb | refine Below.setCell ?_ (by first | omega | (simp <;> omega) | (simp [World.setCell] <;> omega)) _ | refine Below.alloc ?_ (by first | omega | (simp <;> omega) | (simp [World.setCell] <;> omega)) _ | refine Below.drew ?_ | refine below_draws ?_ _ | exact hbb | exact Below.refl _ _))⟩, by simp [intOf]; omega⟩
        rw [unhide HS]
        omega
      · have hp : ¬ (0 : Int) < (k : Int) := by omega
        go_wp2_with fail
        go_ret
        refine ⟨?_, hbb⟩
        have := unhide HG
        rw [show k = 0 by omega, decGo_zero] at this
        rw [unhide HD, ← this]
        rfl

def nameC (i : Nat) : ByteArray := strOfNums [97 + (i : Int) % 26] ++ decS i

end Go.Proofs.YtbdggfpfpjijoabGreatDoor
