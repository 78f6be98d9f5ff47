import Derived.Test.YtjacbppeebnjfaaGreatMKt6
import Derived.Test.YtjacbppeebnjfaaGreatMPlain
import Derived.Laws.Bits64b
import Derived.Test.YtjacbppeebnjfaaGreatMKt34a
import Derived.LaidEql
import Derived.Stop.Asserts
import Derived.RowKitTokens
import Derived.Laws.BytesArg
import Derived.Test.YtjacbppeebnjfaaGreatMPlain2
namespace Go.Proofs.YtjacbppeebnjfaaGreat
open Go.RowKit

def BytesAt (U : Nat) (w : World) (a : Option Addr) (bs : List Int) : Prop :=
 ∀ i (h : i < bs.length), ∃ b off, a = some ⟨b, off, none⟩ ∧ (b < U ∧ b < w.heap.size) ∧ w.cell? ⟨b, off + i, none⟩ = some (.int .u8 bs[i]) ∧ (0 ≤ bs[i] ∧ bs[i] ≤ 255)
structure Cu where
 at_ : Nat
 seed : Int
def stir (s b : Int) : Int := IntKind.u64.wrap (IntKind.u64.wrap (IntKind.u64.wrap (s * 6364136223846793005) + b) + 1442695040888963407)
def stir0 (s : Int) : Int := IntKind.u64.wrap (IntKind.u64.wrap (s * 6364136223846793005) + 1442695040888963407)
def nextC (bs : List Int) (c : Cu) : Int × Cu :=
 if h : c.at_ < bs.length then (bs[c.at_], ⟨c.at_ + 1, stir c.seed bs[c.at_]⟩) else (wrap64 (bits .and .u64 (stir0 c.seed / 1099511627776) 255), ⟨c.at_ + 1, stir0 c.seed⟩)
def BytesIn (bs : List Int) : Prop := ∀ i (h : i < bs.length), 0 ≤ bs[i] ∧ bs[i] ≤ 255
def CurAt (w : World) (C : Nat) (bs : List Int) (c : Cu) : Prop := ∃ a cap, Boxed w C [.slice a bs.length cap, .int .i64 c.at_, .int .u64 c.seed] ∧ BytesAt C w a bs

theorem CurAt.lt {w : World} {C : Nat} {bs : List Int} {c : Cu} (h : CurAt w C bs c) : C < w.heap.size := by
 obtain ⟨a, cap, h1, _⟩ := h
 exact h1.1
theorem CurAt.of_below {w w' : World} {C : Nat} {bs : List Int} {c : Cu} (h : CurAt w C bs c) {U : Nat} (hb : Below U w w') (hU : C < U) : CurAt w' C bs c := by
 obtain ⟨a, cap, h1, h2⟩ := h
 refine ⟨a, cap, ⟨Nat.lt_of_lt_of_le h1.1 hb.size, fun i v hi => by rw [World.cell?_of_block (w := w) (a := ⟨C, i, none⟩) (hb.block C hU)]; exact h1.2.1 i v hi, fun i => by rw [World.frozen?_of_block (w := w) (a := ⟨C, i, none⟩) (hb.block C hU)]; exact h1.2.2 i⟩, fun i hi => ?_⟩
 obtain ⟨b, off, e, h3, h4, h5⟩ := h2 i hi
 exact ⟨b, off, e, ⟨h3.1, Nat.lt_of_lt_of_le h3.2 hb.size⟩, by rw [World.cell?_of_block (w := w) (a := ⟨b, off + i, none⟩) (hb.block b (by omega))]; exact h4, h5⟩
theorem CurAt.below {w w' : World} {C : Nat} {bs : List Int} {c : Cu} (h : CurAt w C bs c) (hb : Below w.heap.size w w') : CurAt w' C bs c := h.of_below hb h.lt

theorem nextC_at (bs : List Int) (c : Cu) : (nextC bs c).2.at_ = c.at_ + 1 := by
 unfold nextC
 split <;> rfl
theorem nextC_in {bs : List Int} (hbs : BytesIn bs) (c : Cu) : 0 ≤ (nextC bs c).1 ∧ (nextC bs c).1 ≤ 255 := by
 unfold nextC
 split
 ·rename_i h
  exact hbs _ h
 ·dsimp only
  obtain ⟨q, hq⟩ : ∃ q : Nat, stir0 c.seed / 1099511627776 = q := by
   unfold stir0
   rw [IntKind.wrap_u64]
   exact ⟨_, (Int.toNat_of_nonneg (by omega)).symm⟩
  have hq2 : q < 18446744073709551616 := by
   have : stir0 c.seed / 1099511627776 < 18446744073709551616 := by
    unfold stir0
    rw [IntKind.wrap_u64]
    omega
   omega
  rw [hq]
  have := bits_and_u64_nat q 255 hq2 (by omega)
  rw [show ((255 : Nat) : Int) = 255 from rfl] at this
  rw [this]
  have h2 : q &&& 255 ≤ 255 := Nat.and_le_right
  unfold wrap64
  omega

set_option maxRecDepth 100000 in
set_option maxHeartbeats 4000000 in
theorem next_any (C : Nat) (bs : List Int) (c : Cu) (w : World) (h : CurAt w C bs c) (ha : c.at_ ≤ 1000000000) :
  Calls Tryz.prog 31 #[.pointer (some ⟨C, 0, none⟩)] w fun e w' => e = .returned (.int .i64 (nextC bs c).1) ∧ CurAt w' C bs (nextC bs c).2 ∧ Only (fun k => k = C) w w' := by
 obtain ⟨a, cap, h, hb⟩ := h
 obtain ⟨at_, seed⟩ := c
 dsimp only at ha h
 have c0 := h.2.1 0 _ rfl
 have c1 := h.2.1 1 _ rfl
 have c2 := h.2.1 2 _ rfl
 have cz := h.2.2
 have hC := h.1
 have HB := hide hb
 have HBX := hide h
 clear hb h
 have post : ∀ s : Int, CurAt ((w.setCell ⟨C, 1, none⟩ (.int .i64 (at_ + 1))).setCell ⟨C, 2, none⟩ (.int .u64 s)) C bs ⟨at_ + 1, s⟩ := by
  intro s
  have hx := unhide HBX
  refine ⟨a, cap, ⟨by simpa [World.setCell] using hC, fun i v hi => ?_, fun i => by simpa using cz i⟩, fun i hi => ?_⟩
  ·match i, hi with
   | 0, hi => simp at hi; subst hi; rw [World.cell?_setCell_other _ _ _ _ (by simp), World.cell?_setCell_other _ _ _ _ (by simp)]; exact c0
   | 1, hi => simp at hi; subst hi; rw [World.cell?_setCell_other _ _ _ _ (by simp), World.cell?_setCell_same _ _ _ c1]
   | 2, hi => simp at hi; subst hi; exact World.cell?_setCell_same _ _ _ ((World.cell?_setCell_other _ _ _ _ (by simp)).trans c2)
  ·obtain ⟨b, off, e, h3, h4, h5⟩ := unhide HB i hi
   exact ⟨b, off, e, ⟨h3.1, by simpa [World.setCell] using h3.2⟩, by rw [World.cell?_setCell_other _ _ _ _ (by first | (simp; omega) | simp), World.cell?_setCell_other _ _ _ _ (by first | (simp; omega) | simp)]; exact h4, h5⟩
 have ponly : ∀ s : Int, Only (fun k => k = C) w ((w.setCell ⟨C, 1, none⟩ (.int .i64 (at_ + 1))).setCell ⟨C, 2, none⟩ (.int .u64 s)) := fun s =>
  (only_setCell (S := fun k => k = C) w (p := ⟨C, 1, none⟩) rfl _).trans (only_setCell (S := fun k => k = C) _ (p := ⟨C, 2, none⟩) rfl _)
 have post2 : ∀ s : Int, CurAt ((w.setCell ⟨C, 2, none⟩ (.int .u64 s)).setCell ⟨C, 1, none⟩ (.int .i64 (at_ + 1))) C bs ⟨at_ + 1, s⟩ := by
  intro s
  have hx := unhide HBX
  refine ⟨a, cap, ⟨by simpa [World.setCell] using hC, fun i v hi => ?_, fun i => by simpa using cz i⟩, fun i hi => ?_⟩
  ·match i, hi with
   | 0, hi => simp at hi; subst hi; rw [World.cell?_setCell_other _ _ _ _ (by simp), World.cell?_setCell_other _ _ _ _ (by simp)]; exact c0
   | 2, hi => simp at hi; subst hi; rw [World.cell?_setCell_other _ _ _ _ (by simp), World.cell?_setCell_same _ _ _ c2]
   | 1, hi => simp at hi; subst hi; exact World.cell?_setCell_same _ _ _ ((World.cell?_setCell_other _ _ _ _ (by simp)).trans c1)
  ·obtain ⟨b, off, e, h3, h4, h5⟩ := unhide HB i hi
   exact ⟨b, off, e, ⟨h3.1, by simpa [World.setCell] using h3.2⟩, by rw [World.cell?_setCell_other _ _ _ _ (by first | (simp; omega) | simp), World.cell?_setCell_other _ _ _ _ (by first | (simp; omega) | simp)]; exact h4, h5⟩
 have ponly2 : ∀ s : Int, Only (fun k => k = C) w ((w.setCell ⟨C, 2, none⟩ (.int .u64 s)).setCell ⟨C, 1, none⟩ (.int .i64 (at_ + 1))) := fun s =>
  (only_setCell (S := fun k => k = C) w (p := ⟨C, 2, none⟩) rfl _).trans (only_setCell (S := fun k => k = C) _ (p := ⟨C, 1, none⟩) rfl _)
 go_enter Tryz.func31, Tryz.ntmps31
 by_cases hlt : at_ < bs.length
 ·have hN : nextC bs ⟨at_, seed⟩ = (bs[at_], ⟨at_ + 1, stir seed bs[at_]⟩) := by unfold nextC; rw [dif_pos hlt]
  rw [hN]
  obtain ⟨b, off, rfl, hbl, e0, e1⟩ := unhide HB at_ hlt
  have hne : b ≠ C := by omega
  have hlt' : (at_ : Int) < (bs.length : Int) := by omega
  have HN := hide hN
  clear hN
  go_wp2_with fail
  go_region
  go_wp2_with fail
  go_region
  go_wp2_with fail
  go_ret
  exact ⟨rfl, (post _).below (by repeat (first | refine Below.drew ?_ | exact Below.refl _ _)), (ponly _).trans (only_of_below (by repeat (first | refine Below.drew ?_ | exact Below.refl _ _)))⟩
 ·have hN : nextC bs ⟨at_, seed⟩ = (wrap64 (bits .and .u64 (stir0 seed / 1099511627776) 255), ⟨at_ + 1, stir0 seed⟩) := by unfold nextC; rw [dif_neg hlt]
  rw [hN]
  have hlt' : ¬ (at_ : Int) < (bs.length : Int) := by omega
  go_wp2_with fail
  go_region
  go_wp2_with fail
  go_ret
  exact ⟨rfl, (post2 _).below (by repeat (first | refine Below.drew ?_ | exact Below.refl _ _)), (ponly2 _).trans (only_of_below (by repeat (first | refine Below.drew ?_ | exact Below.refl _ _)))⟩
end Go.Proofs.YtjacbppeebnjfaaGreat

namespace Go.Proofs.YtjacbppeebnjfaaGreat
open Go.RowKit Go.Extern.Stop Go.Stop Go.Extern

end Go.Proofs.YtjacbppeebnjfaaGreat
namespace Go.Proofs.YtjacbppeebnjfaaGreat
open Go.RowKit

def pickC (bs : List Int) (c : Cu) (n : Int) : Int × Cu :=
 if n ≤ 1 then (0, c) else if n > 200 then (((nextC bs c).1 * 256 + (nextC bs (nextC bs c).2).1) % n, (nextC bs (nextC bs c).2).2) else ((nextC bs c).1 % n, (nextC bs c).2)
def wideC (bs : List Int) (c : Cu) (n : Int) : Int × Cu := (((nextC bs c).1 * 256 + (nextC bs (nextC bs c).2).1) % n, (nextC bs (nextC bs c).2).2)

theorem pickC_at (bs : List Int) (c : Cu) (n : Int) : (pickC bs c n).2.at_ ≤ c.at_ + 2 := by
 unfold pickC
 split
 ·dsimp only; omega
 ·split
  ·dsimp only; rw [nextC_at, nextC_at]; omega
  ·dsimp only; rw [nextC_at]; omega
theorem pickC_in (bs : List Int) (c : Cu) (n : Int) : 0 ≤ (pickC bs c n).1 ∧ ((pickC bs c n).1 < n ∨ (pickC bs c n).1 = 0) := by
 unfold pickC
 split
 ·exact ⟨Int.le_refl _, Or.inr rfl⟩
 ·have h0 : n ≠ 0 := by omega
  have hp : 0 < n := by omega
  split
  ·exact ⟨Int.emod_nonneg _ h0, Or.inl (Int.emod_lt_of_pos _ hp)⟩
  ·exact ⟨Int.emod_nonneg _ h0, Or.inl (Int.emod_lt_of_pos _ hp)⟩
theorem wideC_at (bs : List Int) (c : Cu) (n : Int) : (wideC bs c n).2.at_ ≤ c.at_ + 2 := by
 unfold wideC
 dsimp only; rw [nextC_at, nextC_at]; omega
theorem wideC_in (bs : List Int) (c : Cu) {n : Int} (hn : 0 < n) : 0 ≤ (wideC bs c n).1 ∧ (wideC bs c n).1 < n :=
 ⟨Int.emod_nonneg _ (by omega), Int.emod_lt_of_pos _ hn⟩

set_option maxRecDepth 100000 in
set_option maxHeartbeats 4000000 in
theorem pick_any (C : Nat) (bs : List Int) (c : Cu) (n : Int) (w : World) (h : CurAt w C bs c) (hbs : BytesIn bs) (ha : c.at_ ≤ 100000000) (hn : n ≤ 1000000000) :
  Calls Tryz.prog 11 #[.pointer (some ⟨C, 0, none⟩), .int .i64 n] w fun e w' => e = .returned (.int .i64 (pickC bs c n).1) ∧ CurAt w' C bs (pickC bs c n).2 ∧ Only (fun k => k = C) w w' := by
 have H := hide h
 clear h
 have HP1 : n ≤ 1 → Hid (pickC bs c n = (0, c)) := fun h1 => by unfold Hid pickC; rw [if_pos h1]
 have HP2 : 1 < n → 200 < n → Hid (pickC bs c n = (((nextC bs c).1 * 256 + (nextC bs (nextC bs c).2).1) % n, (nextC bs (nextC bs c).2).2)) := fun h1 h2 => by unfold Hid pickC; rw [if_neg (by omega), if_pos h2]
 have HP3 : 1 < n → n ≤ 200 → Hid (pickC bs c n = ((nextC bs c).1 % n, (nextC bs c).2)) := fun h1 h2 => by unfold Hid pickC; rw [if_neg (by omega), if_neg (by omega)]
 go_enter Tryz.func11, Tryz.ntmps11
 by_cases h1 : n ≤ 1
 ·have HP := HP1 h1
  clear HP1 HP2 HP3
  go_wp2_with fail
  go_ret
  rw [unhide HP]
  exact ⟨rfl, unhide H, only_refl _ _⟩
 ·have hi1 := nextC_in hbs c
  have ha1 := nextC_at bs c
  have h1' : 1 < n := by omega
  have h0 : (n == 0) = false := by rw [beq_eq_false_iff_ne]; omega
  go_wp2_with fail
  refine (next_any C bs c _ (unhide H) (by omega)).mono ?_
  rintro e w1 ⟨rfl, hc1, ho1⟩
  by_cases h2 : 200 < n
  ·have HP := HP2 h1' h2
   clear HP1 HP2 HP3
   have hi2 := nextC_in hbs (nextC bs c).2
   have HC1 := hide hc1
   have HA1 := hide ha1
   obtain ⟨x1, hx1⟩ : ∃ x, (nextC bs c).1 = x := ⟨_, rfl⟩
   rw [hx1] at hi1 HP ⊢
   clear hx1 hc1 ha1
   go_wp2_with fail
   refine (next_any C bs (nextC bs c).2 _ (unhide HC1) (by have := unhide HA1; omega)).mono ?_
   rintro e w2 ⟨rfl, hc2, ho2⟩
   obtain ⟨x2, hx2⟩ : ∃ x, (nextC bs (nextC bs c).2).1 = x := ⟨_, rfl⟩
   rw [hx2] at hi2 HP ⊢
   clear hx2
   go_wp2_with fail
   go_ret
   rw [unhide HP]
   exact ⟨by go_num, hc2, ho1.trans ho2⟩
  ·have HP := HP3 h1' (by omega)
   clear HP1 HP2 HP3
   obtain ⟨x1, hx1⟩ : ∃ x, (nextC bs c).1 = x := ⟨_, rfl⟩
   rw [hx1] at hi1 HP ⊢
   clear hx1
   go_wp2_with fail
   go_ret
   rw [unhide HP]
   exact ⟨by go_num, hc1, ho1⟩

set_option maxRecDepth 100000 in
set_option maxHeartbeats 4000000 in
theorem wide_any (C : Nat) (bs : List Int) (c : Cu) (n : Int) (w : World) (h : CurAt w C bs c) (hbs : BytesIn bs) (ha : c.at_ ≤ 100000000) (hn : 0 < n ∧ n ≤ 1000000000) :
  Calls Tryz.prog 34 #[.pointer (some ⟨C, 0, none⟩), .int .i64 n] w fun e w' => e = .returned (.int .i64 (wideC bs c n).1) ∧ CurAt w' C bs (wideC bs c n).2 ∧ Only (fun k => k = C) w w' := by
 have H := hide h
 clear h
 have HP : Hid (wideC bs c n = (((nextC bs c).1 * 256 + (nextC bs (nextC bs c).2).1) % n, (nextC bs (nextC bs c).2).2)) := rfl
 have hi1 := nextC_in hbs c
 have hi2 := nextC_in hbs (nextC bs c).2
 have ha1 := nextC_at bs c
 have HA1 := hide ha1
 clear ha1
 have h0 : (n == 0) = false := by rw [beq_eq_false_iff_ne]; omega
 go_enter Tryz.func34, Tryz.ntmps34
 go_wp2_with fail
 refine (next_any C bs c _ (unhide H) (by omega)).mono ?_
 rintro e w1 ⟨rfl, hc1, ho1⟩
 have HC1 := hide hc1
 obtain ⟨x1, hx1⟩ : ∃ x, (nextC bs c).1 = x := ⟨_, rfl⟩
 rw [hx1] at hi1 HP ⊢
 clear hx1 hc1
 go_wp2_with fail
 refine (next_any C bs (nextC bs c).2 _ (unhide HC1) (by have := unhide HA1; omega)).mono ?_
 rintro e w2 ⟨rfl, hc2, ho2⟩
 obtain ⟨x2, hx2⟩ : ∃ x, (nextC bs (nextC bs c).2).1 = x := ⟨_, rfl⟩
 rw [hx2] at hi2 HP ⊢
 clear hx2
 go_wp2_with fail
 go_ret
 rw [unhide HP]
 exact ⟨by go_num, hc2, ho1.trans ho2⟩
end Go.Proofs.YtjacbppeebnjfaaGreat

namespace Go.Proofs.YtjacbppeebnjfaaGreat
open Go.RowKit

def decGo : Nat → Nat → ByteArray → ByteArray
 | 0, _, out => out
 | f + 1, k, out => if k = 0 then out else decGo f (k / 10) (strOfNums [48 + (k : Int) % 10] ++ out)
def decS (n : Nat) : ByteArray := if n = 0 then ⟨#[48]⟩ else decGo n n ⟨#[]⟩
theorem decGo_zero (out : ByteArray) : decGo 0 0 out = out := rfl
theorem decGo_more : ∀ (f g k : Nat) (out : ByteArray), k ≤ f → k ≤ g → decGo f k out = decGo g k out := by
 intro f
 induction f with
 | zero =>
  intro g k out hf _
  have h0 : k = 0 := by omega
  subst h0
  cases g <;> simp [decGo]
 | succ f ih =>
  intro g k out hf hg
  by_cases h0 : k = 0
  ·subst h0
   cases g <;> simp [decGo]
  ·cases g with
   | zero => omega
   | succ g =>
    simp only [decGo, if_neg h0]
    exact ih g (k / 10) _ (by omega) (by omega)
theorem decGo_pos {k : Nat} (h : 0 < k) (out : ByteArray) : decGo k k out = decGo (k / 10) (k / 10) (strOfNums [48 + (k : Int) % 10] ++ out) := by
 obtain ⟨j, rfl⟩ : ∃ j, k = j + 1 := ⟨k - 1, by omega⟩
 simp only [decGo, if_neg (show ¬ j + 1 = 0 by omega)]
 exact decGo_more j ((j + 1) / 10) ((j + 1) / 10) _ (by omega) (Nat.le_refl _)
theorem strOne (b : Int) : (strOfNums [b]).size = 1 := rfl
theorem decGo_size : ∀ (f k : Nat) (out : ByteArray), (decGo f k out).size ≤ out.size + f := by
 intro f
 induction f with
 | zero => intro k out; simp [decGo]
 | succ f ih =>
  intro k out
  unfold decGo
  split
  ·omega
  ·have := ih (k / 10) (strOfNums [48 + (k : Int) % 10] ++ out)
   rw [ByteArray.size_append, strOne] at this
   omega
theorem decS_size (n : Nat) : (decS n).size ≤ n + 1 := by
 unfold decS
 split
 ·simp [ByteArray.size]
 ·have := decGo_size n n ⟨#[]⟩
  have h0 : (⟨#[]⟩ : ByteArray).size = 0 := rfl
  omega

theorem conv_at (W : World) (g : Nat) (b : Int) (h : W.cell? ⟨g, 0, none⟩ = some (.int .u8 b)) : (convert 22 9 (.slice (some ⟨g, 0, none⟩) 1 1)).run Tryz.prog W = .ok (.string (strOfNums [b])) W :=
 run_convert_bytes_arg _ 22 5 Tryz.underlying22 Tryz.underlying5 _ 0 1 1 [b] rfl (fun i hi => by have h0 : i = 0 := (by omega); subst h0; simpa using h) _ Tryz.underlying9
theorem conv_one (W : World) (b : Int) : (convert 22 9 (.slice (some ⟨W.heap.size, 0, none⟩) 1 1)).run Tryz.prog (W.alloc (.cells #[.int .u8 b] 5)) = .ok (.string (strOfNums [b])) (W.alloc (.cells #[.int .u8 b] 5)) :=
 run_convert_bytes_arg _ 22 5 Tryz.underlying22 Tryz.underlying5 _ 0 1 1 [b] rfl (fun i hi => by have h0 : i = 0 := (by omega); subst h0; simp) _ Tryz.underlying9

set_option maxRecDepth 100000 in
set_option maxHeartbeats 4000000 in
theorem dec_any (n : Nat) (w : World) (hn : n ≤ 100000000) :
  Calls Tryz.prog 95 #[.int .i64 n] w fun e w' => e = .returned (.string (decS n)) ∧ Below w.heap.size w w' := by
 have kc := conv_one
 go_enter Tryz.func95, Tryz.ntmps95
 by_cases h0 : n = 0
 ·subst h0
  go_wp2_with fail
  go_ret
  exact ⟨rfl, Below.refl _ _⟩
 ·have hb : ((n : Int) == 0) = false := by rw [beq_eq_false_iff_ne]; omega
  have HD : Hid (decS n = decGo n n ⟨#[]⟩) := by unfold Hid decS; rw [if_neg h0]
  go_wp2_with fail
  go_loopw [0, 3] (fun z u wr => ∃ (k : Nat) (out : ByteArray), z = .int .i64 k ∧ u = .string out ∧ k ≤ n ∧ out.size + k ≤ n ∧ Hid (decGo k k out = decGo n n ⟨#[]⟩) ∧ Below w.heap.size w wr) (fun z _ _ => (intOf z).toNat)
  case atStart => exact ⟨n, ⟨#[]⟩, rfl, rfl, Nat.le_refl _, by simp [ByteArray.size], rfl, Below.refl _ _⟩
  case round =>
   obtain ⟨k, out, rfl, rfl, hk, hos, HG, hbb⟩ := hrel
   by_cases hpos : 0 < k
   ·have hp : (0 : Int) < (k : Int) := by omega
    have hmx : ¬ 9223372036854775807 < (strOfNums [48 + (k : Int) % 10]).size + out.size := by rw [strOne]; omega
    have hms : (strOfNums [48 + (k : Int) % 10] ++ out).size = 1 + out.size := by rw [ByteArray.size_append, strOne]
    have HG' : Hid (decGo (k / 10) (k / 10) (strOfNums [48 + (k : Int) % 10] ++ out) = decGo n n ⟨#[]⟩) := by
     have := unhide HG
     rw [decGo_pos hpos] at this
     exact this
    have HS := hide hms
    clear hms
    go_wp2_with fail
    have hszb := hbb.size
    refine ⟨⟨k / 10, _, by go_num, rfl, by omega, ?_, HG', (bw1 hbb)⟩, by simp [intOf]; omega⟩
    rw [unhide HS]
    omega
   ·have hp : ¬ (0 : Int) < (k : Int) := by omega
    go_wp2_with fail
    go_ret
    refine ⟨?_, hbb⟩
    have := unhide HG
    rw [show k = 0 by omega, decGo_zero] at this
    rw [unhide HD, ← this]
    rfl

def nameC (i : Nat) : ByteArray := strOfNums [97 + (i : Int) % 26] ++ decS i

set_option maxRecDepth 100000 in
set_option maxHeartbeats 4000000 in
theorem name_any (v : Value) (i : Nat) (w : World) (hi : i ≤ 10000000) :
  Calls Tryz.prog 69 #[v, .int .i64 i] w fun e w' => e = .returned (.string (nameC i)) ∧ Below w.heap.size w w' := by
 have hsz := decS_size i
 obtain ⟨raw, hraw⟩ : ∃ raw, IntKind.u8.wrap (IntKind.i64.wrap (97 + (i : Int).tmod 26)) = raw := ⟨_, rfl⟩
 have hrw : raw = 97 + (i : Int) % 26 := by
  rw [← hraw, Int.tmod_eq_emod_of_nonneg (by omega)]
  simp only [IntKind.wrap_u8, IntKind.wrap_i64]
  omega
 have hmx : ¬ 9223372036854775807 < (strOfNums [raw]).size + (decS i).size := by rw [strOne]; omega
 have k1 := conv_at (w.alloc (.cells #[.int .u8 raw] 5)).drew w.heap.size raw (by simp)
 have kq := fun (W : World) (g : Nat) (h : W.cell? ⟨g, 0, none⟩ = some (.int .u8 raw)) => conv_at W g raw h
 have HRW := hide hrw
 clear hrw
 go_enter Tryz.func69, Tryz.ntmps69
 go_wp2_with fail
 go_region_with
  (first
   | (go_at_call 95; refine (dec_any i _ (by omega)).mono ?_; rintro e w1 ⟨rfl, hb1⟩; have hq := (bcell hb1).1 w.heap.size 0; have k3 := conv_at (w1.alloc (.cells #[.int .u8 raw] 5)) w1.heap.size raw (by simp)))
 all_goals go_wp2
 all_goals go_ret
 all_goals rw [unhide HRW]
 all_goals refine ⟨rfl, ?_⟩
 all_goals first | exact below_then bw0 hb1 | exact below_then (below_then bw0 hb1) bw0
end Go.Proofs.YtjacbppeebnjfaaGreat

namespace Go.Proofs.YtjacbppeebnjfaaGreat
open Go.RowKit

structure But (S : Nat → Prop) (base : Nat) (w w' : World) : Prop where
 os : w'.os = w.os
 tape : w'.tape = w.tape
 output : w'.output = w.output
 size : w.heap.size ≤ w'.heap.size
 block : ∀ k, k < base → ¬ S k → w'.heap[k]? = w.heap[k]?

theorem But.refl (S : Nat → Prop) (base : Nat) (w : World) : But S base w w := ⟨rfl, rfl, rfl, Nat.le_refl _, fun _ _ _ => rfl⟩
theorem But.trans {S : Nat → Prop} {base : Nat} {a b c : World} (h : But S base a b) (k : But S base b c) : But S base a c :=
 ⟨k.os.trans h.os, k.tape.trans h.tape, k.output.trans h.output, Nat.le_trans h.size k.size, fun i hi hs => (k.block i hi hs).trans (h.block i hi hs)⟩
theorem but_below {S : Nat → Prop} {base U : Nat} {w w' : World} (h : Below U w w') (hU : base ≤ U) : But S base w w' := ⟨h.os, h.tape, h.output, h.size, fun k hk _ => h.block k (by omega)⟩
theorem but_only {S T : Nat → Prop} {base : Nat} {w w' : World} (h : Only T w w') (hT : ∀ k, k < base → T k → S k) (hb : base ≤ w.heap.size) : But S base w w' :=
 ⟨h.os, h.tape, h.output, h.size, fun k hk hs => h.block k (by omega) (fun ht => hs (hT k hk ht))⟩
theorem but_setCell {S : Nat → Prop} {base : Nat} (w : World) {p : Addr} (hp : S p.block ∨ base ≤ p.block) (v : Value) : But S base w (w.setCell p v) :=
 ⟨rfl, rfl, rfl, by simp [World.setCell], fun k hk hs => Below.heap_setCell w p v k (fun e => by rcases hp with hp | hp; exact hs (e ▸ hp); omega)⟩
theorem But.grown {S : Nat → Prop} {base : Nat} {a w w' : World} {row : Option Nat} (h : But S base a w) (hg : w.grownBy w' row) (hB : base ≤ w.heap.size) (hr : ∀ k, row = some k → base ≤ k) : But S base a w' :=
 ⟨hg.os.trans h.os, hg.tape.trans h.tape, hg.output.trans h.output, Nat.le_trans h.size hg.size, fun k hk hs => (hg.block k (by omega) (fun e => by have := hr k e.symm; omega)).trans (h.block k hk hs)⟩
theorem But.mono {S T : Nat → Prop} {base base' : Nat} {w w' : World} (h : But S base w w') (hb : base' ≤ base) (hT : ∀ k, k < base' → S k → T k) : But T base' w w' :=
 ⟨h.os, h.tape, h.output, h.size, fun k hk hs => h.block k (by omega) (fun ht => hs (hT k hk ht))⟩
theorem But.below {S : Nat → Prop} {base U : Nat} {w w' : World} (h : But S base w w') (hU : U ≤ base) (hS : ∀ k, k < U → ¬ S k) : Below U w w' := ⟨h.os, h.tape, h.output, h.size, fun k hk => h.block k (by omega) (hS k hk)⟩
theorem Boxed.blk {w w' : World} {N : Nat} {vs : List Value} (h : Boxed w N vs) (hs : w.heap.size ≤ w'.heap.size) (hb : w'.heap[N]? = w.heap[N]?) : Boxed w' N vs :=
 ⟨Nat.lt_of_lt_of_le h.1 hs, fun i v hi => by rw [World.cell?_of_block (w := w) (a := ⟨N, i, none⟩) hb]; exact h.2.1 i v hi, fun i => by rw [World.frozen?_of_block (w := w) (a := ⟨N, i, none⟩) hb]; exact h.2.2 i⟩
theorem Boxed.but {S : Nat → Prop} {base : Nat} {w w' : World} {N : Nat} {vs : List Value} (h : Boxed w N vs) (hb : But S base w w') (hN : N < base) (hS : ¬ S N) : Boxed w' N vs := h.blk hb.size (hb.block N hN hS)
theorem CurAt.but {S : Nat → Prop} {base : Nat} {w w' : World} {C : Nat} {bs : List Int} {c : Cu} (h : CurAt w C bs c) (hb : But S base w w') (hC : C < base) (hS : ∀ k, k ≤ C → ¬ S k) : CurAt w' C bs c :=
 h.of_below (hb.below (U := C + 1) (by omega) (fun k hk => hS k (by omega))) (by omega)

def pcF (p : Pc) : List Value := [.string p.name, .int .i64 p.len, .int .i64 p.speed, .int .i64 p.brake]
def edF (e : Ed) : List Value := [.int .i64 e.piece, .int .i64 e.side]
def jvF (p : Jt × Value) : List Value := [.int .i64 p.1.kind, .string p.1.name, p.2]
theorem pcF_len (p : Pc) : (pcF p).length = 4 := rfl
theorem edF_len (p : Ed) : (edF p).length = 2 := rfl
theorem jvF_len (p : Jt × Value) : (jvF p).length = 3 := rfl
abbrev PcRow (w : World) (base : Nat) (v : Value) (ps : List Pc) : Prop := Row w base 96 4 pcF v ps
abbrev EdRow (w : World) (base : Nat) (v : Value) (es : List Ed) : Prop := Row w base 141 2 edF v es
abbrev JvRow (w : World) (base : Nat) (v : Value) (js : List (Jt × Value)) : Prop := Row w base 56 3 jvF v js
def JtRow (w : World) (base : Nat) (v : Value) (js : List Jt) : Prop := ∃ qs : List (Jt × Value), qs.map Prod.fst = js ∧ JvRow w base v qs ∧ ∀ q ∈ qs, EdRow w base q.2 q.1.ends
def NetIn (w : World) (X base : Nat) (n : Nt) : Prop := ∃ u v, Boxed w X [u, v] ∧ PcRow w base u n.pieces ∧ JtRow w base v n.joints

theorem JtRow.blocks {w w' : World} {base : Nat} {v : Value} {js : List Jt} (h : JtRow w base v js) (hb : ∀ k, base ≤ k → k < w.heap.size → w'.heap[k]? = w.heap[k]?) : JtRow w' base v js := by
 obtain ⟨qs, e, h1, h2⟩ := h
 exact ⟨qs, e, h1.block fun k hk => hb k (h1.lt k hk).1 (h1.lt k hk).2, fun q hq => (h2 q hq).block fun k hk => hb k ((h2 q hq).lt k hk).1 ((h2 q hq).lt k hk).2⟩
theorem NetIn.blocks {w w' : World} {X base : Nat} {n : Nt} (h : NetIn w X base n) (hs : w.heap.size ≤ w'.heap.size) (hX : w'.heap[X]? = w.heap[X]?) (hb : ∀ k, base ≤ k → k < w.heap.size → w'.heap[k]? = w.heap[k]?) : NetIn w' X base n := by
 obtain ⟨u, v, h1, h2, h3⟩ := h
 exact ⟨u, v, h1.blk hs hX, h2.block fun k hk => hb k (h2.lt k hk).1 (h2.lt k hk).2, h3.blocks hb⟩
theorem NetIn.below {w w' : World} {X base : Nat} {n : Nt} (h : NetIn w X base n) (hb : Below w.heap.size w w') : NetIn w' X base n := by
 have hX : X < w.heap.size := by obtain ⟨u, v, h1, _⟩ := h; exact h1.1
 exact h.blocks hb.size (hb.block X hX) fun k _ hk => hb.block k hk
theorem NetIn.only {C : Nat} {w w' : World} {X base : Nat} {n : Nt} (h : NetIn w X base n) (ho : Only (fun k => k = C) w w') (hX : X ≠ C) (hC : C < base) : NetIn w' X base n := by
 have hXl : X < w.heap.size := by obtain ⟨u, v, h1, _⟩ := h; exact h1.1
 exact h.blocks ho.size (ho.block X hXl hX) fun k hk hk' => ho.block k hk' (show ¬ k = C by omega)
theorem JtRow.kept {w w' : World} {base : Nat} {v : Value} {js : List Jt} {row : Option Nat} (h : JtRow w base v js) (hg : w.grownBy w' row) (hne : ∀ k t cur, row = some k → w.heap[k]? = some (.cells cur t (0, 0)) → t ≠ 56 ∧ t ≠ 141) (hr : ∀ k, row = some k → ∃ t cur, w.heap[k]? = some (.cells cur t (0, 0))) : JtRow w' base v js := by
 obtain ⟨qs, e, h1, h2⟩ := h
 have ne : ∀ {α : Type} {e' : TypeId} {sz : Nat} {f : α → List Value} {v' : Value} {ys : List α}, Row w base e' sz f v' ys → (e' = 56 ∨ e' = 141) → ∀ k, v'.ownBlock = some k → row ≠ some k := by
  intro α e' sz f v' ys hr' he k hk hrow
  obtain ⟨t, cur, hh⟩ := hr k hrow
  obtain ⟨_, ⟨rfl, _⟩ | ⟨g, cap, cur', rfl, _, hh', _⟩⟩ := hr'
  ·simp [Value.ownBlock] at hk
  ·simp [Value.ownBlock] at hk
   subst hk
   rw [hh] at hh'
   simp at hh'
   have := hne g t cur hrow hh
   rcases he with rfl | rfl
   ·exact this.1 hh'.2
   ·exact this.2 hh'.2
 exact ⟨qs, e, h1.kept hg (ne h1 (Or.inl rfl)), fun q hq => (h2 q hq).kept hg (ne (h2 q hq) (Or.inr rfl))⟩

theorem pcRow_at {w : World} {base : Nat} {v : Value} {ps : List Pc} (h : PcRow w base v ps) : ∃ a cap, v = .slice a ps.length cap ∧ PcsAt base w a ps := by
 obtain ⟨a, cap, e, _, hc⟩ := h.shape pcF_len
 refine ⟨a, cap, e, fun i hi => ?_⟩
 obtain ⟨g, rfl, hl, hcell⟩ := hc i hi
 exact ⟨g, 0, rfl, hl, by simpa [pcF] using hcell 0 (by omega), by simpa [pcF] using hcell 1 (by omega), by simpa [pcF] using hcell 2 (by omega), by simpa [pcF] using hcell 3 (by omega)⟩
theorem edRow_at {w : World} {base : Nat} {v : Value} {es : List Ed} (h : EdRow w base v es) : ∃ a cap, v = .slice a es.length cap ∧ EdsAt base w a es := by
 obtain ⟨a, cap, e, _, hc⟩ := h.shape edF_len
 refine ⟨a, cap, e, fun i hi => ?_⟩
 obtain ⟨g, rfl, hl, hcell⟩ := hc i hi
 exact ⟨g, 0, rfl, hl, by simpa [edF] using hcell 0 (by omega), by simpa [edF] using hcell 1 (by omega)⟩
theorem jtRow_at {w : World} {base : Nat} {v : Value} {js : List Jt} (h : JtRow w base v js) : ∃ a cap, v = .slice a js.length cap ∧ JtsAt base w a js := by
 obtain ⟨qs, rfl, h1, h2⟩ := h
 obtain ⟨a, cap, e, _, hc⟩ := h1.shape jvF_len
 refine ⟨a, cap, by simpa using e, fun i hi => ?_⟩
 have hi' : i < qs.length := by simpa using hi
 obtain ⟨g, rfl, hl, hcell⟩ := hc i hi'
 obtain ⟨ea, ec, he, hes⟩ := edRow_at (h2 qs[i] (List.getElem_mem hi'))
 have c2 : w.cell? ⟨g, i * 3 + 2, none⟩ = some (qs[i]).2 := by simpa [jvF] using hcell 2 (by omega)
 rw [he] at c2
 exact ⟨g, 0, ea, ec, rfl, hl, by simpa [jvF] using hcell 0 (by omega), by simpa [jvF] using hcell 1 (by omega), by simpa using c2, by simpa using hes⟩
theorem NetIn.at_ {w : World} {X base : Nat} {n : Nt} (h : NetIn w X base n) : ∃ u v, Boxed w X [u, v] ∧ NetAt base w (.agg #[u, v]) n := by
 obtain ⟨u, v, h1, h2, h3⟩ := h
 obtain ⟨a, cap, rfl, hp⟩ := pcRow_at h2
 obtain ⟨b, cap', rfl, hj⟩ := jtRow_at h3
 exact ⟨_, _, h1, a, b, cap, cap', rfl, hp, hj⟩
end Go.Proofs.YtjacbppeebnjfaaGreat

