import Derived.Test.YtbdggfpfpjijoabGreatDoorKt34
import Derived.Test.YtbdggfpfpjijoabGreatDoorEa
import Derived.Test.YtbdggfpfpjijoabGreatDoorMKt12
namespace Go.Proofs.YtbdggfpfpjijoabGreatDoor
open Go.RowKit

def OutOk (n : Nt) (zs : List Int) (t : Tr) (F : Int) : Prop := TrainRight n t ∧ LiesFit n.joints zs ∧ (0 ≤ F ∧ F ≤ 10000)
theorem isFar_any (F : Int) (w : World) : Calls Tryz.prog 96 #[.int .i64 F] w fun e w' => RetB (0 ≤ F ∧ F ≤ 10000) e ∧ w' = w := by
 go_enter Tryz.func96, Tryz.ntmps96
 by_cases h0 : 0 ≤ F
 ·by_cases h1 : F ≤ 10000
  ·go_wp2
   go_ret
   exact ⟨retB_true ⟨h0, h1⟩, rfl⟩
  ·go_wp2
   go_ret
   exact ⟨retB_false fun h => by omega, rfl⟩
 ·go_wp2
  go_ret
  exact ⟨retB_false fun h => by omega, rfl⟩

end Go.Proofs.YtbdggfpfpjijoabGreatDoor

namespace Go.Proofs.YtbdggfpfpjijoabGreatDoor
open Go.RowKit

theorem IntsAt.zero {L : Nat} {w : World} {a : Option Addr} {zs : List Int} (h : IntsAt L w a zs) : IntsAt 0 w a zs := fun i hi => by
 obtain ⟨b, off, e, hb, hc⟩ := h i hi
 exact ⟨b, off, e, ⟨Nat.zero_le _, hb.2⟩, hc⟩
theorem backOk_mv {n : Nt} {long : Int} : ∀ {xs : List St} {hv : Int} {at_ : St}, BackOk n long hv at_ xs → (∀ j, j < xs.length → hv + sumLen n (xs.take j) < long) ∧ long ≤ hv + sumLen n xs := by
 intro xs
 induction xs with
 | nil =>
  intro hv at_ h
  refine ⟨fun j hj => by simp at hj, ?_⟩
  have : long ≤ hv := h
  rw [sumLen_nil]
  omega
 | cons x r ih =>
  intro hv at_ h
  obtain ⟨h1, h2, h3, h4⟩ := h
  obtain ⟨i1, i2⟩ := ih h4
  refine ⟨fun j hj => ?_, by rw [sumLen_cons]; omega⟩
  cases j with
  | zero => simp [sumLen_nil]; omega
  | succ j =>
   rw [List.take_succ_cons, sumLen_cons]
   have := i1 j (by simpa using hj)
   omega

theorem fits_mv {n : Nt} {t : Tr} (h : TrainFits n t) {F : Int} (hF : 0 ≤ F) : MvOk n t.long F ⟨t.front, t.back, 0, []⟩ := by
 obtain ⟨h1, h2⟩ := backOk_mv h.2.2.2
 exact ⟨h.1, backOk_steps h.2.2.2, h.2.2.1, h1, h2, Int.le_refl _, hF, by simp⟩

theorem runIs_code {n : Nt} {zs : List Int} {long F : Int} {m0 m : Mv} {code joint : Int} (h : RunIs n zs long F m0 m code joint) : code = 0 → joint = -1 := by
 intro hc
 rcases h with ⟨_, _, h | ⟨_, _, i, r, _, h | h⟩⟩ | h
 ·exact h.2.2
 ·exact absurd (h.2.1 ▸ hc) h.1
 ·omega
 ·omega

def movedV (code far joint : Int) (s : Sp) (long : Int) (bk ov : Value) : Value := .agg #[.int .i64 code, .int .i64 far, .int .i64 joint, .int .i64 s.piece, .int .i64 s.at_, .int .i64 s.way, .int .i64 long, bk, ov]
end Go.Proofs.YtbdggfpfpjijoabGreatDoor

