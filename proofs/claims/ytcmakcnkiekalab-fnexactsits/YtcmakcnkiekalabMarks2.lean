import Derived.Test.YtcmakcnkiekalabMarks
namespace Go.Proofs.Ytcmakcnkiekalab
open Go.RowKit

set_option maxHeartbeats 400000 in
theorem markEndS_any (a : Option Addr) (n cap : Nat) (k0 : Int) (f : Nat → Value) (w : World) (hn : n ≤ 1048576) (h0 : 0 ≤ k0) (h1 : k0 ≤ 1000000000000000) (ho : OwnL w a (n * 2) f) :
    Calls Try.prog 117 #[.slice a n cap, .int .i64 k0] w fun e w' => e = .returned (.int .i64 (k0 + (n * 2 : Nat))) ∧ OwnL w' a (n * 2) (marks k0) ∧ Only (blk a) w w' := by
  go_enter Try.func117, Try.ntmps117
  go_wp2
  go_loopw [1, 5] (fun y x wr => ∃ k : Nat, k ≤ n ∧ x = .int .i64 k ∧ y = .int .i64 (k0 + (k * 2 : Nat)) ∧ OwnL wr a (n * 2) (fun j => if j < k * 2 then marks k0 j else f j) ∧ Only (blk a) w wr) (fun _ x _ => n - (intOf x).toNat)
  case atStart => exact ⟨0, Nat.zero_le _, rfl, by simp, by simpa using ho, only_refl _ _⟩
  case round =>
    obtain ⟨k, hk, rfl, rfl, hO, hon⟩ := hrel
    by_cases hlt : k < n
    · obtain ⟨b, off, rfl, hC⟩ := hO (by omega)
      have y0 := (hC.2 (k * 2) (by omega)).1
      have z0 := (hC.2 (k * 2) (by omega)).2
      have y1 := (hC.2 (k * 2 + 1) (by omega)).1
      have z1 := (hC.2 (k * 2 + 1) (by omega)).2
      simp only [← Nat.add_assoc] at y0 z0 y1 z1
      have HC := hide hC
      clear hC
      go_wp2
      refine ⟨⟨k + 1, by omega, by go_num, congrArg (Value.int .i64) (by omega), fun _ => ⟨b, off, rfl, ?_⟩, ((hon.trans (only_setCell _ ⟨b, off, rfl, rfl⟩ _)).trans (only_setCell _ ⟨b, off, rfl, rfl⟩ _))⟩, by simp [intOf]; omega⟩
      refine OwnC.congr (f := ?f) ?h1 fun j hj => ?h2
      case h1 => exact (((unhide HC).set (i := k * 2) (by omega) _).set (i := k * 2 + 1) (by omega) _)
      case h2 =>
        by_cases e2 : j < k * 2
        · (repeat rw [if_neg (by omega)])
          rw [if_pos e2, if_pos (by omega)]
        · by_cases e3 : j < (k + 1) * 2
          · have hj3 : j = k * 2 ∨ j = k * 2 + 1 := by omega
            rw [if_pos e3]
            rcases hj3 with rfl | rfl
            all_goals (simp [marks] <;> omega)
          · (repeat rw [if_neg (by omega)])
    · obtain rfl : k = n := by omega
      go_wp2
      go_ret
      refine ⟨rfl, fun hp => ?_, hon⟩
      obtain ⟨b, off, ha, hC⟩ := hO hp
      exact ⟨b, off, ha, hC.congr fun j hj => by simp [hj]⟩

set_option maxHeartbeats 400000 in
theorem markStepS_any (a : Option Addr) (n cap : Nat) (k0 : Int) (f : Nat → Value) (w : World) (hn : n ≤ 1048576) (h0 : 0 ≤ k0) (h1 : k0 ≤ 1000000000000000) (ho : OwnL w a (n * 2) f) :
    Calls Try.prog 74 #[.slice a n cap, .int .i64 k0] w fun e w' => e = .returned (.int .i64 (k0 + (n * 2 : Nat))) ∧ OwnL w' a (n * 2) (marks k0) ∧ Only (blk a) w w' := by
  go_enter Try.func74, Try.ntmps74
  go_wp2
  go_loopw [1, 5] (fun y x wr => ∃ k : Nat, k ≤ n ∧ x = .int .i64 k ∧ y = .int .i64 (k0 + (k * 2 : Nat)) ∧ OwnL wr a (n * 2) (fun j => if j < k * 2 then marks k0 j else f j) ∧ Only (blk a) w wr) (fun _ x _ => n - (intOf x).toNat)
  case atStart => exact ⟨0, Nat.zero_le _, rfl, by simp, by simpa using ho, only_refl _ _⟩
  case round =>
    obtain ⟨k, hk, rfl, rfl, hO, hon⟩ := hrel
    by_cases hlt : k < n
    · obtain ⟨b, off, rfl, hC⟩ := hO (by omega)
      have y0 := (hC.2 (k * 2) (by omega)).1
      have z0 := (hC.2 (k * 2) (by omega)).2
      have y1 := (hC.2 (k * 2 + 1) (by omega)).1
      have z1 := (hC.2 (k * 2 + 1) (by omega)).2
      simp only [← Nat.add_assoc] at y0 z0 y1 z1
      have HC := hide hC
      clear hC
      go_wp2
      refine ⟨⟨k + 1, by omega, by go_num, congrArg (Value.int .i64) (by omega), fun _ => ⟨b, off, rfl, ?_⟩, ((hon.trans (only_setCell _ ⟨b, off, rfl, rfl⟩ _)).trans (only_setCell _ ⟨b, off, rfl, rfl⟩ _))⟩, by simp [intOf]; omega⟩
      refine OwnC.congr (f := ?f) ?h1 fun j hj => ?h2
      case h1 => exact (((unhide HC).set (i := k * 2) (by omega) _).set (i := k * 2 + 1) (by omega) _)
      case h2 =>
        by_cases e2 : j < k * 2
        · (repeat rw [if_neg (by omega)])
          rw [if_pos e2, if_pos (by omega)]
        · by_cases e3 : j < (k + 1) * 2
          · have hj3 : j = k * 2 ∨ j = k * 2 + 1 := by omega
            rw [if_pos e3]
            rcases hj3 with rfl | rfl
            all_goals (simp [marks] <;> omega)
          · (repeat rw [if_neg (by omega)])
    · obtain rfl : k = n := by omega
      go_wp2
      go_ret
      refine ⟨rfl, fun hp => ?_, hon⟩
      obtain ⟨b, off, ha, hC⟩ := hO hp
      exact ⟨b, off, ha, hC.congr fun j hj => by simp [hj]⟩

set_option maxHeartbeats 400000 in
theorem markPartS_any (a : Option Addr) (n cap : Nat) (k0 : Int) (f : Nat → Value) (w : World) (hn : n ≤ 1048576) (h0 : 0 ≤ k0) (h1 : k0 ≤ 1000000000000000) (ho : OwnL w a (n * 3) f) :
    Calls Try.prog 40 #[.slice a n cap, .int .i64 k0] w fun e w' => e = .returned (.int .i64 (k0 + (n * 3 : Nat))) ∧ OwnL w' a (n * 3) (marks k0) ∧ Only (blk a) w w' := by
  go_enter Try.func40, Try.ntmps40
  go_wp2
  go_loopw [1, 5] (fun y x wr => ∃ k : Nat, k ≤ n ∧ x = .int .i64 k ∧ y = .int .i64 (k0 + (k * 3 : Nat)) ∧ OwnL wr a (n * 3) (fun j => if j < k * 3 then marks k0 j else f j) ∧ Only (blk a) w wr) (fun _ x _ => n - (intOf x).toNat)
  case atStart => exact ⟨0, Nat.zero_le _, rfl, by simp, by simpa using ho, only_refl _ _⟩
  case round =>
    obtain ⟨k, hk, rfl, rfl, hO, hon⟩ := hrel
    by_cases hlt : k < n
    · obtain ⟨b, off, rfl, hC⟩ := hO (by omega)
      have y0 := (hC.2 (k * 3) (by omega)).1
      have z0 := (hC.2 (k * 3) (by omega)).2
      have y1 := (hC.2 (k * 3 + 1) (by omega)).1
      have z1 := (hC.2 (k * 3 + 1) (by omega)).2
      have y2 := (hC.2 (k * 3 + 2) (by omega)).1
      have z2 := (hC.2 (k * 3 + 2) (by omega)).2
      simp only [← Nat.add_assoc] at y0 z0 y1 z1 y2 z2
      have HC := hide hC
      clear hC
      go_wp2
      refine ⟨⟨k + 1, by omega, by go_num, congrArg (Value.int .i64) (by omega), fun _ => ⟨b, off, rfl, ?_⟩, (((hon.trans (only_setCell _ ⟨b, off, rfl, rfl⟩ _)).trans (only_setCell _ ⟨b, off, rfl, rfl⟩ _)).trans (only_setCell _ ⟨b, off, rfl, rfl⟩ _))⟩, by simp [intOf]; omega⟩
      refine OwnC.congr (f := ?f) ?h1 fun j hj => ?h2
      case h1 => exact ((((unhide HC).set (i := k * 3) (by omega) _).set (i := k * 3 + 1) (by omega) _).set (i := k * 3 + 2) (by omega) _)
      case h2 =>
        by_cases e2 : j < k * 3
        · (repeat rw [if_neg (by omega)])
          rw [if_pos e2, if_pos (by omega)]
        · by_cases e3 : j < (k + 1) * 3
          · have hj3 : j = k * 3 ∨ j = k * 3 + 1 ∨ j = k * 3 + 2 := by omega
            rw [if_pos e3]
            rcases hj3 with rfl | rfl | rfl
            all_goals (simp [marks] <;> omega)
          · (repeat rw [if_neg (by omega)])
    · obtain rfl : k = n := by omega
      go_wp2
      go_ret
      refine ⟨rfl, fun hp => ?_, hon⟩
      obtain ⟨b, off, ha, hC⟩ := hO hp
      exact ⟨b, off, ha, hC.congr fun j hj => by simp [hj]⟩

set_option maxHeartbeats 400000 in
theorem heldStepS_any (a : Option Addr) (n cap : Nat) (k0 : Int) (w : World) (hn : n ≤ 1048576) (h0 : 0 ≤ k0) (h1 : k0 ≤ 1000000000000000) (ho : OwnL w a (n * 2) (marks k0)) :
    Calls Try.prog 118 #[.slice a n cap, .int .i64 k0] w fun e w' => e = .returned (.int .i64 (k0 + (n * 2 : Nat))) ∧ w' = w := by
  go_enter Try.func118, Try.ntmps118
  go_wp2
  go_loop [1, 5] (fun y x => ∃ k : Nat, k ≤ n ∧ x = .int .i64 k ∧ y = .int .i64 (k0 + (k * 2 : Nat))) (fun _ x => n - (intOf x).toNat)
  case atStart => exact ⟨0, Nat.zero_le _, rfl, by simp⟩
  case round =>
    obtain ⟨k, hk, rfl, rfl⟩ := hrel
    by_cases hlt : k < n
    · obtain ⟨b, off, rfl, hC⟩ := ho (by omega)
      have y0 := (hC.2 (k * 2) (by omega)).1
      have y1 := (hC.2 (k * 2 + 1) (by omega)).1
      simp only [← Nat.add_assoc] at y0 y1
      rw [show marks k0 (k * 2) = .int .i64 (k0 + ((k * 2 : Nat) : Int)) from congrArg (Value.int .i64) (by omega)] at y0
      rw [show marks k0 (k * 2 + 1) = .int .i64 (k0 + ((k * 2 : Nat) : Int) + 1) from congrArg (Value.int .i64) (by omega)] at y1
      clear hC
      go_wp2
      exact ⟨⟨k + 1, by omega, by go_num, congrArg (Value.int .i64) (by omega)⟩, by simp [intOf]; omega⟩
    · obtain rfl : k = n := by omega
      go_wp2
      go_ret
      exact ⟨rfl, rfl⟩



end Go.Proofs.Ytcmakcnkiekalab
