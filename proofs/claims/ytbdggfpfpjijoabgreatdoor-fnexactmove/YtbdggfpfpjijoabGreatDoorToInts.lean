import Derived.Test.YtbdggfpfpjijoabGreatDoorG5
import Derived.Test.YtbdggfpfpjijoabGreatDoorG6
namespace Go.Proofs.YtbdggfpfpjijoabGreatDoor
open Go.RowKit

set_option maxHeartbeats 400000 in
theorem toIntS_own (a : Option Addr) (zs : List Int) (cap : Nat) (w : World) (hl : zs.length ≤ 1048576) {L : Nat} (hp : IntsAt L w a zs) :
    Calls Tryz.prog 10 #[.slice a zs.length cap] w fun e w' =>
      ∃ b f, e = .returned (.slice (some ⟨b, 0, none⟩) zs.length zs.length) ∧ IntsAt w.heap.size w' (some ⟨b, 0, none⟩) zs ∧ OwnL w' (some ⟨b, 0, none⟩) zs.length f ∧ (w.heap.size ≤ b ∧ b < w'.heap.size) ∧ Below w.heap.size w w' := by
  have hmk := run_make_rows (P := Tryz.prog) 26 3 _ 1 8 (by kernel_rfl) info_Int zs.length (by omega) hl
  go_enter Tryz.func10, Tryz.ntmps10
  go_wp2
  go_loopw [4] (fun i wr => ∃ (k : Nat) (f : Nat → Value), k ≤ zs.length ∧ i = .int .i64 k ∧ wr.rowIs w.heap.size 3 (zs.length * 1) f ∧ (∀ i (h : i < zs.length), i < k → f i = .int .i64 zs[i]) ∧ Below w.heap.size w wr) (fun i _ => zs.length - (intOf i).toNat)
  case atStart => exact ⟨0, _, Nat.zero_le _, rfl, by simpa using row_made _ _ (zs.length * 1) _, fun i h h' => by omega, (Below.refl _ _).alloc (Nat.le_refl _) _⟩
  case round =>
    obtain ⟨k, f, hk, rfl, hrow, hf, hb⟩ := hrel
    clear hmk
    by_cases hlt : k < zs.length
    · obtain ⟨b, off, rfl, hbs, c0⟩ := hp.below hb k hlt
      have z0 := hrow.frozen k
      have y0 := hrow.cell (i := k) (by omega)
      have HR := hide hrow
      clear hrow
      go_wp2
      go_roundw
      case rel =>
        refine ⟨k + 1, _, by omega, by go_num, (unhide HR).set _ _, ?_, Below.setCell hb (by simp) _⟩
        intro i h h'
        by_cases e : i = k
        · subst e
          simp
        · rw [if_neg (by omega)]
          exact hf i h (by omega)
      case measure => simp [intOf]; omega
    · obtain rfl : k = zs.length := by omega
      go_wp2
      go_ret
      refine ⟨_, f, rfl, fun i h => ?_, fun _ => ⟨_, 0, rfl, ?_⟩, ⟨Nat.le_refl _, hrow.lt⟩, hb⟩
      · exact ⟨_, 0, rfl, ⟨Nat.le_refl _, hrow.lt⟩, by rw [← hf i h h, hrow.cell (by omega)]; simp⟩
      · have := own_row hrow
        rwa [Nat.mul_one] at this
end Go.Proofs.YtbdggfpfpjijoabGreatDoor

