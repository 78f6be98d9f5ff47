import Derived.Test.YtcmakcnkiekalabSpec
namespace Go.Proofs.Ytcmakcnkiekalab
open Go.RowKit

set_option maxHeartbeats 1000000 in
theorem l1uses_any (v : Value) (n : Nt) (p s : Int) (w : World) {L : Nat} (hv : NetAt L w v n) (hl' : n.joints.length ≤ 1048576) (hle : ∀ i (h : i < n.joints.length), n.joints[i].ends.length ≤ 1048576) :
    Calls Try.prog 136 #[v, .agg #[.int .i64 p, .int .i64 s]] w fun e w' => e = .returned (.int .i64 (uses n.joints p s)) ∧ Below w.heap.size w w' := by
  obtain ⟨a, c, ca, cc, rfl, hp, hj⟩ := hv
  go_enter Try.func136, Try.ntmps136
  go_wp2_with fail
  go_loopw [5, 13] (fun y x wr => ∃ k : Nat, k ≤ n.joints.length ∧ x = .int .i64 k ∧ y = .int .i64 (uses (n.joints.take k) p s)
    ∧ Boxed wr (w.heap.size + 1) [.int .i64 p, .int .i64 s] ∧ Below w.heap.size w wr) (fun _ x _ => n.joints.length - (intOf x).toNat)
  case atStart => exact ⟨0, Nat.zero_le _, rfl, by simp [uses], boxedN _ _ _ (by simp), (by repeat (first | with_reducible exact Below.refl _ _ | refine Below.setCell ?_ (by first | omega | (simp <;> omega) | (simp [World.setCell] <;> omega)) _ | refine Below.alloc ?_ (by first | omega | (simp <;> omega) | (simp [World.setCell] <;> omega)) _ | refine Below.drew ?_ | refine below_draws ?_ _ | exact Below.refl _ _))⟩
  case round =>
    obtain ⟨k, hk, rfl, rfl, hB2, hb⟩ := hrel
    have n2 := hB2.1
    by_cases hlt : k < n.joints.length
    · obtain ⟨b, off, ea, ec, rfl, hbs, c0, c1, c2, he⟩ := hj.below hb k hlt
      have hlen := hle k hlt
      have hu := uses_le n.joints p s 1048576 hle k hk
      have hus := hide (uses_succ n.joints p s k hlt)
      clear hle
      go_wp2_with fail
      go_loopw [5, 20] (fun y x wq => ∃ m : Nat, m ≤ n.joints[k].ends.length ∧ x = .int .i64 m ∧ y = .int .i64 ((uses (n.joints.take k) p s + usesIn (n.joints[k].ends.take m) p s : Nat) : Int)
        ∧ Boxed wq (w.heap.size + 1) [.int .i64 p, .int .i64 s] ∧ Below wr.heap.size wr wq) (fun _ x _ => n.joints[k].ends.length - (intOf x).toNat)
      case atStart => exact ⟨0, Nat.zero_le _, rfl, by simp [usesIn], hB2.below (by repeat (first | with_reducible exact Below.refl _ _ | refine Below.setCell ?_ (by first | omega | (simp <;> omega) | (simp [World.setCell] <;> omega)) _ | refine Below.alloc ?_ (by first | omega | (simp <;> omega) | (simp [World.setCell] <;> omega)) _ | refine Below.drew ?_ | refine below_draws ?_ _ | exact Below.refl _ _)), (by repeat (first | with_reducible exact Below.refl _ _ | refine Below.setCell ?_ (by first | omega | (simp <;> omega) | (simp [World.setCell] <;> omega)) _ | refine Below.alloc ?_ (by first | omega | (simp <;> omega) | (simp [World.setCell] <;> omega)) _ | refine Below.drew ?_ | refine below_draws ?_ _ | exact Below.refl _ _))⟩
      case round =>
        clear n2 hB2
        obtain ⟨m, hm, rfl, rfl, hB2, hb2⟩ := hrel
        have n2 := hB2.1
        have d0 := hB2.2.1 0 _ rfl
        have d1 := hB2.2.1 1 _ rfl
        by_cases hlt2 : m < n.joints[k].ends.length
        · obtain ⟨b2, off2, rfl, hbs2, e0, e1⟩ := he.below hb2 m hlt2
          have hui := usesIn_le (n.joints[k].ends.take m) p s
          have htl : (n.joints[k].ends.take m).length ≤ m := List.length_take_le _ _
          have huis := hide (usesIn_succ n.joints[k].ends p s m hlt2)
          go_wp2
          all_goals refine ⟨⟨m + 1, by omega, by go_num, congrArg (Value.int .i64) ?_, hB2.below (by repeat (first | with_reducible exact Below.refl _ _ | refine Below.setCell ?_ (by first | omega | (simp <;> omega) | (simp [World.setCell] <;> omega)) _ | refine Below.alloc ?_ (by first | omega | (simp <;> omega) | (simp [World.setCell] <;> omega)) _ | refine Below.drew ?_ | refine below_draws ?_ _ | exact Below.refl _ _)), Below.alloc hb2 hb2.size _⟩, by simp [intOf]; omega⟩
          all_goals rw [unhide huis]
          · rw [if_pos (by simp [isEd, *])]; omega
          · rw [if_neg (by simp [isEd, *])]; omega
          · rw [if_neg (by simp [isEd, *])]; omega
        · go_wp2
          refine ⟨⟨k + 1, by omega, by go_num, congrArg (Value.int .i64) ?_, hB2, below_then hb hb2⟩, by simp [intOf]; omega⟩
          have e1 : n.joints[k].ends.take m = n.joints[k].ends := List.take_of_length_le (by omega)
          rw [unhide hus, e1]
    · go_wp2
      go_ret
      have e2 : n.joints.take k = n.joints := List.take_of_length_le (by omega)
      exact ⟨by rw [e2]; rfl, hb⟩

end Go.Proofs.Ytcmakcnkiekalab
