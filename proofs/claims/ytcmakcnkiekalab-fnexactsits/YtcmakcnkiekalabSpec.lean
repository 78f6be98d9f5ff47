import Derived.Test.YtcmakcnkiekalabRows
import Derived.Test.YtcmakcnkiekalabAt
import Derived.WalkSpells
import Derived.BigQuiet
namespace Go.Proofs.Ytcmakcnkiekalab
open Go.RowKit

set_option maxHeartbeats 400000 in
theorem l1in_any (x a b : Int) (w : World) :
    Calls Try.prog 69 #[.int .i64 x, .int .i64 a, .int .i64 b] w fun e w' => RetB (a ≤ x ∧ x ≤ b) e ∧ w' = w := by
  by_cases h : a ≤ x
  · go_enter Try.func69, Try.ntmps69
    go_wp2
    go_ret
    exact ⟨retB_of (by simp; omega), rfl⟩
  · go_enter Try.func69, Try.ntmps69
    go_wp2
    go_ret
    exact ⟨retB_of (by simp; omega), rfl⟩

set_option maxHeartbeats 400000 in
theorem l1name_any (s : ByteArray) (w : World) (hs : s.size ≤ maxLen) :
    Calls Try.prog 134 #[.string s] w fun e w' => RetB (IsNm s) e ∧ w' = w := by
  unfold maxLen at hs
  go_enter Try.func134, Try.ntmps134
  go_wp2
  go_loop [3] (fun i => ∃ k : Nat, k ≤ s.size ∧ i = .int .i64 k ∧ ∀ j (h : j < s.size), j < k → IsNmB s[j]) (fun i => s.size - (intOf i).toNat)
  case atStart => exact ⟨0, Nat.zero_le _, rfl, fun j h h' => by omega⟩
  case round =>
    obtain ⟨k, hk, rfl, hall⟩ := hrel
    by_cases hlt : k < s.size
    · go_wp2
      all_goals first
        | (go_ret
           refine ⟨retB_false fun hn => ?_, rfl⟩
           have hx := hn.2.2 k hlt
           unfold IsNmB at hx
           simp at *
           omega)
        | (have hx : IsNmB s[k] := by
             unfold IsNmB
             simp at *
             omega
           refine ⟨⟨k + 1, by omega, by go_num, fun j h h' => ?_⟩, by simp [intOf]; omega⟩
           by_cases e : j = k
           · subst e; exact hx
           · exact hall j h (by omega))
    · by_cases h1 : 1 ≤ (s.size : Int)
      · go_wp2
        go_ret
        refine ⟨retB_of ?_, rfl⟩
        simp [IsNm]
        exact ⟨fun h => ⟨by omega, by omega, fun i hi => hall i hi (by omega)⟩, fun h => by omega⟩
      · go_wp2
        go_ret
        refine ⟨retB_false fun hn => ?_, rfl⟩
        have := hn.1
        omega

set_option maxHeartbeats 400000 in
theorem l1end_any (v : Value) (n : Nt) (p s : Int) (w : World) {L : Nat} (hv : NetAt L w v n) (hl : n.pieces.length ≤ 1048576) :
    Calls Try.prog 147 #[v, .agg #[.int .i64 p, .int .i64 s]] w fun e w' => RetB (EdFits n.pieces.length ⟨p, s⟩) e ∧ Below w.heap.size w w' := by
  obtain ⟨a, c, ca, cc, rfl, hp, hj⟩ := hv
  go_enter Try.func147, Try.ntmps147
  go_wp2_with fail
  refine (l1in_any _ _ _ _).mono ?_
  rintro e w1 ⟨⟨rfl, hr⟩ | ⟨rfl, hr⟩, rfl⟩
  · go_wp2_with fail
    refine (l1in_any _ _ _ _).mono ?_
    rintro e w1 ⟨⟨rfl, hr'⟩ | ⟨rfl, hr'⟩, rfl⟩
    · go_wp2
      go_ret
      exact ⟨retB_true ⟨⟨hr.1, by have := hr.2; simp at this ⊢; omega⟩, hr'⟩, (by repeat (first | with_reducible exact Below.refl _ _ | refine Below.setCell ?_ (by first | omega | (simp <;> omega) | (simp [World.setCell] <;> omega)) _ | refine Below.alloc ?_ (by first | omega | (simp <;> omega) | (simp [World.setCell] <;> omega)) _ | refine Below.drew ?_ | refine below_draws ?_ _ | exact Below.refl _ _))⟩
    · go_wp2
      go_ret
      exact ⟨retB_false fun h => hr' h.2, (by repeat (first | with_reducible exact Below.refl _ _ | refine Below.setCell ?_ (by first | omega | (simp <;> omega) | (simp [World.setCell] <;> omega)) _ | refine Below.alloc ?_ (by first | omega | (simp <;> omega) | (simp [World.setCell] <;> omega)) _ | refine Below.drew ?_ | refine below_draws ?_ _ | exact Below.refl _ _))⟩
  · go_wp2
    go_ret
    exact ⟨retB_false fun h => hr ⟨h.1.1, by have := h.1.2; simp at this ⊢; omega⟩, (by repeat (first | with_reducible exact Below.refl _ _ | refine Below.setCell ?_ (by first | omega | (simp <;> omega) | (simp [World.setCell] <;> omega)) _ | refine Below.alloc ?_ (by first | omega | (simp <;> omega) | (simp [World.setCell] <;> omega)) _ | refine Below.drew ?_ | refine below_draws ?_ _ | exact Below.refl _ _))⟩

/-- The answer of l1joint. -/
def JtCode (n : Nt) (i : Nat) (h : i < n.joints.length) (r : Int) : Prop :=
  (r = 3 ∧ ¬ JtFits n.pieces.length n.joints[i]) ∨ (JtFits n.pieces.length n.joints[i] ∧ ((r = 4 ∧ ¬ NmFits n.joints i h) ∨ (r = 0 ∧ NmFits n.joints i h)))

set_option maxHeartbeats 1000000 in
theorem l1joint_any (v : Value) (n : Nt) (i : Nat) (w : World) {L : Nat} (hv : NetAt L w v n) (hl : n.pieces.length ≤ 1048576) (hl' : n.joints.length ≤ 1048576) (hle : ∀ i (h : i < n.joints.length), n.joints[i].ends.length ≤ 1048576 ∧ n.joints[i].name.size ≤ maxLen) (hi : i < n.joints.length) :
    Calls Try.prog 135 #[v, .int .i64 i] w fun e w' => ∃ r : Int, e = .returned (.int .i64 r) ∧ JtCode n i hi r ∧ Below w.heap.size w w' := by
  have hvv := hv
  obtain ⟨a, c, ca, cc, rfl, hp, hj⟩ := hv
  obtain ⟨b, off, ea, ec, rfl, hbs, c0, c1, c2, he⟩ := hj i hi
  have hlen := (hle i hi).1
  have hnm := (hle i hi).2
  clear hle
  go_enter Try.func135, Try.ntmps135
  go_wp2_with fail
  refine (l1in_any _ _ _ _).mono ?_
  rintro e w1 ⟨⟨rfl, hr⟩ | ⟨rfl, hr⟩, rfl⟩
  · by_cases hkl : (n.joints[i].ends.length : Int) = n.joints[i].kind
    · have hkb : ((n.joints[i].ends.length : Int) != n.joints[i].kind) = false := by simpa using hkl
      have HKL := hide hkl
      clear hkl
      go_wp2_with fail
      go_loopw [29] (fun x wr => ∃ k : Nat, k ≤ n.joints[i].ends.length ∧ x = .int .i64 k ∧ (∀ j (h : j < n.joints[i].ends.length), j < k → EdFits n.pieces.length n.joints[i].ends[j])
        ∧ Boxed wr w.heap.size [.slice a n.pieces.length ca, .slice (some ⟨b, off, none⟩) n.joints.length cc] ∧ Boxed wr (w.heap.size + 1) [.int .i64 n.joints[i].kind, .string n.joints[i].name, .slice ea n.joints[i].ends.length ec] ∧ Below w.heap.size w wr) (fun x _ => n.joints[i].ends.length - (intOf x).toNat)
      case atStart => exact ⟨0, Nat.zero_le _, rfl, fun j h h' => by omega, (boxed_alloc _ _ _).below (by repeat (first | with_reducible exact Below.refl _ _ | refine Below.setCell ?_ (by first | omega | (simp <;> omega) | (simp [World.setCell] <;> omega)) _ | refine Below.alloc ?_ (by first | omega | (simp <;> omega) | (simp [World.setCell] <;> omega)) _ | refine Below.drew ?_ | refine below_draws ?_ _ | exact Below.refl _ _)), boxedN _ _ _ (by simp), (by repeat (first | with_reducible exact Below.refl _ _ | refine Below.setCell ?_ (by first | omega | (simp <;> omega) | (simp [World.setCell] <;> omega)) _ | refine Below.alloc ?_ (by first | omega | (simp <;> omega) | (simp [World.setCell] <;> omega)) _ | refine Below.drew ?_ | refine below_draws ?_ _ | exact Below.refl _ _))⟩
      case round =>
        obtain ⟨k, hk, rfl, hall, hB1, hB2, hb⟩ := hrel
        have b0 := hB1.2.1 0 _ rfl
        have b1 := hB1.2.1 1 _ rfl
        have d0 := hB2.2.1 0 _ rfl
        have d1 := hB2.2.1 1 _ rfl
        have n1 := hB1.1
        have n2 := hB2.1
        by_cases hlt : k < n.joints[i].ends.length
        · obtain ⟨b2, off2, rfl, hbs2, e0, e1⟩ := he.below hb k hlt
          go_wp2_with fail
          refine (l1end_any _ n _ _ _ (L := L) ?hA hl).mono ?_
          case hA => exact hvv.below (by repeat (first | with_reducible exact Below.refl _ _ | with_reducible exact hb | refine Below.setCell ?_ (by first | omega | (simp <;> omega) | (simp [World.setCell] <;> omega)) _ | refine Below.alloc ?_ (by first | omega | (simp <;> omega) | (simp [World.setCell] <;> omega)) _ | refine Below.drew ?_ | refine below_draws ?_ _ | exact hb | exact Below.refl _ _))
          rintro e w1 ⟨⟨rfl, hr'⟩ | ⟨rfl, hr'⟩, hb1⟩
          · have hb2 : Below wr.heap.size wr w1 := Below.trans (by repeat (first | with_reducible exact Below.refl _ _ | refine Below.setCell ?_ (by first | omega | (simp <;> omega) | (simp [World.setCell] <;> omega)) _ | refine Below.alloc ?_ (by first | omega | (simp <;> omega) | (simp [World.setCell] <;> omega)) _ | refine Below.drew ?_ | refine below_draws ?_ _ | exact Below.refl _ _)) (hb1.mono (by simp))
            go_wp2
            go_roundw
            case rel =>
              refine ⟨k + 1, by omega, by go_num, fun j h h' => ?_, hB1.below hb2, hB2.below hb2, below_then hb hb2⟩
              by_cases e : j = k
              · subst e; exact hr'
              · exact hall j h (by omega)
            case measure => simp [intOf]; omega
          · have hb2 : Below wr.heap.size wr w1 := Below.trans (by repeat (first | with_reducible exact Below.refl _ _ | refine Below.setCell ?_ (by first | omega | (simp <;> omega) | (simp [World.setCell] <;> omega)) _ | refine Below.alloc ?_ (by first | omega | (simp <;> omega) | (simp [World.setCell] <;> omega)) _ | refine Below.drew ?_ | refine below_draws ?_ _ | exact Below.refl _ _)) (hb1.mono (by simp))
            go_wp2
            go_ret
            exact ⟨3, rfl, Or.inl ⟨rfl, fun h => hr' (h.2.2 k hlt)⟩, below_then hb hb2⟩
        · have hfit : Hid (JtFits n.pieces.length n.joints[i]) := ⟨hr, unhide HKL, fun j h => hall j h (by omega)⟩
          clear hall
          by_cases hk3 : n.joints[i].kind < 3
          · cases hne : n.joints[i].name.toList.isEmpty
            · go_wp2
              go_ret
              exact ⟨4, rfl, Or.inr ⟨unhide hfit, Or.inl ⟨rfl, fun h => by rw [(empty_iff _).2 (h.1 hk3)] at hne; simp at hne⟩⟩, hb⟩
            · go_wp2
              go_ret
              exact ⟨0, rfl, Or.inr ⟨unhide hfit, Or.inr ⟨rfl, fun _ => (empty_iff _).1 hne, fun h => absurd hk3 h⟩⟩, hb⟩
          · go_wp2_with fail
            refine (l1name_any _ _ hnm).mono ?_
            rintro e w1 ⟨⟨rfl, hr'⟩ | ⟨rfl, hr'⟩, rfl⟩
            · go_wp2_with fail
              go_loopw [8] (fun x wr => ∃ k2 : Nat, k2 ≤ i ∧ x = .int .i64 k2 ∧ (∀ j (h : j < i), j < k2 → n.joints[j].name ≠ n.joints[i].name)
                ∧ Boxed wr w.heap.size [.slice a n.pieces.length ca, .slice (some ⟨b, off, none⟩) n.joints.length cc] ∧ Boxed wr (w.heap.size + 1) [.int .i64 n.joints[i].kind, .string n.joints[i].name, .slice ea n.joints[i].ends.length ec] ∧ Below w.heap.size w wr) (fun x _ => i - (intOf x).toNat)
              case atStart => exact ⟨0, Nat.zero_le _, rfl, fun j h h' => by omega, hB1, hB2, hb⟩
              case round =>
                clear b0 b1 d0 d1 n1 n2 hB1 hB2 hb
                obtain ⟨k2, hk2, rfl, hall, hB1, hB2, hb⟩ := hrel
                have b0 := hB1.2.1 0 _ rfl
                have b1 := hB1.2.1 1 _ rfl
                have d0 := hB2.2.1 0 _ rfl
                have d1 := hB2.2.1 1 _ rfl
                by_cases hlt2 : k2 < i
                · obtain ⟨b', off', ea', ec', hbo, hbs', g0, g1, g2, _⟩ := hj.below hb k2 (by omega)
                  obtain ⟨rfl, rfl⟩ : b = b' ∧ off = off' := by simpa using hbo
                  have hk2l : k2 < n.joints.length := by omega
                  go_wp2_with fail
                  go_quiet (fail)
                  cases hq : (n.joints[k2].name.toList == n.joints[i].name.toList)
                  · go_wp2
                    go_roundw
                    case rel =>
                      refine ⟨k2 + 1, by omega, by go_num, fun j h h' => ?_, hB1.below (below_draws (Below.refl _ _) _), hB2.below (below_draws (Below.refl _ _) _), below_draws hb _⟩
                      by_cases e : j = k2
                      · subst e; exact (other_iff _ _).1 hq
                      · exact hall j h (by omega)
                    case measure => simp [intOf]; omega
                  · go_wp2
                    go_ret
                    exact ⟨4, rfl, Or.inr ⟨unhide hfit, Or.inl ⟨rfl, fun h => (h.2 (by omega)).2 k2 hlt2 ((same_iff _ _).1 hq)⟩⟩, below_draws hb _⟩
                · go_wp2
                  go_ret
                  exact ⟨0, rfl, Or.inr ⟨unhide hfit, Or.inr ⟨rfl, fun h => by omega, fun _ => ⟨hr', fun j hj' => hall j hj' (by omega)⟩⟩⟩, hb⟩
            · go_wp2
              go_ret
              exact ⟨4, rfl, Or.inr ⟨unhide hfit, Or.inl ⟨rfl, fun h => hr' (h.2 (by omega)).1⟩⟩, hb⟩
    · have hkb : ((n.joints[i].ends.length : Int) != n.joints[i].kind) = true := by simpa using hkl
      have HKL := hide hkl
      clear hkl
      go_wp2
      go_ret
      exact ⟨3, rfl, Or.inl ⟨rfl, fun h => unhide HKL h.2.1⟩, (by repeat (first | with_reducible exact Below.refl _ _ | refine Below.setCell ?_ (by first | omega | (simp <;> omega) | (simp [World.setCell] <;> omega)) _ | refine Below.alloc ?_ (by first | omega | (simp <;> omega) | (simp [World.setCell] <;> omega)) _ | refine Below.drew ?_ | refine below_draws ?_ _ | exact Below.refl _ _))⟩
  · go_wp2
    go_ret
    exact ⟨3, rfl, Or.inl ⟨rfl, fun h => hr h.1⟩, (by repeat (first | with_reducible exact Below.refl _ _ | refine Below.setCell ?_ (by first | omega | (simp <;> omega) | (simp [World.setCell] <;> omega)) _ | refine Below.alloc ?_ (by first | omega | (simp <;> omega) | (simp [World.setCell] <;> omega)) _ | refine Below.drew ?_ | refine below_draws ?_ _ | exact Below.refl _ _))⟩
end Go.Proofs.Ytcmakcnkiekalab
