import Derived.Test.YtjacbppeebnjfaaGreatRows
import Derived.Test.YtjacbppeebnjfaaGreatMPlain
import Derived.WalkSpells
import Derived.BigQuiet
import Derived.Deep.RegionWith
import Derived.Test.YtjacbppeebnjfaaGreatMRead
namespace Go.Proofs.YtjacbppeebnjfaaGreat
open Go.RowKit

end Go.Proofs.YtjacbppeebnjfaaGreat
namespace Go.Proofs.YtjacbppeebnjfaaGreat
open Go.RowKit

set_option maxHeartbeats 400000 in
theorem l1in_any (x a b : Int) (w : World) :
    Calls Tryz.prog 26 #[.int .i64 x, .int .i64 a, .int .i64 b] w fun e w' => RetB (a ≤ x ∧ x ≤ b) e ∧ w' = w := by
  by_cases h : a ≤ x
  · go_enter Tryz.func26, Tryz.ntmps26
    go_wp2
    go_ret
    exact ⟨retB_of (by simp; omega), rfl⟩
  · go_enter Tryz.func26, Tryz.ntmps26
    go_wp2
    go_ret
    exact ⟨retB_of (by simp; omega), rfl⟩

set_option maxHeartbeats 400000 in
theorem l1name_any (s : ByteArray) (w : World) (hs : s.size ≤ maxLen) :
    Calls Tryz.prog 96 #[.string s] w fun e w' => RetB (IsNm s) e ∧ w' = w := by
  unfold maxLen at hs
  go_enter Tryz.func96, Tryz.ntmps96
  go_wp2
  go_loop [3] (fun i => ∃ k : Nat, k ≤ s.size ∧ i = .int .i64 k ∧ ∀ j (h : j < s.size), j < k → IsNmB s[j]) (fun i => s.size - (intOf i).toNat)
  case atStart => exact ⟨0, Nat.zero_le _, rfl, fun j h h' => by omega⟩
  case round =>
    obtain ⟨k, hk, rfl, hall⟩ := hrel
    by_cases hlt : k < s.size
    · go_wp2
      all_goals first
        | (go_ret
           refine ⟨retB_false fun hn => ?_, rfl⟩
           have hx := hn.2.2 k hlt
           unfold IsNmB at hx
           simp at *
           omega)
        | (have hx : IsNmB s[k] := by
             unfold IsNmB
             simp at *
             omega
           refine ⟨⟨k + 1, by omega, by go_num, fun j h h' => ?_⟩, by simp [intOf]; omega⟩
           by_cases e : j = k
           · subst e; exact hx
           · exact hall j h (by omega))
    · by_cases h1 : 1 ≤ (s.size : Int)
      · go_wp2
        go_ret
        refine ⟨retB_of ?_, rfl⟩
        simp [IsNm]
        exact ⟨fun h => ⟨by omega, by omega, fun i hi => hall i hi (by omega)⟩, fun h => by omega⟩
      · go_wp2
        go_ret
        refine ⟨retB_false fun hn => ?_, rfl⟩
        have := hn.1
        omega

set_option maxHeartbeats 400000 in
theorem l1end_any (v : Value) (n : Nt) (p s : Int) (w : World) {L : Nat} (hv : NetAt L w v n) (hl : n.pieces.length ≤ 1048576) :
    Calls Tryz.prog 120 #[v, .agg #[.int .i64 p, .int .i64 s]] w fun e w' => RetB (EdFits n.pieces.length ⟨p, s⟩) e ∧ Below w.heap.size w w' := by
  obtain ⟨a, c, ca, cc, rfl, hp, hj⟩ := hv
  go_enter Tryz.func120, Tryz.ntmps120
  go_wp2_with fail
  refine (l1in_any _ _ _ _).mono ?_
  rintro e w1 ⟨⟨rfl, hr⟩ | ⟨rfl, hr⟩, rfl⟩
  · go_wp2_with fail
    refine (l1in_any _ _ _ _).mono ?_
    rintro e w1 ⟨⟨rfl, hr'⟩ | ⟨rfl, hr'⟩, rfl⟩
    · go_wp2
      go_ret
      exact ⟨retB_true ⟨⟨hr.1, by have := hr.2; simp at this ⊢; omega⟩, hr'⟩, bw0⟩
    · go_wp2
      go_ret
      exact ⟨retB_false fun h => hr' h.2, bw0⟩
  · go_wp2
    go_ret
    exact ⟨retB_false fun h => hr ⟨h.1.1, by have := h.1.2; simp at this ⊢; omega⟩, bw0⟩

def JtCode (n : Nt) (i : Nat) (h : i < n.joints.length) (r : Int) : Prop :=
  (r = 3 ∧ ¬ JtFits n.pieces.length n.joints[i]) ∨ (JtFits n.pieces.length n.joints[i] ∧ ((r = 4 ∧ ¬ NmFits n.joints i h) ∨ (r = 0 ∧ NmFits n.joints i h)))

set_option maxHeartbeats 1000000 in
theorem l1joint_any (v : Value) (n : Nt) (i : Nat) (w : World) {L : Nat} (hv : NetAt L w v n) (hl : n.pieces.length ≤ 1048576) (hl' : n.joints.length ≤ 1048576) (hle : ∀ i (h : i < n.joints.length), n.joints[i].ends.length ≤ 1048576 ∧ n.joints[i].name.size ≤ maxLen) (hi : i < n.joints.length) :
    Calls Tryz.prog 97 #[v, .int .i64 i] w fun e w' => ∃ r : Int, e = .returned (.int .i64 r) ∧ JtCode n i hi r ∧ Below w.heap.size w w' := by
  have hvv := hv
  obtain ⟨a, c, ca, cc, rfl, hp, hj⟩ := hv
  obtain ⟨b, off, ea, ec, rfl, hbs, c0, c1, c2, he⟩ := hj i hi
  have hlen := (hle i hi).1
  have hnm := (hle i hi).2
  clear hle
  go_enter Tryz.func97, Tryz.ntmps97
  go_wp2_with fail
  refine (l1in_any _ _ _ _).mono ?_
  rintro e w1 ⟨⟨rfl, hr⟩ | ⟨rfl, hr⟩, rfl⟩
  · by_cases hkl : (n.joints[i].ends.length : Int) = n.joints[i].kind
    · have hkb : ((n.joints[i].ends.length : Int) != n.joints[i].kind) = false := by simpa using hkl
      have HKL := hide hkl
      clear hkl
      go_wp2_with fail
      go_loopw [29] (fun x wr => ∃ k : Nat, k ≤ n.joints[i].ends.length ∧ x = .int .i64 k ∧ (∀ j (h : j < n.joints[i].ends.length), j < k → EdFits n.pieces.length n.joints[i].ends[j])
        ∧ Boxed wr w.heap.size [.slice a n.pieces.length ca, .slice (some ⟨b, off, none⟩) n.joints.length cc] ∧ Boxed wr (w.heap.size + 1) [.int .i64 n.joints[i].kind, .string n.joints[i].name, .slice ea n.joints[i].ends.length ec] ∧ Below w.heap.size w wr) (fun x _ => n.joints[i].ends.length - (intOf x).toNat)
      case atStart => exact ⟨0, Nat.zero_le _, rfl, fun j h h' => by omega, (boxed_alloc _ _ _).below bw0, boxedN _ _ _ (by simp), bw0⟩
      case round =>
        obtain ⟨k, hk, rfl, hall, hB1, hB2, hb⟩ := hrel
        have b0 := hB1.2.1 0 _ rfl
        have b1 := hB1.2.1 1 _ rfl
        have d0 := hB2.2.1 0 _ rfl
        have d1 := hB2.2.1 1 _ rfl
        have n1 := hB1.1
        have n2 := hB2.1
        by_cases hlt : k < n.joints[i].ends.length
        · obtain ⟨b2, off2, rfl, hbs2, e0, e1⟩ := he.below hb k hlt
          go_wp2_with fail
          refine (l1end_any _ n _ _ _ (L := L) ?hA hl).mono ?_
          case hA => exact hvv.below (bw1 hb)
          rintro e w1 ⟨⟨rfl, hr'⟩ | ⟨rfl, hr'⟩, hb1⟩
          · have hb2 : Below wr.heap.size wr w1 := Below.trans bw0 (hb1.mono (by simp))
            go_wp2
            go_roundw
            case rel =>
              refine ⟨k + 1, by omega, by go_num, fun j h h' => ?_, hB1.below hb2, hB2.below hb2, below_then hb hb2⟩
              by_cases e : j = k
              · subst e; exact hr'
              · exact hall j h (by omega)
            case measure => simp [intOf]; omega
          · have hb2 : Below wr.heap.size wr w1 := Below.trans bw0 (hb1.mono (by simp))
            go_wp2
            go_ret
            exact ⟨3, rfl, Or.inl ⟨rfl, fun h => hr' (h.2.2 k hlt)⟩, below_then hb hb2⟩
        · have hfit : Hid (JtFits n.pieces.length n.joints[i]) := ⟨hr, unhide HKL, fun j h => hall j h (by omega)⟩
          clear hall
          by_cases hk3 : n.joints[i].kind < 3
          · cases hne : n.joints[i].name.toList.isEmpty
            · go_wp2
              go_ret
              exact ⟨4, rfl, Or.inr ⟨unhide hfit, Or.inl ⟨rfl, fun h => by rw [(empty_iff _).2 (h.1 hk3)] at hne; simp at hne⟩⟩, hb⟩
            · go_wp2
              go_ret
              exact ⟨0, rfl, Or.inr ⟨unhide hfit, Or.inr ⟨rfl, fun _ => (empty_iff _).1 hne, fun h => absurd hk3 h⟩⟩, hb⟩
          · go_wp2_with fail
            refine (l1name_any _ _ hnm).mono ?_
            rintro e w1 ⟨⟨rfl, hr'⟩ | ⟨rfl, hr'⟩, rfl⟩
            · go_wp2_with fail
              go_loopw [8] (fun x wr => ∃ k2 : Nat, k2 ≤ i ∧ x = .int .i64 k2 ∧ (∀ j (h : j < i), j < k2 → n.joints[j].name ≠ n.joints[i].name)
                ∧ Boxed wr w.heap.size [.slice a n.pieces.length ca, .slice (some ⟨b, off, none⟩) n.joints.length cc] ∧ Boxed wr (w.heap.size + 1) [.int .i64 n.joints[i].kind, .string n.joints[i].name, .slice ea n.joints[i].ends.length ec] ∧ Below w.heap.size w wr) (fun x _ => i - (intOf x).toNat)
              case atStart => exact ⟨0, Nat.zero_le _, rfl, fun j h h' => by omega, hB1, hB2, hb⟩
              case round =>
                clear b0 b1 d0 d1 n1 n2 hB1 hB2 hb
                obtain ⟨k2, hk2, rfl, hall, hB1, hB2, hb⟩ := hrel
                have b0 := hB1.2.1 0 _ rfl
                have b1 := hB1.2.1 1 _ rfl
                have d0 := hB2.2.1 0 _ rfl
                have d1 := hB2.2.1 1 _ rfl
                by_cases hlt2 : k2 < i
                · obtain ⟨b', off', ea', ec', hbo, hbs', g0, g1, g2, _⟩ := hj.below hb k2 (by omega)
                  obtain ⟨rfl, rfl⟩ : b = b' ∧ off = off' := by simpa using hbo
                  have hk2l : k2 < n.joints.length := by omega
                  go_wp2_with fail
                  go_quiet (fail)
                  cases hq : (n.joints[k2].name.toList == n.joints[i].name.toList)
                  · go_wp2
                    go_roundw
                    case rel =>
                      refine ⟨k2 + 1, by omega, by go_num, fun j h h' => ?_, hB1.below (below_draws (Below.refl _ _) _), hB2.below (below_draws (Below.refl _ _) _), below_draws hb _⟩
                      by_cases e : j = k2
                      · subst e; exact (other_iff _ _).1 hq
                      · exact hall j h (by omega)
                    case measure => simp [intOf]; omega
                  · go_wp2
                    go_ret
                    exact ⟨4, rfl, Or.inr ⟨unhide hfit, Or.inl ⟨rfl, fun h => (h.2 (by omega)).2 k2 hlt2 ((same_iff _ _).1 hq)⟩⟩, below_draws hb _⟩
                · go_wp2
                  go_ret
                  exact ⟨0, rfl, Or.inr ⟨unhide hfit, Or.inr ⟨rfl, fun h => by omega, fun _ => ⟨hr', fun j hj' => hall j hj' (by omega)⟩⟩⟩, hb⟩
            · go_wp2
              go_ret
              exact ⟨4, rfl, Or.inr ⟨unhide hfit, Or.inl ⟨rfl, fun h => hr' (h.2 (by omega)).1⟩⟩, hb⟩
    · have hkb : ((n.joints[i].ends.length : Int) != n.joints[i].kind) = true := by simpa using hkl
      have HKL := hide hkl
      clear hkl
      go_wp2
      go_ret
      exact ⟨3, rfl, Or.inl ⟨rfl, fun h => unhide HKL h.2.1⟩, bw0⟩
  · go_wp2
    go_ret
    exact ⟨3, rfl, Or.inl ⟨rfl, fun h => hr h.1⟩, bw0⟩
end Go.Proofs.YtjacbppeebnjfaaGreat

namespace Go.Proofs.YtjacbppeebnjfaaGreat
open Go.RowKit

set_option maxHeartbeats 1000000 in
theorem l1uses_any (v : Value) (n : Nt) (p s : Int) (w : World) {L : Nat} (hv : NetAt L w v n) (hl' : n.joints.length ≤ 1048576) (hle : ∀ i (h : i < n.joints.length), n.joints[i].ends.length ≤ 1048576) :
  Calls Tryz.prog 98 #[v, .agg #[.int .i64 p, .int .i64 s]] w fun e w' => e = .returned (.int .i64 (uses n.joints p s)) ∧ Below w.heap.size w w' := by
 obtain ⟨a, c, ca, cc, rfl, hp, hj⟩ := hv
 go_enter Tryz.func98, Tryz.ntmps98
 go_wp2_with fail
 go_loopw [5, 13] (fun y x wr => ∃ k : Nat, k ≤ n.joints.length ∧ x = .int .i64 k ∧ y = .int .i64 (uses (n.joints.take k) p s)
  ∧ Boxed wr (w.heap.size + 1) [.int .i64 p, .int .i64 s] ∧ Below w.heap.size w wr) (fun _ x _ => n.joints.length - (intOf x).toNat)
 case atStart => exact ⟨0, Nat.zero_le _, rfl, by simp [uses], boxedN _ _ _ (by simp), bw0⟩
 case round =>
  obtain ⟨k, hk, rfl, rfl, hB2, hb⟩ := hrel
  have n2 := hB2.1
  by_cases hlt : k < n.joints.length
  ·obtain ⟨b, off, ea, ec, rfl, hbs, c0, c1, c2, he⟩ := hj.below hb k hlt
   have hlen := hle k hlt
   have hu := uses_le n.joints p s 1048576 hle k hk
   have hus := hide (uses_succ n.joints p s k hlt)
   clear hle
   go_wp2_with fail
   go_loopw [5, 20] (fun y x wq => ∃ m : Nat, m ≤ n.joints[k].ends.length ∧ x = .int .i64 m ∧ y = .int .i64 ((uses (n.joints.take k) p s + usesIn (n.joints[k].ends.take m) p s : Nat) : Int)
    ∧ Boxed wq (w.heap.size + 1) [.int .i64 p, .int .i64 s] ∧ Below wr.heap.size wr wq) (fun _ x _ => n.joints[k].ends.length - (intOf x).toNat)
   case atStart => exact ⟨0, Nat.zero_le _, rfl, by simp [usesIn], hB2.below bw0, bw0⟩
   case round =>
    clear n2 hB2
    obtain ⟨m, hm, rfl, rfl, hB2, hb2⟩ := hrel
    have n2 := hB2.1
    have d0 := hB2.2.1 0 _ rfl
    have d1 := hB2.2.1 1 _ rfl
    by_cases hlt2 : m < n.joints[k].ends.length
    ·obtain ⟨b2, off2, rfl, hbs2, e0, e1⟩ := he.below hb2 m hlt2
     have hui := usesIn_le (n.joints[k].ends.take m) p s
     have htl : (n.joints[k].ends.take m).length ≤ m := List.length_take_le _ _
     have huis := hide (usesIn_succ n.joints[k].ends p s m hlt2)
     go_wp2
     all_goals refine ⟨⟨m + 1, by omega, by go_num, congrArg (Value.int .i64) ?_, hB2.below bw0, Below.alloc hb2 hb2.size _⟩, by simp [intOf]; omega⟩
     all_goals rw [unhide huis]
     ·rw [if_pos (by simp [isEd, *])]; omega
     ·rw [if_neg (by simp [isEd, *])]; omega
     ·rw [if_neg (by simp [isEd, *])]; omega
    ·go_wp2
     refine ⟨⟨k + 1, by omega, by go_num, congrArg (Value.int .i64) ?_, hB2, below_then hb hb2⟩, by simp [intOf]; omega⟩
     have e1 : n.joints[k].ends.take m = n.joints[k].ends := List.take_of_length_le (by omega)
     rw [unhide hus, e1]
  ·go_wp2
   go_ret
   have e2 : n.joints.take k = n.joints := List.take_of_length_le (by omega)
   exact ⟨by rw [e2]; rfl, hb⟩

end Go.Proofs.YtjacbppeebnjfaaGreat

namespace Go.Proofs.YtjacbppeebnjfaaGreat
open Go.RowKit

set_option maxHeartbeats 2000000 in
theorem specNetOk_any (v : Value) (n : Nt) (w : World) {L : Nat} (hv : NetAt L w v n) (hl : n.pieces.length ≤ 1048576) (hl' : n.joints.length ≤ 1048576)
  (hle : ∀ i (h : i < n.joints.length), n.joints[i].ends.length ≤ 1048576 ∧ n.joints[i].name.size ≤ maxLen) (hnm : ∀ i (h : i < n.pieces.length), n.pieces[i].name.size ≤ maxLen) :
  Calls Tryz.prog 71 #[v] w fun e w' => ∃ c a : Int, e = .returned (.agg #[.int .i64 c, .int .i64 a]) ∧ NetRes n c a ∧ Below w.heap.size w w' := by
 have hvv := hv
 obtain ⟨a, c, ca, cc, rfl, hp, hj⟩ := hv
 by_cases hout : n.pieces.length = 0 ∨ 100 < n.pieces.length ∨ 120 < n.joints.length
 ·have HO := hide (netRes1 hout)
  by_cases h0 : n.pieces.length = 0
  ·have e0 : ((n.pieces.length : Int) == 0) = true := by simp [h0]
   clear h0 hout
   go_enter Tryz.func71, Tryz.ntmps71
   go_wp2
   exact bodyPost_ret (v := .agg #[.int .i64 1, .int .i64 0]) (by simp [results, Tryz.results71, go_sem]) rfl ⟨1, 0, rfl, unhide HO, bw0⟩
  ·have e0 : ((n.pieces.length : Int) == 0) = false := by simp [h0]
   clear h0
   by_cases h1 : 100 < (n.pieces.length : Int)
   ·clear hout
    go_enter Tryz.func71, Tryz.ntmps71
    go_wp2
    exact bodyPost_ret (v := .agg #[.int .i64 1, .int .i64 0]) (by simp [results, Tryz.results71, go_sem]) rfl ⟨1, 0, rfl, unhide HO, bw0⟩
   ·have h2 : 120 < (n.joints.length : Int) := by
     have : ¬ n.pieces.length = 0 := by simpa using e0
     omega
    clear hout
    go_enter Tryz.func71, Tryz.ntmps71
    go_wp2
    exact bodyPost_ret (v := .agg #[.int .i64 1, .int .i64 0]) (by simp [results, Tryz.results71, go_sem]) rfl ⟨1, 0, rfl, unhide HO, bw0⟩
 ·have HO := hide hout
  have e0 : ((n.pieces.length : Int) == 0) = false := by rw [beq_eq_false_iff_ne]; omega
  have e1 : decide (100 < (n.pieces.length : Int)) = false := by simp; omega
  have e2 : decide (120 < (n.joints.length : Int)) = false := by simp; omega
  have g1 : n.pieces.length ≤ 100 := by omega
  have g2 : n.joints.length ≤ 120 := by omega
  clear hout
  go_enter Tryz.func71, Tryz.ntmps71
  go_wp2_with fail
  go_loopw [30] (fun x wr => ∃ k : Nat, k ≤ n.pieces.length ∧ x = .int .i64 k ∧ (∀ j, j < k → ¬ BadPc n.pieces j)
   ∧ Boxed wr w.heap.size [.slice a n.pieces.length ca, .slice c n.joints.length cc] ∧ Boxed wr (w.heap.size + 1) [.int .i64 0, .int .i64 0] ∧ Below w.heap.size w wr) (fun x _ => n.pieces.length - (intOf x).toNat)
  case atStart => exact ⟨0, Nat.zero_le _, rfl, fun j h => by omega, (boxed_alloc _ _ _).below bw0, boxedN _ _ _ (by simp), bw0⟩
  case round =>
   obtain ⟨k, hk, rfl, hall, hB1, hB2, hb⟩ := hrel
   have b0 := hB1.2.1 0 _ rfl
   have b1 := hB1.2.1 1 _ rfl
   have d0 := hB2.2.1 0 _ rfl
   have d1 := hB2.2.1 1 _ rfl
   have z := hB2.2.2
   have n1 := hB1.1
   have n2 := hB2.1
   by_cases hlt : k < n.pieces.length
   ·obtain ⟨b, off, rfl, hbs, c0, c1, c2, c3⟩ := hp.below hb k hlt
    have hs := hnm k hlt
    go_wp2_with fail
    refine (l1name_any _ _ hs).mono ?_
    rintro e w1 ⟨⟨rfl, hr1⟩ | ⟨rfl, hr1⟩, rfl⟩
    rotate_left
    ·have HB := hide (netRes2 (unhide HO) (first_of hlt ⟨hlt, Or.inl fun h => hr1 h.1⟩ hall) (by omega))
     go_wp2
     exact bodyPost_ret (v := .agg #[.int .i64 2, .int .i64 k]) (by simp [results, Tryz.results71, go_sem, n2, d0, d1]) rfl ⟨2, k, rfl, unhide HB, (bw1 hb)⟩
    go_wp2_with fail
    refine (l1in_any _ _ _ _).mono ?_
    rintro e w1 ⟨⟨rfl, hr2⟩ | ⟨rfl, hr2⟩, rfl⟩
    rotate_left
    ·have HB := hide (netRes2 (unhide HO) (first_of hlt ⟨hlt, Or.inl fun h => hr2 h.2.1⟩ hall) (by omega))
     go_wp2
     exact bodyPost_ret (v := .agg #[.int .i64 2, .int .i64 k]) (by simp [results, Tryz.results71, go_sem, n2, d0, d1]) rfl ⟨2, k, rfl, unhide HB, (bw1 hb)⟩
    go_wp2_with fail
    refine (l1in_any _ _ _ _).mono ?_
    rintro e w1 ⟨⟨rfl, hr3⟩ | ⟨rfl, hr3⟩, rfl⟩
    rotate_left
    ·have HB := hide (netRes2 (unhide HO) (first_of hlt ⟨hlt, Or.inl fun h => hr3 h.2.2.1⟩ hall) (by omega))
     go_wp2
     exact bodyPost_ret (v := .agg #[.int .i64 2, .int .i64 k]) (by simp [results, Tryz.results71, go_sem, n2, d0, d1]) rfl ⟨2, k, rfl, unhide HB, (bw1 hb)⟩
    go_wp2_with fail
    refine (l1in_any _ _ _ _).mono ?_
    rintro e w1 ⟨⟨rfl, hr4⟩ | ⟨rfl, hr4⟩, rfl⟩
    rotate_left
    ·have HB := hide (netRes2 (unhide HO) (first_of hlt ⟨hlt, Or.inl fun h => hr4 h.2.2.2⟩ hall) (by omega))
     go_wp2
     exact bodyPost_ret (v := .agg #[.int .i64 2, .int .i64 k]) (by simp [results, Tryz.results71, go_sem, n2, d0, d1]) rfl ⟨2, k, rfl, unhide HB, (bw1 hb)⟩
    have hfit : Hid (PcFits n.pieces[k]) := ⟨hr1, hr2, hr3, hr4⟩
    clear hr1 hr2 hr3 hr4
    go_wp2_with fail
    go_loopw [5] (fun x wq => ∃ k2 : Nat, k2 ≤ k ∧ x = .int .i64 k2 ∧ (∀ j (h : j < k), j < k2 → n.pieces[j].name ≠ n.pieces[k].name)
     ∧ Boxed wq w.heap.size [.slice (some ⟨b, off, none⟩) n.pieces.length ca, .slice c n.joints.length cc] ∧ Boxed wq (w.heap.size + 1) [.int .i64 0, .int .i64 0]
     ∧ Boxed wq wr.heap.size [.string n.pieces[k].name, .int .i64 n.pieces[k].len, .int .i64 n.pieces[k].speed, .int .i64 n.pieces[k].brake] ∧ Below w.heap.size w wq) (fun x _ => k - (intOf x).toNat)
    case atStart => exact ⟨0, Nat.zero_le _, rfl, fun j h h' => by omega, hB1.below bw0, hB2.below bw0, boxed_alloc _ _ _, (bw1 hb)⟩
    case round =>
     clear b0 b1 d0 d1 z n1 n2 hB1 hB2 c0 c1 c2 c3 hb
     obtain ⟨k2, hk2, rfl, hall2, hB1, hB2, hB3, hb⟩ := hrel
     have b0 := hB1.2.1 0 _ rfl
     have b1 := hB1.2.1 1 _ rfl
     have d0 := hB2.2.1 0 _ rfl
     have d1 := hB2.2.1 1 _ rfl
     have f0 := hB3.2.1 0 _ rfl
     have z := hB2.2.2
     have n1 := hB1.1
     have n2 := hB2.1
     by_cases hlt2 : k2 < k
     ·have hk2l : k2 < n.pieces.length := by omega
      obtain ⟨b', off', hbo, hbs', c0, c1, c2, c3⟩ := hp.below hb k2 hk2l
      obtain ⟨rfl, rfl⟩ : b = b' ∧ off = off' := by simpa using hbo
      go_wp2_with fail
      go_quiet (fail)
      cases hq : (n.pieces[k2].name.toList == n.pieces[k].name.toList)
      ·go_wp2
       go_roundw
       case rel =>
        refine ⟨k2 + 1, by omega, by go_num, fun j h h' => ?_, hB1.below bw0, hB2.below bw0, hB3.below bw0, below_draws hb _⟩
        by_cases e : j = k2
        ·subst e; exact (other_iff _ _).1 hq
        ·exact hall2 j h (by omega)
       case measure => simp [intOf]; omega
      ·have HB := hide (netRes2 (unhide HO) (first_of hlt ⟨hlt, Or.inr ⟨k2, hlt2, (same_iff _ _).1 hq⟩⟩ hall) (by omega))
       go_wp2
       exact bodyPost_ret (v := .agg #[.int .i64 2, .int .i64 k]) (by simp [results, Tryz.results71, go_sem, d0, d1]) rfl ⟨2, k, rfl, unhide HB, (bw1 hb)⟩
     ·go_wp2
      refine ⟨⟨k + 1, by omega, by go_num, fun j h => ?_, hB1, hB2, hb⟩, by simp [intOf]; omega⟩
      by_cases e : j = k
      ·subst e
       rintro ⟨_, hbad | ⟨j2, hj2, he⟩⟩
       ·exact hbad (unhide hfit)
       ·exact hall2 j2 hj2 (by omega) he
      ·exact hall j (by omega)
   ·have H2 : Hid (IsFirst (BadPc n.pieces) n.pieces.length (-1)) := none_of fun j h => hall j (by omega)
    clear hall hnm
    go_wp2_with fail
    go_loopw [6] (fun x wq => ∃ m : Nat, 3 ≤ m ∧ m ≤ 5 ∧ x = .int .i64 m ∧ (4 ≤ m → ∀ j, j < n.joints.length → ¬ Bad3 n.pieces.length n.joints j) ∧ (5 ≤ m → ∀ j, j < n.joints.length → ¬ Bad4 n.joints j)
     ∧ Boxed wq w.heap.size [.slice a n.pieces.length ca, .slice c n.joints.length cc] ∧ Boxed wq (w.heap.size + 1) [.int .i64 0, .int .i64 0] ∧ Below w.heap.size w wq) (fun x _ => 5 - (intOf x).toNat)
    case atStart => exact ⟨3, by omega, by omega, rfl, by omega, by omega, hB1, hB2, hb⟩
    case round =>
     clear b0 b1 d0 d1 z n1 n2 hB1 hB2 hb
     obtain ⟨m, hm3, hm5, rfl, hA3, hA4, hB1, hB2, hb⟩ := hrel
     have b0 := hB1.2.1 0 _ rfl
     have b1 := hB1.2.1 1 _ rfl
     have d0 := hB2.2.1 0 _ rfl
     have d1 := hB2.2.1 1 _ rfl
     have z := hB2.2.2
     have n1 := hB1.1
     have n2 := hB2.1
     by_cases hm4 : m ≤ 4
     ·have hm4b : decide ((m : Int) ≤ 4) = true := by simp; omega
      go_wp2_with fail
      go_loopw [83] (fun x wq => ∃ k : Nat, k ≤ n.joints.length ∧ x = .int .i64 k ∧ (m = 3 → ∀ j, j < k → ¬ Bad3 n.pieces.length n.joints j) ∧ (m = 4 → ∀ j, j < k → ¬ Bad4 n.joints j)
       ∧ Boxed wq w.heap.size [.slice a n.pieces.length ca, .slice c n.joints.length cc] ∧ Boxed wq (w.heap.size + 1) [.int .i64 0, .int .i64 0] ∧ Below w.heap.size w wq) (fun x _ => n.joints.length - (intOf x).toNat)
      case atStart => exact ⟨0, by omega, rfl, fun _ j h => by omega, fun _ j h => by omega, hB1, hB2, hb⟩
      case round =>
       clear b0 b1 d0 d1 z n1 n2 hB1 hB2 hb
       obtain ⟨k, hk, rfl, hC3, hC4, hB1, hB2, hb⟩ := hrel
       have b0 := hB1.2.1 0 _ rfl
       have b1 := hB1.2.1 1 _ rfl
       have d0 := hB2.2.1 0 _ rfl
       have d1 := hB2.2.1 1 _ rfl
       have z := hB2.2.2
       have n1 := hB1.1
       have n2 := hB2.1
       by_cases hlt2 : k < n.joints.length
       ·go_wp2_with fail
        refine (l1joint_any _ n k _ (hvv.below hb) hl hl' hle hlt2).mono ?_
        rintro e w1 ⟨r, rfl, hcode, hb1⟩
        have hb' := below_then hb hb1
        have hB1' := hB1.below hb1
        have hB2' := hB2.below hb1
        have d0' := hB2'.2.1 0 _ rfl
        have d1' := hB2'.2.1 1 _ rfl
        have z' := hB2'.2.2
        have n1' := hB1'.1
        have n2' := hB2'.1
        have HC := hide hcode
        clear hcode
        cases hq : (r == (m : Int))
        ·go_wp2
         refine ⟨⟨k + 1, by omega, by go_num, fun hm j h => ?_, fun hm j h => ?_, hB1', hB2', hb'⟩, by simp [intOf]; omega⟩
         ·by_cases e : j = k
          ·subst e
           rintro ⟨_, hbad⟩
           rcases unhide HC with ⟨rfl, _⟩ | ⟨hfit, _⟩
           ·subst hm; simp at hq
           ·exact hbad hfit
          ·exact hC3 hm j (by omega)
         ·by_cases e : j = k
          ·subst e
           rintro ⟨_, hbad⟩
           rcases unhide HC with ⟨_, h3⟩ | ⟨_, ⟨rfl, _⟩ | ⟨_, hfit⟩⟩
           ·exact hA3 (by omega) j hlt2 ⟨hlt2, h3⟩
           ·subst hm; simp at hq
           ·exact hbad hfit
          ·exact hC4 hm j (by omega)
        ·have HB : Hid (NetRes n m k) := by
          have hrm : r = (m : Int) := by simpa using hq
          rcases unhide HC with ⟨h3, hbad⟩ | ⟨hfit, ⟨h4, hbad⟩ | ⟨h0, _⟩⟩
          ·obtain rfl : m = 3 := by omega
           exact netRes3 (unhide HO) (unhide H2) (first_of hlt2 ⟨hlt2, hbad⟩ (hC3 rfl)) (by omega)
          ·obtain rfl : m = 4 := by omega
           exact netRes4 (unhide HO) (unhide H2) (none_of (hA3 (by omega))) (first_of hlt2 ⟨hlt2, hbad⟩ (hC4 rfl)) (by omega)
          ·omega
         go_wp2
         exact bodyPost_ret (v := .agg #[.int .i64 m, .int .i64 k]) (by simp [results, Tryz.results71, go_sem, d0', d1']) rfl ⟨m, k, rfl, unhide HB, (bw1 hb')⟩
       ·go_wp2
        refine ⟨⟨m + 1, by omega, by omega, by go_num, fun h j hj => ?_, fun h j hj => ?_, hB1, hB2, hb⟩, by simp [intOf]; omega⟩
        ·by_cases e : m = 3
         ·exact hC3 e j (by omega)
         ·exact hA3 (by omega) j hj
        ·exact hC4 (by omega) j (by omega)
     ·have H3 : Hid (IsFirst (Bad3 n.pieces.length n.joints) n.joints.length (-1)) := none_of (hA3 (by omega))
      have H4 : Hid (IsFirst (Bad4 n.joints) n.joints.length (-1)) := none_of (hA4 (by omega))
      clear hA3 hA4
      have hle1 : ∀ i (h : i < n.joints.length), n.joints[i].ends.length ≤ 1048576 := fun i h => (hle i h).1
      clear hle
      go_wp2_with fail
      go_loopw [98] (fun x wq => ∃ k : Nat, k ≤ n.pieces.length ∧ x = .int .i64 k ∧ (∀ j, j < k → ¬ Bad5 n.joints j)
       ∧ Boxed wq w.heap.size [.slice a n.pieces.length ca, .slice c n.joints.length cc] ∧ Boxed wq (w.heap.size + 1) [.int .i64 0, .int .i64 0] ∧ Below w.heap.size w wq) (fun x _ => n.pieces.length - (intOf x).toNat)
      case atStart => exact ⟨0, by omega, rfl, fun j h => by omega, hB1, hB2, hb⟩
      case round =>
       clear b0 b1 d0 d1 z n1 n2 hB1 hB2 hb
       obtain ⟨k, hk, rfl, hall, hB1, hB2, hb⟩ := hrel
       have b0 := hB1.2.1 0 _ rfl
       have b1 := hB1.2.1 1 _ rfl
       have d0 := hB2.2.1 0 _ rfl
       have d1 := hB2.2.1 1 _ rfl
       have z := hB2.2.2
       have n1 := hB1.1
       have n2 := hB2.1
       by_cases hlt2 : k < n.pieces.length
       ·go_wp2_with fail
        go_loopw [9] (fun x wq => ∃ sd : Nat, sd ≤ 2 ∧ x = .int .i64 sd ∧ (∀ j : Nat, j < sd → uses n.joints k j = 1)
         ∧ Boxed wq w.heap.size [.slice a n.pieces.length ca, .slice c n.joints.length cc] ∧ Boxed wq (w.heap.size + 1) [.int .i64 0, .int .i64 0] ∧ Below w.heap.size w wq) (fun x _ => 2 - (intOf x).toNat)
        case atStart => exact ⟨0, by omega, rfl, fun j h => by omega, hB1, hB2, hb⟩
        case round =>
         clear b0 b1 d0 d1 z n1 n2 hB1 hB2 hb
         obtain ⟨sd, hsd, rfl, hall2, hB1, hB2, hb⟩ := hrel
         have b0 := hB1.2.1 0 _ rfl
         have b1 := hB1.2.1 1 _ rfl
         by_cases hlt3 : sd < 2
         ·go_wp2_with fail
          refine (l1uses_any _ n _ _ _ (hvv.below hb) hl' hle1).mono ?_
          rintro e w1 ⟨rfl, hb1⟩
          have hb' := below_then hb hb1
          have hB1' := hB1.below hb1
          have hB2' := hB2.below hb1
          have d0' := hB2'.2.1 0 _ rfl
          have d1' := hB2'.2.1 1 _ rfl
          have z' := hB2'.2.2
          have n1' := hB1'.1
          have n2' := hB2'.1
          by_cases hu : uses n.joints k sd = 1
          ·have hub : ((uses n.joints k sd : Int) != 1) = false := by simp [hu]
           have HU := hide hu
           clear hu
           go_wp2
           refine ⟨⟨sd + 1, by omega, by go_num, fun j h => ?_, hB1', hB2', hb'⟩, by simp [intOf]; omega⟩
           by_cases e : j = sd
           ·subst e; exact unhide HU
           ·exact hall2 j (by omega)
          ·have hub : ((uses n.joints k sd : Int) != 1) = true := by rw [bne_iff_ne]; omega
           have HB : Hid (NetRes n 5 k) := netRes5 (unhide HO) (unhide H2) (unhide H3) (unhide H4) (first_of hlt2 (by
            by_cases e : sd = 0
            ·subst e; exact Or.inl hu
            ·obtain rfl : sd = 1 := by omega
             exact Or.inr hu) hall) (by omega)
           clear hu
           go_wp2
           exact bodyPost_ret (v := .agg #[.int .i64 5, .int .i64 k]) (by simp [results, Tryz.results71, go_sem, d0', d1']) rfl ⟨5, k, rfl, unhide HB, (bw1 hb')⟩
         ·go_wp2
          refine ⟨⟨k + 1, by omega, by go_num, fun j h => ?_, hB1, hB2, hb⟩, by simp [intOf]; omega⟩
          by_cases e : j = k
          ·subst e
           rintro (h5 | h5)
           ·exact h5 (hall2 0 (by omega))
           ·exact h5 (hall2 1 (by omega))
          ·exact hall j (by omega)
       ·have HB : Hid (NetRes n 0 0) := netRes0 (unhide HO) (unhide H2) (unhide H3) (unhide H4) (none_of fun j h => hall j (by omega))
        go_wp2
        exact bodyPost_ret (v := .agg #[.int .i64 0, .int .i64 0]) (by simp [results, Tryz.results71, go_sem, d0, d1]) rfl ⟨0, 0, rfl, unhide HB, (bw1 hb)⟩
end Go.Proofs.YtjacbppeebnjfaaGreat

namespace Go.Proofs.YtjacbppeebnjfaaGreat
open Go.RowKit

def IntsAt (L : Nat) (w : World) (a : Option Addr) (zs : List Int) : Prop :=
 ∀ i (h : i < zs.length), ∃ b off, a = some ⟨b, off, none⟩ ∧ (L ≤ b ∧ b < w.heap.size) ∧ w.cell? ⟨b, off + i, none⟩ = some (.int .i64 zs[i])

theorem IntsAt.keeps {L : Nat} {w w' : World} {a : Option Addr} {zs : List Int} (h : IntsAt L w a zs) (hk : Keeps L w w') : IntsAt L w' a zs := by
 intro i hi
 obtain ⟨b, off, ha, hlt, c0⟩ := h i hi
 exact ⟨b, off, ha, ⟨hlt.1, Nat.lt_of_lt_of_le hlt.2 hk.1⟩, by rw [hk.cell hlt]; exact c0⟩
theorem IntsAt.below {L : Nat} {w w' : World} {a : Option Addr} {zs : List Int} (h : IntsAt L w a zs) (hb : Below w.heap.size w w') : IntsAt L w' a zs := h.keeps (keeps_below L hb)

theorem info_Int : (Tryz.prog.info? 3).map (fun i => (i.zero, i.size, i.bytes)) = some (some (.int .i64 0), 1, 8) := by kernel_rfl

theorem netRes_zero {n : Nt} {a : Int} (h : NetRes n 0 a) : a = 0 ∧ ∀ i (h : i < n.joints.length), JtFits n.pieces.length n.joints[i] := by
 unfold NetRes at h
 by_cases ho : n.pieces.length = 0 ∨ 100 < n.pieces.length ∨ 120 < n.joints.length
 ·have := (h.1 ho).1; omega
 ·obtain ⟨r2, r3, r4, r5, h2, h2a, h2b⟩ := h.2 ho
  by_cases e2 : r2 = -1
  ·obtain ⟨h3, h3a, h3b⟩ := h2b e2
   by_cases e3 : r3 = -1
   ·obtain ⟨h4, h4a, h4b⟩ := h3b e3
    have hall : ∀ i (h : i < n.joints.length), JtFits n.pieces.length n.joints[i] := fun i hi => Classical.byContradiction fun hc => by
     rcases h3 with ⟨_, h3⟩ | ⟨j, _, hj, _⟩
     ·exact h3 i hi ⟨hi, hc⟩
     ·omega
    by_cases e4 : r4 = -1
    ·obtain ⟨h5, h5a, h5b⟩ := h4b e4
     by_cases e5 : r5 = -1
     ·exact ⟨(h5b e5).2, hall⟩
     ·have := (h5a e5).1; omega
    ·have := (h4a e4).1; omega
   ·have := (h3a e3).1; omega
  ·have := (h2a e2).1; omega

theorem netRes_right {n : Nt} {c a : Int} (h : NetRes n c a) : c = 0 ↔ NetRes n 0 0 :=
 ⟨fun e => by subst e; have := (netRes_zero h).1; subst this; exact h, fun g => (h.unique g).1⟩

def LieFit (kd lie : Int) : Prop := lie = 0 ∨ (kd = 3 ∧ (lie = 1 ∨ lie = 2))
def LiesFit (js : List Jt) (zs : List Int) : Prop := zs.length = js.length ∧ ∀ i (h : i < js.length) (h' : i < zs.length), LieFit js[i].kind zs[i]
def LiesRight (n : Nt) (zs : List Int) : Prop := NetRes n 0 0 ∧ LiesFit n.joints zs

set_option maxHeartbeats 1000000 in
theorem l1ok_any (v : Value) (n : Nt) (w : World) {L : Nat} (hv : NetAt L w v n) (hl : n.pieces.length ≤ 1048576) (hl' : n.joints.length ≤ 1048576)
  (hle : ∀ i (h : i < n.joints.length), n.joints[i].ends.length ≤ 1048576 ∧ n.joints[i].name.size ≤ maxLen) (hnm : ∀ i (h : i < n.pieces.length), n.pieces[i].name.size ≤ maxLen) :
  Calls Tryz.prog 35 #[v] w fun e w' => RetB (NetRes n 0 0) e ∧ Below w.heap.size w w' := by
 have hvv := hv
 obtain ⟨a, c, ca, cc, rfl, hp, hj⟩ := hv
 go_enter Tryz.func35, Tryz.ntmps35
 go_wp2_with fail
 refine (specNetOk_any _ n _ (L := L) ?hA hl hl' hle hnm).mono ?_
 case hA => exact hvv.below bw0
 rintro e w1 ⟨fc, fa, rfl, hres, hb1⟩
 have hbw := Below.trans (bw0 : Below w.heap.size w _) (hb1.mono (by simp <;> omega))
 have HR := hide hres
 have hsz := hbw.size
 clear hres
 go_wp2
 go_ret
 exact ⟨retB_of (by rw [← netRes_right (unhide HR)]; simp), (bw1 hbw)⟩

set_option maxHeartbeats 1000000 in
theorem l1lies_any (v : Value) (n : Nt) (b0 : Option Addr) (zs : List Int) (cb : Nat) (w : World) {L L' : Nat} (hv : NetAt L w v n) (hz : IntsAt L' w b0 zs) (hl' : n.joints.length ≤ 1048576) :
  Calls Tryz.prog 73 #[v, .slice b0 zs.length cb] w fun e w' => RetB (LiesFit n.joints zs) e ∧ Below w.heap.size w w' := by
 obtain ⟨a, c, ca, cc, rfl, hp, hj⟩ := hv
 by_cases hlen : zs.length = n.joints.length
 ·have hlb : ((zs.length : Int) != (n.joints.length : Int)) = false := by rw [hlen]; simp
  have HL := hide hlen
  clear hlen
  go_enter Tryz.func73, Tryz.ntmps73
  go_wp2_with fail
  go_loopw [15] (fun x wr => ∃ k : Nat, k ≤ zs.length ∧ x = .int .i64 k ∧ (∀ i (h : i < n.joints.length) (h' : i < zs.length), i < k → LieFit n.joints[i].kind zs[i])
   ∧ Boxed wr w.heap.size [.slice a n.pieces.length ca, .slice c n.joints.length cc] ∧ Below w.heap.size w wr) (fun x _ => zs.length - (intOf x).toNat)
  case atStart => exact ⟨0, Nat.zero_le _, rfl, fun i h h' h'' => by omega, boxed_alloc _ _ _, bw0⟩
  case round =>
   obtain ⟨k, hk, rfl, hall, hB1, hb⟩ := hrel
   have b1 := hB1.2.1 1 _ rfl
   by_cases hlt : k < zs.length
   ·obtain ⟨b2, off2, rfl, hbs2, x0⟩ := hz.below hb k hlt
    have hltj : k < n.joints.length := by have := unhide HL; omega
    obtain ⟨b, off, ea, ec, rfl, hbs, c0, c1, c2, he⟩ := hj.below hb k hltj
    generalize hx : zs[k] = z at *
    generalize hy : n.joints[k].kind = kd at *
    have HX := hide hx
    have HY := hide hy
    clear hx hy
    go_wp2_with fail
    refine (l1in_any _ _ _ _).mono ?_
    rintro e w1 ⟨⟨rfl, hr⟩ | ⟨rfl, hr⟩, rfl⟩
    ·cases e0 : (z != 0)
     ·go_wp2
      refine ⟨⟨k + 1, by omega, by go_num, fun i h h' h'' => ?_, hB1, hb⟩, by simp [intOf]; omega⟩
      by_cases e : i = k
      ·subst e
       rw [unhide HX]
       exact Or.inl (by simpa using e0)
      ·exact hall i h h' (by omega)
     ·cases e3 : (kd != 3)
      ·go_wp2
       refine ⟨⟨k + 1, by omega, by go_num, fun i h h' h'' => ?_, hB1, hb⟩, by simp [intOf]; omega⟩
       by_cases e : i = k
       ·subst e
        rw [unhide HX, unhide HY]
        simp at e0 e3
        exact Or.inr ⟨e3, by omega⟩
       ·exact hall i h h' (by omega)
      ·go_wp2
       go_ret
       refine ⟨retB_false fun h => ?_, hb⟩
       have := h.2 k hltj hlt
       rw [unhide HX, unhide HY] at this
       simp at e0 e3
       rcases this with h1 | ⟨h1, _⟩
       ·exact e0 h1
       ·exact e3 h1
    ·go_wp2
     go_ret
     refine ⟨retB_false fun h => ?_, hb⟩
     have := h.2 k hltj hlt
     rw [unhide HX, unhide HY] at this
     rcases this with h1 | ⟨_, h1 | h1⟩ <;> exact hr (by omega)
   ·go_wp2
    go_ret
    exact ⟨retB_true ⟨unhide HL, fun i h h' => hall i h h' (by omega)⟩, hb⟩
 ·have hlb : ((zs.length : Int) != (n.joints.length : Int)) = true := by rw [bne_iff_ne]; omega
  have HL := hide hlen
  clear hlen
  go_enter Tryz.func73, Tryz.ntmps73
  go_wp2
  go_ret
  exact ⟨retB_false fun h => unhide HL h.1, bw0⟩

set_option maxHeartbeats 1000000 in
theorem specLiesOk_any (v : Value) (n : Nt) (b0 : Option Addr) (zs : List Int) (cb : Nat) (w : World) {L L' : Nat} (hv : NetAt L w v n) (hz : IntsAt L' w b0 zs) (hl : n.pieces.length ≤ 1048576) (hl' : n.joints.length ≤ 1048576)
  (hle : ∀ i (h : i < n.joints.length), n.joints[i].ends.length ≤ 1048576 ∧ n.joints[i].name.size ≤ maxLen) (hnm : ∀ i (h : i < n.pieces.length), n.pieces[i].name.size ≤ maxLen) :
  Calls Tryz.prog 37 #[v, .slice b0 zs.length cb] w fun e w' => RetB (LiesRight n zs) e ∧ Below w.heap.size w w' := by
 have hvv := hv
 obtain ⟨a, c, ca, cc, rfl, hp, hj⟩ := hv
 go_enter Tryz.func37, Tryz.ntmps37
 go_wp2_with fail
 refine (l1ok_any _ n _ (L := L) ?hA hl hl' hle hnm).mono ?_
 case hA => exact hvv.below bw0
 rintro e w1 ⟨⟨rfl, hr⟩ | ⟨rfl, hr⟩, hb1⟩
 ·have hbw := Below.trans (bw0 : Below w.heap.size w _) (hb1.mono (by simp <;> omega))
  have hB1 : Boxed w1 w.heap.size [.slice a n.pieces.length ca, .slice c n.joints.length cc] := (boxed_alloc _ _ _).below hb1
  have x0 := hB1.2.1 0 _ rfl
  have x1 := hB1.2.1 1 _ rfl
  have HR := hide hr
  clear hr
  go_wp2_with fail
  refine (l1lies_any _ n _ _ _ _ (hvv.below hbw) (hz.below hbw) hl').mono ?_
  rintro e w2 ⟨⟨rfl, hr2⟩ | ⟨rfl, hr2⟩, hb2⟩
  ·go_wp2
   go_ret
   exact ⟨retB_true ⟨unhide HR, hr2⟩, below_then hbw hb2⟩
  ·go_wp2
   go_ret
   exact ⟨retB_false fun h => hr2 h.2, below_then hbw hb2⟩
 ·have hbw := Below.trans (bw0 : Below w.heap.size w _) (hb1.mono (by simp <;> omega))
  have HR := hide hr
  clear hr
  go_wp2
  go_ret
  exact ⟨retB_false fun h => unhide HR h.1, hbw⟩
end Go.Proofs.YtjacbppeebnjfaaGreat

