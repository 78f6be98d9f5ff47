import Derived.Test.YtbdggfpfpjijoaaGreatG6
import Derived.Test.YtbdggfpfpjijoaaGreatG3
import Derived.BigQuiet
import Derived.BigRegion
import Derived.Deep.QuietTactic
import Derived.Deep.RegionWith
import Derived.Deep.RegionHeld3
namespace Go.Proofs.YtbdggfpfpjijoaaGreat
open Go.RowKit

theorem l1in_B (x a b : Int) (w : World) :
    Calls Tryz.prog 67 #[.int .i64 x, .int .i64 a, .int .i64 b] w fun e w' => e = .returned (.bool (inB x a b)) ∧ w' = w :=
  (l1in_any x a b w).mono fun e w' ⟨he, hw⟩ => ⟨by
    rcases he with ⟨rfl, h⟩ | ⟨rfl, h⟩
    · rw [inB_true h]
    · rw [inB_false h], hw⟩

theorem l1in_T (x a b : Int) (w : World) (h : inB x a b = true) :
    Calls Tryz.prog 67 #[.int .i64 x, .int .i64 a, .int .i64 b] w fun e w' => e = .returned (.bool true) ∧ w' = w :=
  (l1in_B x a b w).mono fun e w' ⟨he, hw⟩ => ⟨by rw [he, h], hw⟩
theorem l1in_F (x a b : Int) (w : World) (h : inB x a b = false) :
    Calls Tryz.prog 67 #[.int .i64 x, .int .i64 a, .int .i64 b] w fun e w' => e = .returned (.bool false) ∧ w' = w :=
  (l1in_B x a b w).mono fun e w' ⟨he, hw⟩ => ⟨by rw [he, h], hw⟩

/-- A piece of a net in memory, by its number. -/
theorem PcsAt.len {L : Nat} {w : World} {a : Option Addr} {n : Nt} (h : PcsAt L w a n.pieces) {p : Int} (h0 : 0 ≤ p) (h1 : p < n.pieces.length) :
    ∃ b off, a = some ⟨b, off, none⟩ ∧ b < w.heap.size ∧ w.cell? ⟨b, off + p.toNat * 4 + 1, none⟩ = some (.int .i64 (lenOf n p)) := by
  obtain ⟨b, off, ha, hb, _, c1, _, _⟩ := h p.toNat (by omega)
  refine ⟨b, off, ha, hb.2, ?_⟩
  rw [c1]
  simp [lenOf, List.getElem?_eq_getElem (show p.toNat < n.pieces.length by omega)]

theorem wrap_small {x : Int} (h0 : -1000000000000000 ≤ x) (h1 : x ≤ 1000000000000000) : IntKind.i64.wrap x = x := by
  rw [IntKind.wrap_i64]
  omega

set_option maxHeartbeats 2000000 in
theorem l2spot_any (v : Value) (n : Nt) (s : Sp) (w : World) {L : Nat} (hv : NetAt L w v n) (hl : n.pieces.length ≤ 1048576) :
    Calls Tryz.prog 95 #[v, .agg #[.int .i64 s.piece, .int .i64 s.at_, .int .i64 s.way]] w fun e w' => RetB (SpotOk n s) e ∧ Below w.heap.size w w' := by
  obtain ⟨a, c, ca, cc, rfl, hp, hj⟩ := hv
  obtain ⟨p, q, y⟩ := s
  dsimp only
  have hwr := wrap_small (x := (n.pieces.length : Int) - 1) (by omega) (by omega)
  by_cases h1 : 0 ≤ p ∧ p ≤ (n.pieces.length : Int) - 1
  · have e1 := inB_true h1
    obtain ⟨b, off, rfl, hb, c1⟩ := hp.len h1.1 (by omega)
    obtain ⟨pn, rfl⟩ := Int.eq_ofNat_of_zero_le h1.1
    simp only [Int.toNat_natCast] at c1
    have hlt : (pn : Int) < (n.pieces.length : Int) := by omega
    have hnn : (0 : Int) ≤ (pn : Int) := by omega
    by_cases hy : y = 1 ∨ y = -1
    · rcases hy with rfl | rfl
      all_goals
        by_cases h3 : 0 ≤ q ∧ q ≤ lenOf n pn
        · have e3 := inB_true h3
          go_enter Tryz.func95, Tryz.ntmps95
          go_wp2_with fail
          go_quiet ((go_at_call 67; first | exact Calls.quiet_of_same (l1in_T _ _ _ _ (by assumption)) | exact Calls.quiet_of_same (l1in_F _ _ _ _ (by assumption))))
          go_wp2
          go_ret
          exact ⟨retB_true ⟨⟨hnn, hlt⟩, by simp, h3⟩, bw0⟩
        · have e3 := inB_false h3
          go_enter Tryz.func95, Tryz.ntmps95
          go_wp2_with fail
          go_quiet ((go_at_call 67; first | exact Calls.quiet_of_same (l1in_T _ _ _ _ (by assumption)) | exact Calls.quiet_of_same (l1in_F _ _ _ _ (by assumption))))
          go_wp2
          go_ret
          exact ⟨retB_false fun h => h3 h.2.2, bw0⟩
    · have y1 : (y == 1) = false := by simp; omega
      have y2 : (y == -1) = false := by simp; omega
      have HY := hide hy
      clear hy
      go_enter Tryz.func95, Tryz.ntmps95
      go_wp2_with fail
      go_quiet ((go_at_call 67; first | exact Calls.quiet_of_same (l1in_T _ _ _ _ (by assumption)) | exact Calls.quiet_of_same (l1in_F _ _ _ _ (by assumption))))
      go_wp2
      go_ret
      exact ⟨retB_false fun h => unhide HY h.2.1, bw0⟩
  · have e1 := inB_false h1
    go_enter Tryz.func95, Tryz.ntmps95
    go_wp2_with fail
    go_quiet ((go_at_call 67; first | exact Calls.quiet_of_same (l1in_T _ _ _ _ (by assumption)) | exact Calls.quiet_of_same (l1in_F _ _ _ _ (by assumption))))
    go_wp2
    go_ret
    exact ⟨retB_false fun h => h1 ⟨h.1.1, by have := h.1.2; dsimp only at this; omega⟩, bw0⟩

set_option maxHeartbeats 400000 in
theorem l2head_any (p y : Int) (w : World) :
    Calls Tryz.prog 133 #[.int .i64 p, .int .i64 y] w fun e w' => e = .returned (.agg #[.int .i64 (hd p y).piece, .int .i64 (hd p y).side]) ∧ Below w.heap.size w w' := by
  by_cases hy : y = 1
  · subst hy
    go_enter Tryz.func133, Tryz.ntmps133
    go_wp2
    exact bodyPost_ret (v := .agg #[.int .i64 p, .int .i64 1]) (by simp [results, Tryz.results133, go_sem]) rfl ⟨by simp [hd], bw0⟩
  · have y1 : (y == 1) = false := by simp; omega
    have HY := hide hy
    clear hy
    go_enter Tryz.func133, Tryz.ntmps133
    go_wp2
    exact bodyPost_ret (v := .agg #[.int .i64 p, .int .i64 0]) (by simp [results, Tryz.results133, go_sem]) rfl ⟨by simp [hd, unhide HY], bw0⟩

set_option maxHeartbeats 1000000 in
theorem l2room_any (v : Value) (n : Nt) (s : Sp) (w : World) {L : Nat} (hv : NetAt L w v n) (hs : SpotOk n s) (hlen : lenOf n s.piece ≤ 10000000) :
    Calls Tryz.prog 131 #[v, .agg #[.int .i64 s.piece, .int .i64 s.at_, .int .i64 s.way]] w fun e w' => e = .returned (.int .i64 (room n s)) ∧ Below w.heap.size w w' := by
  obtain ⟨a, c, ca, cc, rfl, hp, hj⟩ := hv
  obtain ⟨p, q, y⟩ := s
  obtain ⟨⟨h0, h1⟩, hy, h2, h3⟩ := hs
  dsimp only at h0 h1 hy h2 h3 hlen ⊢
  obtain ⟨b, off, rfl, hb, c1⟩ := hp.len h0 h1
  obtain ⟨pn, rfl⟩ := Int.eq_ofNat_of_zero_le h0
  simp only [Int.toNat_natCast] at c1
  have hwr := wrap_small (x := lenOf n pn - q) (by omega) (by omega)
  rcases hy with rfl | rfl
  · go_enter Tryz.func131, Tryz.ntmps131
    go_wp2_with fail
    go_quiet (fail)
    go_wp2
    go_ret
    exact ⟨by simp [room], bw0⟩
  · go_enter Tryz.func131, Tryz.ntmps131
    go_wp2
    go_ret
    exact ⟨by simp [room], bw0⟩
end Go.Proofs.YtbdggfpfpjijoaaGreat

namespace Go.Proofs.YtbdggfpfpjijoaaGreat
open Go.RowKit

set_option maxHeartbeats 2000000 in
theorem l2behind_any (v : Value) (n : Nt) (s : Sp) (w : World) {L : Nat} (hv : NetAt L w v n) (hs : SpotOk n s) (hlen : lenOf n s.piece ≤ 10000000) :
    Calls Tryz.prog 96 #[v, .agg #[.int .i64 s.piece, .int .i64 s.at_, .int .i64 s.way]] w fun e w' => e = .returned (.int .i64 (behind n s)) ∧ Below w.heap.size w w' := by
  have hvv := hv
  obtain ⟨a, c, ca, cc, rfl, hp, hj⟩ := hv
  obtain ⟨p, q, y⟩ := s
  obtain ⟨⟨h0, h1⟩, hy, h2, h3⟩ := hs
  dsimp only at h0 h1 hy h2 h3 hlen ⊢
  obtain ⟨b, off, rfl, hb, c1⟩ := hp.len h0 h1
  obtain ⟨pn, rfl⟩ := Int.eq_ofNat_of_zero_le h0
  simp only [Int.toNat_natCast] at c1
  have hs' : SpotOk n ⟨pn, q, y⟩ := ⟨⟨h0, h1⟩, hy, h2, h3⟩
  have hr0 : 0 ≤ room n ⟨pn, q, y⟩ ∧ room n ⟨pn, q, y⟩ ≤ 10000000 := by unfold room; split <;> dsimp only <;> omega
  have hr : -10000000 ≤ lenOf n pn - room n ⟨pn, q, y⟩ ∧ lenOf n pn - room n ⟨pn, q, y⟩ ≤ 10000000 := by omega
  have hwr := wrap_small (x := lenOf n pn - room n ⟨pn, q, y⟩) (by omega) (by omega)
  have hb2 : b < w.heap.size + 1 + 1 := by omega
  go_enter Tryz.func96, Tryz.ntmps96
  go_wp2_with fail
  go_region_held3 (fun w' => w'.cell? ⟨w.heap.size, 0, none⟩ = some (.slice (some ⟨b, off, none⟩) n.pieces.length ca) ∧ w'.cell? ⟨w.heap.size, 1, none⟩ = some (.slice c n.joints.length cc)
      ∧ w'.cell? ⟨w.heap.size + 1, 0, none⟩ = some (.int .i64 pn) ∧ w'.cell? ⟨w.heap.size + 1, 1, none⟩ = some (.int .i64 q) ∧ w'.cell? ⟨w.heap.size + 1, 2, none⟩ = some (.int .i64 y)
      ∧ w'.cell? ⟨b, off + pn * 4 + 1, none⟩ = some (.int .i64 (lenOf n pn)) ) (((try dsimp only); (repeat' apply And.intro)) <;> (go_keep; done))
    (first | (go_at_call 131; refine (l2room_any _ n ⟨pn, q, y⟩ _ (hvv.below bw0) hs' hlen).mono ?_; rintro e w1 ⟨rfl, hb1⟩; obtain ⟨hc1, hf1⟩ := bcell hb1; have q0 := hc1 w.heap.size 0 (by simp <;> omega); have q1 := hc1 w.heap.size 1 (by simp <;> omega)))
  all_goals have hbw := Below.trans (bw0 : Below w.heap.size w _) (hb1.mono (by simp <;> omega))
  all_goals go_wp2
  all_goals go_ret
  all_goals exact ⟨by simp [behind], hbw⟩

set_option maxHeartbeats 1000000 in
theorem l1at_any (v : Value) (n : Nt) (p s : Int) (w : World) {L : Nat} (hv : NetAt L w v n) (hl' : n.joints.length ≤ 1048576) (hle : ∀ i (h : i < n.joints.length), n.joints[i].ends.length ≤ 1048576) (hex : ∃ i k, StandsAt n.joints ⟨p, s⟩ i k) :
    Calls Tryz.prog 154 #[v, .agg #[.int .i64 p, .int .i64 s]] w fun e w' => ∃ i k : Nat, e = .returned (.tuple #[.int .i64 i, .int .i64 k]) ∧ StandsAt n.joints ⟨p, s⟩ i k ∧ Below w.heap.size w w' := by
  obtain ⟨a, c, ca, cc, rfl, hp, hj⟩ := hv
  have HEX := hide hex
  clear hex
  go_enter Tryz.func154, Tryz.ntmps154
  go_wp2_with fail
  go_loopw [13] (fun x wr => ∃ k : Nat, k ≤ n.joints.length ∧ x = .int .i64 k ∧ (∀ i' k', StandsAt n.joints ⟨p, s⟩ i' k' → k ≤ i')
    ∧ Boxed wr (w.heap.size + 1) [.int .i64 p, .int .i64 s] ∧ Below w.heap.size w wr) (fun x _ => n.joints.length - (intOf x).toNat)
  case atStart => exact ⟨0, Nat.zero_le _, rfl, fun _ _ _ => Nat.zero_le _, boxedN _ _ _ (by simp), bw0⟩
  case round =>
    obtain ⟨k, hk, rfl, hno, hB2, hb⟩ := hrel
    have HNO := hide hno
    have n2 := hB2.1
    have hsz := hb.size
    clear hno
    by_cases hlt : k < n.joints.length
    · obtain ⟨b, off, ea, ec, rfl, hbs, c0, c1, c2, he⟩ := hj.below hb k hlt
      have hlen := hle k hlt
      go_wp2_with fail
      go_loopw [21] (fun x wq => ∃ m : Nat, m ≤ n.joints[k].ends.length ∧ x = .int .i64 m ∧ (∀ k', StandsAt n.joints ⟨p, s⟩ k k' → m ≤ k')
        ∧ Boxed wq (w.heap.size + 1) [.int .i64 p, .int .i64 s] ∧ Below wr.heap.size wr wq) (fun x _ => n.joints[k].ends.length - (intOf x).toNat)
      case atStart => exact ⟨0, Nat.zero_le _, rfl, fun _ _ => Nat.zero_le _, hB2.below bw0, bw0⟩
      case round =>
        clear n2 hB2
        obtain ⟨m, hm, rfl, hno2, hB2, hb2⟩ := hrel
        have HNO2 := hide hno2
        clear hno2
        have n2 := hB2.1
        have hsz2 := hb2.size
        have d0 := hB2.2.1 0 _ rfl
        have d1 := hB2.2.1 1 _ rfl
        by_cases hlt2 : m < n.joints[k].ends.length
        · obtain ⟨b2, off2, rfl, hbs2, e0, e1⟩ := he.below hb2 m hlt2
          generalize hx : n.joints[k].ends[m] = ed at *
          obtain ⟨p0, s0⟩ := ed
          dsimp only at e0 e1
          have HX := hide hx
          clear hx
          by_cases hE : p0 = p ∧ s0 = s
          · obtain ⟨rfl, rfl⟩ := hE
            go_wp2
            go_ret2
            exact ⟨k, m, rfl, ⟨hlt, hlt2, unhide HX⟩, below_then hb (by repeat (first | with_reducible exact Below.refl _ _ | with_reducible exact hb2 | refine bwS ?_ | refine bwA ?_ | refine Below.drew ?_ | refine below_draws ?_ _ | exact hb2 | exact Below.refl _ _))⟩
          · have HE := hide hE
            clear hE
            go_wp2
            all_goals first
              | (exfalso; exact unhide HE ⟨by assumption, by assumption⟩)
              | (refine ⟨⟨m + 1, by omega, by go_num, fun k' hk' => ?_, hB2.below bw0, Below.alloc hb2 hb2.size _⟩, by simp [intOf]; omega⟩
                 have h1 := unhide HNO2 k' hk'
                 by_cases e : k' = m
                 · subst e
                   obtain ⟨_, _, h3⟩ := hk'
                   rw [unhide HX] at h3
                   simp at h3
                   exact absurd h3 (unhide HE)
                 · omega)
        · go_wp2
          refine ⟨⟨k + 1, by omega, by go_num, fun i' k' hs' => ?_, hB2, below_then hb hb2⟩, by simp [intOf]; omega⟩
          have h1 := unhide HNO i' k' hs'
          by_cases e : i' = k
          · subst e
            have h2 := unhide HNO2 k' hs'
            obtain ⟨_, h3, _⟩ := hs'
            omega
          · omega
    · exfalso
      obtain ⟨i, k', hs'⟩ := unhide HEX
      have := unhide HNO i k' hs'
      obtain ⟨h3, _⟩ := hs'
      omega

end Go.Proofs.YtbdggfpfpjijoaaGreat

