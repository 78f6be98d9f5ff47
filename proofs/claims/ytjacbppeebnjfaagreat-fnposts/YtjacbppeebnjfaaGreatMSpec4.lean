import Derived.Test.YtjacbppeebnjfaaGreatMPlain2
import Derived.Test.YtjacbppeebnjfaaGreatMEq
import Derived.BigQuiet
import Derived.BigRegion
import Derived.Deep.QuietTactic
import Derived.Deep.RegionWith
import Derived.Deep.RegionHeld3
import Derived.Test.YtjacbppeebnjfaaGreatMImpl1
namespace Go.Proofs.YtjacbppeebnjfaaGreat
open Go.RowKit

theorem l1in_B (x a b : Int) (w : World) :
  Calls Tryz.prog 26 #[.int .i64 x, .int .i64 a, .int .i64 b] w fun e w' => e = .returned (.bool (inB x a b)) ∧ w' = w :=
 (l1in_any x a b w).mono fun e w' ⟨he, hw⟩ => ⟨by
  rcases he with ⟨rfl, h⟩ | ⟨rfl, h⟩
  ·rw [inB_true h]
  ·rw [inB_false h], hw⟩

theorem l1in_T (x a b : Int) (w : World) (h : inB x a b = true) :
  Calls Tryz.prog 26 #[.int .i64 x, .int .i64 a, .int .i64 b] w fun e w' => e = .returned (.bool true) ∧ w' = w :=
 (l1in_B x a b w).mono fun e w' ⟨he, hw⟩ => ⟨by rw [he, h], hw⟩
theorem l1in_F (x a b : Int) (w : World) (h : inB x a b = false) :
  Calls Tryz.prog 26 #[.int .i64 x, .int .i64 a, .int .i64 b] w fun e w' => e = .returned (.bool false) ∧ w' = w :=
 (l1in_B x a b w).mono fun e w' ⟨he, hw⟩ => ⟨by rw [he, h], hw⟩

theorem PcsAt.len {L : Nat} {w : World} {a : Option Addr} {n : Nt} (h : PcsAt L w a n.pieces) {p : Int} (h0 : 0 ≤ p) (h1 : p < n.pieces.length) :
  ∃ b off, a = some ⟨b, off, none⟩ ∧ b < w.heap.size ∧ w.cell? ⟨b, off + p.toNat * 4 + 1, none⟩ = some (.int .i64 (lenOf n p)) := by
 obtain ⟨b, off, ha, hb, _, c1, _, _⟩ := h p.toNat (by omega)
 refine ⟨b, off, ha, hb.2, ?_⟩
 rw [c1]
 simp [lenOf, List.getElem?_eq_getElem (show p.toNat < n.pieces.length by omega)]

theorem wrap_small {x : Int} (h0 : -1000000000000000 ≤ x) (h1 : x ≤ 1000000000000000) : IntKind.i64.wrap x = x := by
 rw [IntKind.wrap_i64]
 omega

set_option maxHeartbeats 2000000 in
theorem l2spot_any (v : Value) (n : Nt) (s : Sp) (w : World) {L : Nat} (hv : NetAt L w v n) (hl : n.pieces.length ≤ 1048576) :
  Calls Tryz.prog 70 #[v, .agg #[.int .i64 s.piece, .int .i64 s.at_, .int .i64 s.way]] w fun e w' => RetB (SpotOk n s) e ∧ Below w.heap.size w w' := by
 obtain ⟨a, c, ca, cc, rfl, hp, hj⟩ := hv
 obtain ⟨p, q, y⟩ := s
 dsimp only
 have hwr := wrap_small (x := (n.pieces.length : Int) - 1) (by omega) (by omega)
 by_cases h1 : 0 ≤ p ∧ p ≤ (n.pieces.length : Int) - 1
 ·have e1 := inB_true h1
  obtain ⟨b, off, rfl, hb, c1⟩ := hp.len h1.1 (by omega)
  obtain ⟨pn, rfl⟩ := Int.eq_ofNat_of_zero_le h1.1
  simp only [Int.toNat_natCast] at c1
  have hlt : (pn : Int) < (n.pieces.length : Int) := by omega
  have hnn : (0 : Int) ≤ (pn : Int) := by omega
  by_cases hy : y = 1 ∨ y = -1
  ·rcases hy with rfl | rfl
   all_goals
    by_cases h3 : 0 ≤ q ∧ q ≤ lenOf n pn
    ·have e3 := inB_true h3
     go_enter Tryz.func70, Tryz.ntmps70
     go_wp2_with fail
     go_quiet ((go_at_call 26; first | exact Calls.quiet_of_same (l1in_T _ _ _ _ (by assumption)) | exact Calls.quiet_of_same (l1in_F _ _ _ _ (by assumption))))
     go_wp2
     go_ret
     exact ⟨retB_true ⟨⟨hnn, hlt⟩, by simp, h3⟩, bw0⟩
    ·have e3 := inB_false h3
     go_enter Tryz.func70, Tryz.ntmps70
     go_wp2_with fail
     go_quiet ((go_at_call 26; first | exact Calls.quiet_of_same (l1in_T _ _ _ _ (by assumption)) | exact Calls.quiet_of_same (l1in_F _ _ _ _ (by assumption))))
     go_wp2
     go_ret
     exact ⟨retB_false fun h => h3 h.2.2, bw0⟩
  ·have y1 : (y == 1) = false := by simp; omega
   have y2 : (y == -1) = false := by simp; omega
   have HY := hide hy
   clear hy
   go_enter Tryz.func70, Tryz.ntmps70
   go_wp2_with fail
   go_quiet ((go_at_call 26; first | exact Calls.quiet_of_same (l1in_T _ _ _ _ (by assumption)) | exact Calls.quiet_of_same (l1in_F _ _ _ _ (by assumption))))
   go_wp2
   go_ret
   exact ⟨retB_false fun h => unhide HY h.2.1, bw0⟩
 ·have e1 := inB_false h1
  go_enter Tryz.func70, Tryz.ntmps70
  go_wp2_with fail
  go_quiet ((go_at_call 26; first | exact Calls.quiet_of_same (l1in_T _ _ _ _ (by assumption)) | exact Calls.quiet_of_same (l1in_F _ _ _ _ (by assumption))))
  go_wp2
  go_ret
  exact ⟨retB_false fun h => h1 ⟨h.1.1, by have := h.1.2; dsimp only at this; omega⟩, bw0⟩

set_option maxHeartbeats 400000 in
theorem l2head_any (p y : Int) (w : World) :
  Calls Tryz.prog 61 #[.int .i64 p, .int .i64 y] w fun e w' => e = .returned (.agg #[.int .i64 (hd p y).piece, .int .i64 (hd p y).side]) ∧ Below w.heap.size w w' := by
 by_cases hy : y = 1
 ·subst hy
  go_enter Tryz.func61, Tryz.ntmps61
  go_wp2
  exact bodyPost_ret (v := .agg #[.int .i64 p, .int .i64 1]) (by simp [results, Tryz.results61, go_sem]) rfl ⟨by simp [hd], bw0⟩
 ·have y1 : (y == 1) = false := by simp; omega
  have HY := hide hy
  clear hy
  go_enter Tryz.func61, Tryz.ntmps61
  go_wp2
  exact bodyPost_ret (v := .agg #[.int .i64 p, .int .i64 0]) (by simp [results, Tryz.results61, go_sem]) rfl ⟨by simp [hd, unhide HY], bw0⟩

set_option maxHeartbeats 1000000 in
theorem l2room_any (v : Value) (n : Nt) (s : Sp) (w : World) {L : Nat} (hv : NetAt L w v n) (hs : SpotOk n s) (hlen : lenOf n s.piece ≤ 10000000) :
  Calls Tryz.prog 59 #[v, .agg #[.int .i64 s.piece, .int .i64 s.at_, .int .i64 s.way]] w fun e w' => e = .returned (.int .i64 (room n s)) ∧ Below w.heap.size w w' := by
 obtain ⟨a, c, ca, cc, rfl, hp, hj⟩ := hv
 obtain ⟨p, q, y⟩ := s
 obtain ⟨⟨h0, h1⟩, hy, h2, h3⟩ := hs
 dsimp only at h0 h1 hy h2 h3 hlen ⊢
 obtain ⟨b, off, rfl, hb, c1⟩ := hp.len h0 h1
 obtain ⟨pn, rfl⟩ := Int.eq_ofNat_of_zero_le h0
 simp only [Int.toNat_natCast] at c1
 have hwr := wrap_small (x := lenOf n pn - q) (by omega) (by omega)
 rcases hy with rfl | rfl
 ·go_enter Tryz.func59, Tryz.ntmps59
  go_wp2_with fail
  go_quiet (fail)
  go_wp2
  go_ret
  exact ⟨by simp [room], bw0⟩
 ·go_enter Tryz.func59, Tryz.ntmps59
  go_wp2
  go_ret
  exact ⟨by simp [room], bw0⟩
end Go.Proofs.YtjacbppeebnjfaaGreat

namespace Go.Proofs.YtjacbppeebnjfaaGreat
open Go.RowKit

set_option maxHeartbeats 2000000 in
theorem l2behind_any (v : Value) (n : Nt) (s : Sp) (w : World) {L : Nat} (hv : NetAt L w v n) (hs : SpotOk n s) (hlen : lenOf n s.piece ≤ 10000000) :
    Calls Tryz.prog 64 #[v, .agg #[.int .i64 s.piece, .int .i64 s.at_, .int .i64 s.way]] w fun e w' => e = .returned (.int .i64 (behind n s)) ∧ Below w.heap.size w w' := by
  have hvv := hv
  obtain ⟨a, c, ca, cc, rfl, hp, hj⟩ := hv
  obtain ⟨p, q, y⟩ := s
  obtain ⟨⟨h0, h1⟩, hy, h2, h3⟩ := hs
  dsimp only at h0 h1 hy h2 h3 hlen ⊢
  obtain ⟨b, off, rfl, hb, c1⟩ := hp.len h0 h1
  obtain ⟨pn, rfl⟩ := Int.eq_ofNat_of_zero_le h0
  simp only [Int.toNat_natCast] at c1
  have hs' : SpotOk n ⟨pn, q, y⟩ := ⟨⟨h0, h1⟩, hy, h2, h3⟩
  have hr0 : 0 ≤ room n ⟨pn, q, y⟩ ∧ room n ⟨pn, q, y⟩ ≤ 10000000 := by unfold room; split <;> dsimp only <;> omega
  have hr : -10000000 ≤ lenOf n pn - room n ⟨pn, q, y⟩ ∧ lenOf n pn - room n ⟨pn, q, y⟩ ≤ 10000000 := by omega
  have hwr := wrap_small (x := lenOf n pn - room n ⟨pn, q, y⟩) (by omega) (by omega)
  have hb2 : b < w.heap.size + 1 + 1 := by omega
  go_enter Tryz.func64, Tryz.ntmps64
  go_wp2_with fail
  go_region_held3 (fun w' => w'.cell? ⟨w.heap.size, 0, none⟩ = some (.slice (some ⟨b, off, none⟩) n.pieces.length ca) ∧ w'.cell? ⟨w.heap.size, 1, none⟩ = some (.slice c n.joints.length cc)
      ∧ w'.cell? ⟨w.heap.size + 1, 0, none⟩ = some (.int .i64 pn) ∧ w'.cell? ⟨w.heap.size + 1, 1, none⟩ = some (.int .i64 q) ∧ w'.cell? ⟨w.heap.size + 1, 2, none⟩ = some (.int .i64 y)
      ∧ w'.cell? ⟨b, off + pn * 4 + 1, none⟩ = some (.int .i64 (lenOf n pn)) ) (((try dsimp only); (repeat' apply And.intro)) <;> (go_keep; done))
    (first | (go_at_call 59; refine (l2room_any _ n ⟨pn, q, y⟩ _ (hvv.below bw0) hs' hlen).mono ?_; rintro e w1 ⟨rfl, hb1⟩; obtain ⟨hc1, hf1⟩ := bcell hb1; have q0 := hc1 w.heap.size 0 (by simp <;> omega); have q1 := hc1 w.heap.size 1 (by simp <;> omega)))
  all_goals have hbw := Below.trans (bw0 : Below w.heap.size w _) (hb1.mono (by simp <;> omega))
  all_goals go_wp2
  all_goals go_ret
  all_goals exact ⟨by simp [behind], hbw⟩

set_option maxHeartbeats 1000000 in
theorem l1at_any (v : Value) (n : Nt) (p s : Int) (w : World) {L : Nat} (hv : NetAt L w v n) (hl' : n.joints.length ≤ 1048576) (hle : ∀ i (h : i < n.joints.length), n.joints[i].ends.length ≤ 1048576) (hex : ∃ i k, StandsAt n.joints ⟨p, s⟩ i k) :
    Calls Tryz.prog 93 #[v, .agg #[.int .i64 p, .int .i64 s]] w fun e w' => ∃ i k : Nat, e = .returned (.tuple #[.int .i64 i, .int .i64 k]) ∧ StandsAt n.joints ⟨p, s⟩ i k ∧ Below w.heap.size w w' := by
  obtain ⟨a, c, ca, cc, rfl, hp, hj⟩ := hv
  have HEX := hide hex
  clear hex
  go_enter Tryz.func93, Tryz.ntmps93
  go_wp2_with fail
  go_loopw [13] (fun x wr => ∃ k : Nat, k ≤ n.joints.length ∧ x = .int .i64 k ∧ (∀ i' k', StandsAt n.joints ⟨p, s⟩ i' k' → k ≤ i')
    ∧ Boxed wr (w.heap.size + 1) [.int .i64 p, .int .i64 s] ∧ Below w.heap.size w wr) (fun x _ => n.joints.length - (intOf x).toNat)
  case atStart => exact ⟨0, Nat.zero_le _, rfl, fun _ _ _ => Nat.zero_le _, boxedN _ _ _ (by simp), bw0⟩
  case round =>
    obtain ⟨k, hk, rfl, hno, hB2, hb⟩ := hrel
    have HNO := hide hno
    have n2 := hB2.1
    have hsz := hb.size
    clear hno
    by_cases hlt : k < n.joints.length
    · obtain ⟨b, off, ea, ec, rfl, hbs, c0, c1, c2, he⟩ := hj.below hb k hlt
      have hlen := hle k hlt
      go_wp2_with fail
      go_loopw [21] (fun x wq => ∃ m : Nat, m ≤ n.joints[k].ends.length ∧ x = .int .i64 m ∧ (∀ k', StandsAt n.joints ⟨p, s⟩ k k' → m ≤ k')
        ∧ Boxed wq (w.heap.size + 1) [.int .i64 p, .int .i64 s] ∧ Below wr.heap.size wr wq) (fun x _ => n.joints[k].ends.length - (intOf x).toNat)
      case atStart => exact ⟨0, Nat.zero_le _, rfl, fun _ _ => Nat.zero_le _, hB2.below bw0, bw0⟩
      case round =>
        clear n2 hB2
        obtain ⟨m, hm, rfl, hno2, hB2, hb2⟩ := hrel
        have HNO2 := hide hno2
        clear hno2
        have n2 := hB2.1
        have hsz2 := hb2.size
        have d0 := hB2.2.1 0 _ rfl
        have d1 := hB2.2.1 1 _ rfl
        by_cases hlt2 : m < n.joints[k].ends.length
        · obtain ⟨b2, off2, rfl, hbs2, e0, e1⟩ := he.below hb2 m hlt2
          generalize hx : n.joints[k].ends[m] = ed at *
          obtain ⟨p0, s0⟩ := ed
          dsimp only at e0 e1
          have HX := hide hx
          clear hx
          by_cases hE : p0 = p ∧ s0 = s
          · obtain ⟨rfl, rfl⟩ := hE
            go_wp2
            go_ret2
            exact ⟨k, m, rfl, ⟨hlt, hlt2, unhide HX⟩, below_then hb (bw1 hb2)⟩
          · have HE := hide hE
            clear hE
            go_wp2
            all_goals first
              | (exfalso; exact unhide HE ⟨by assumption, by assumption⟩)
              | (refine ⟨⟨m + 1, by omega, by go_num, fun k' hk' => ?_, hB2.below bw0, Below.alloc hb2 hb2.size _⟩, by simp [intOf]; omega⟩
                 have h1 := unhide HNO2 k' hk'
                 by_cases e : k' = m
                 · subst e
                   obtain ⟨_, _, h3⟩ := hk'
                   rw [unhide HX] at h3
                   simp at h3
                   exact absurd h3 (unhide HE)
                 · omega)
        · go_wp2
          refine ⟨⟨k + 1, by omega, by go_num, fun i' k' hs' => ?_, hB2, below_then hb hb2⟩, by simp [intOf]; omega⟩
          have h1 := unhide HNO i' k' hs'
          by_cases e : i' = k
          · subst e
            have h2 := unhide HNO2 k' hs'
            obtain ⟨_, h3, _⟩ := hs'
            omega
          · omega
    · exfalso
      obtain ⟨i, k', hs'⟩ := unhide HEX
      have := unhide HNO i k' hs'
      obtain ⟨h3, _⟩ := hs'
      omega

end Go.Proofs.YtjacbppeebnjfaaGreat

namespace Go.Proofs.YtjacbppeebnjfaaGreat
open Go.RowKit

def RetEs (N : Nat) (es : List Ed) (e : Ending) (w' : World) : Prop := ∃ a cap, e = .returned (.slice a (List.length es) cap) ∧ EdsAt N w' a es

set_option maxRecDepth 100000 in
set_option maxHeartbeats 4000000 in
theorem l1across_any (j : Jt) (k : Nat) (ea : Option Addr) (cap : Nat) (w : World) {L : Nat} (hp : EdsAt L w ea j.ends) (hK : KindOk j.kind j.ends) (hk : k < j.ends.length) :
  Calls Tryz.prog 94 #[.agg #[.int .i64 j.kind, .string j.name, .slice ea j.ends.length cap], .int .i64 k] w fun e w' => RetEs w.heap.size (across j k) e w' ∧ Below w.heap.size w w' := by
 obtain ⟨kd, nm, es⟩ := j
 obtain ⟨⟨hk1, hk4⟩, hlen⟩ := hK
 dsimp only at hk1 hk4 hlen hp hk ⊢
 have h4 : kd = 1 ∨ kd = 2 ∨ kd = 3 ∨ kd = 4 := by omega
 clear hk1 hk4
 rcases h4 with rfl | rfl | rfl | rfl
 ·match es, hlen, hp, hk with
  | [a], _, hp, hk =>
   clear hlen
   obtain ⟨B, off, rfl, hbs, x0, y0⟩ := hp 0 (by simp)
   simp at x0 y0 hk
   obtain rfl : k = 0 := by omega
   go_enter Tryz.func94, Tryz.ntmps94
   go_wp2
   go_ret
   exact ⟨⟨none, 0, by simp [across], fun i hi => by simp [across] at hi⟩, bw0⟩
 ·match es, hlen, hp, hk with
  | [a, b], _, hp, hk =>
   clear hlen
   obtain ⟨B, off, rfl, hbs, x0, y0⟩ := hp 0 (by simp)
   obtain ⟨B1, off1, hq1, hbs1, x1, y1⟩ := hp 1 (by simp)
   obtain ⟨rfl, rfl⟩ : B = B1 ∧ off = off1 := by simpa using hq1
   clear hq1
   simp at x0 y0 x1 y1 hk
   have hk' : k = 0 ∨ k = 1 := by omega
   rcases hk' with rfl | rfl
   all_goals
    go_enter Tryz.func94, Tryz.ntmps94
    go_wp2
    go_ret
    refine ⟨⟨some ⟨w.heap.size + 1, 0, none⟩, 1, by simp [across], fun i hi => ?_⟩, bw0⟩
    have hi' : i = 0 := by simp [across] at hi; omega
    subst hi'; refine ⟨w.heap.size + 1, 0, rfl, ⟨by omega, by simp⟩, ?_, ?_⟩ <;> simp [across, endOf]
 ·match es, hlen, hp, hk with
  | [a, b, c], _, hp, hk =>
   clear hlen
   obtain ⟨B, off, rfl, hbs, x0, y0⟩ := hp 0 (by simp)
   obtain ⟨B1, off1, hq1, hbs1, x1, y1⟩ := hp 1 (by simp)
   obtain ⟨rfl, rfl⟩ : B = B1 ∧ off = off1 := by simpa using hq1
   clear hq1
   obtain ⟨B2, off2, hq2, hbs2, x2, y2⟩ := hp 2 (by simp)
   obtain ⟨rfl, rfl⟩ : B = B2 ∧ off = off2 := by simpa using hq2
   clear hq2
   simp at x0 y0 x1 y1 x2 y2 hk
   have hk' : k = 0 ∨ k = 1 ∨ k = 2 := by omega
   rcases hk' with rfl | rfl | rfl
   ·go_enter Tryz.func94, Tryz.ntmps94
    go_wp2
    go_region
    go_wp2
    go_ret
    refine ⟨⟨some ⟨w.heap.size + 1, 0, none⟩, 2, by simp [across], fun i hi => ?_⟩, bw0⟩
    have hi' : i = 0 ∨ i = 1 := by simp [across] at hi; omega
    rcases hi' with rfl | rfl <;> refine ⟨w.heap.size + 1, 0, rfl, ⟨by omega, by simp⟩, ?_, ?_⟩ <;> simp [across, endOf]
   all_goals
    go_enter Tryz.func94, Tryz.ntmps94
    go_wp2
    go_ret
    refine ⟨⟨some ⟨w.heap.size + 1, 0, none⟩, 1, by simp [across], fun i hi => ?_⟩, bw0⟩
    have hi' : i = 0 := by simp [across] at hi; omega
    subst hi'; refine ⟨w.heap.size + 1, 0, rfl, ⟨by omega, by simp⟩, ?_, ?_⟩ <;> simp [across, endOf]
 ·match es, hlen, hp, hk with
  | [a, b, c, d], _, hp, hk =>
   clear hlen
   obtain ⟨B, off, rfl, hbs, x0, y0⟩ := hp 0 (by simp)
   obtain ⟨B1, off1, hq1, hbs1, x1, y1⟩ := hp 1 (by simp)
   obtain ⟨rfl, rfl⟩ : B = B1 ∧ off = off1 := by simpa using hq1
   clear hq1
   obtain ⟨B2, off2, hq2, hbs2, x2, y2⟩ := hp 2 (by simp)
   obtain ⟨rfl, rfl⟩ : B = B2 ∧ off = off2 := by simpa using hq2
   clear hq2
   obtain ⟨B3, off3, hq3, hbs3, x3, y3⟩ := hp 3 (by simp)
   obtain ⟨rfl, rfl⟩ : B = B3 ∧ off = off3 := by simpa using hq3
   clear hq3
   simp at x0 y0 x1 y1 x2 y2 x3 y3 hk
   have hk' : k = 0 ∨ k = 1 ∨ k = 2 ∨ k = 3 := by omega
   rcases hk' with rfl | rfl | rfl | rfl
   all_goals
    go_enter Tryz.func94, Tryz.ntmps94
    go_wp2
    go_region
    go_wp2
    go_ret
    refine ⟨⟨some ⟨w.heap.size + 1 + 1, 0, none⟩, 1, by simp [across], fun i hi => ?_⟩, bw0⟩
    have hi' : i = 0 := by simp [across] at hi; omega
    subst hi'; refine ⟨w.heap.size + 1 + 1, 0, rfl, ⟨by omega, by simp⟩, ?_, ?_⟩ <;> simp [across, endOf] <;> first | exact (boxedN _ _ _ (by simp)).2.1 0 _ rfl | exact (boxedN _ _ _ (by simp)).2.1 1 _ rfl

end Go.Proofs.YtjacbppeebnjfaaGreat

namespace Go.Proofs.YtjacbppeebnjfaaGreat
open Go.RowKit

structure NetGood (n : Nt) : Prop where
  fits : ∀ i (h : i < n.joints.length), JtFits n.pieces.length n.joints[i]
  once : ∀ p : Nat, p < n.pieces.length → ∀ s : Int, s = 0 ∨ s = 1 → uses n.joints p s = 1
  np : n.pieces.length ≤ 100
  nj : n.joints.length ≤ 120
  lens : ∀ i (h : i < n.pieces.length), 1 ≤ n.pieces[i].len ∧ n.pieces[i].len ≤ 10000000

theorem NetGood.kind {n : Nt} (h : NetGood n) {i : Nat} (hi : i < n.joints.length) : KindOk n.joints[i].kind n.joints[i].ends := ⟨(h.fits i hi).1, (h.fits i hi).2.1⟩
theorem NetGood.ends {n : Nt} (h : NetGood n) : ∀ i (hi : i < n.joints.length), n.joints[i].ends.length ≤ 1048576 := fun i hi => by
  have h1 := (h.fits i hi).2.1
  have h2 := (h.fits i hi).1.2
  omega
theorem NetGood.hd {n : Nt} (h : NetGood n) {p : Int} (h0 : 0 ≤ p) (h1 : p < n.pieces.length) (y : Int) : uses n.joints (hd p y).piece (hd p y).side = 1 := by
  obtain ⟨pn, rfl⟩ := Int.eq_ofNat_of_zero_le h0
  have := h.once pn (by omega) (Go.Proofs.YtjacbppeebnjfaaGreat.hd pn y).side (by unfold Go.Proofs.YtjacbppeebnjfaaGreat.hd; dsimp only; split <;> simp)
  simpa [Go.Proofs.YtjacbppeebnjfaaGreat.hd] using this
theorem NetGood.len {n : Nt} (h : NetGood n) {p : Int} (h0 : 0 ≤ p) (h1 : p < n.pieces.length) : 1 ≤ lenOf n p ∧ lenOf n p ≤ 10000000 := by
  have := h.lens p.toNat (by omega)
  unfold lenOf
  rw [List.getElem?_eq_getElem (show p.toNat < n.pieces.length by omega)]
  simpa using this

theorem netGood {n : Nt} (h : NetRes n 0 0) : NetGood n := by
  have hF := (netRes_zero h).2
  unfold NetRes at h
  by_cases ho : n.pieces.length = 0 ∨ 100 < n.pieces.length ∨ 120 < n.joints.length
  · have := (h.1 ho).1; omega
  · obtain ⟨r2, r3, r4, r5, h2, h2a, h2b⟩ := h.2 ho
    by_cases e2 : r2 = -1
    · obtain ⟨h3, h3a, h3b⟩ := h2b e2
      by_cases e3 : r3 = -1
      · obtain ⟨h4, h4a, h4b⟩ := h3b e3
        by_cases e4 : r4 = -1
        · obtain ⟨h5, h5a, h5b⟩ := h4b e4
          by_cases e5 : r5 = -1
          · subst e2 e5
            have g2 : ∀ k, k < n.pieces.length → ¬ BadPc n.pieces k := by
              rcases h2 with ⟨_, g⟩ | ⟨i, _, hi, _⟩
              · exact g
              · omega
            have g5 : ∀ k, k < n.pieces.length → ¬ Bad5 n.joints k := by
              rcases h5 with ⟨_, g⟩ | ⟨i, _, hi, _⟩
              · exact g
              · omega
            refine ⟨hF, fun p hp s hs => ?_, by omega, by omega, fun i hi => ?_⟩
            · have := g5 p hp
              unfold Bad5 at this
              rcases hs with rfl | rfl
              · exact Classical.byContradiction fun hc => this (Or.inl hc)
              · exact Classical.byContradiction fun hc => this (Or.inr hc)
            · have := g2 i hi
              exact Classical.byContradiction fun hc => this ⟨hi, Or.inl fun hf => hc hf.2.1⟩
          · have := (h5a e5).1; omega
        · have := (h4a e4).1; omega
      · have := (h3a e3).1; omega
    · have := (h2a e2).1; omega

set_option maxRecDepth 100000 in
set_option maxHeartbeats 2000000 in
theorem l2joined_any (v : Value) (n : Nt) (a b : St) (w : World) {L : Nat} (hv : NetAt L w v n) (hG : NetGood n) (ha : StepOk n a) (hb : StepOk n b) :
    Calls Tryz.prog 72 #[v, .agg #[.int .i64 a.piece, .int .i64 a.way], .agg #[.int .i64 b.piece, .int .i64 b.way]] w fun e w' => RetB (Joined n a b) e ∧ Below w.heap.size w w' := by
  have hvv := hv
  obtain ⟨x, c, ca, cc, rfl, hp, hj⟩ := hv
  obtain ⟨i0, k0, hst⟩ := stands_some (hG.hd ha.1.1 ha.1.2 a.way)
  have hJ : Joined n a b ↔ ∃ h : i0 < n.joints.length, hd b.piece (-b.way) ∈ across n.joints[i0] k0 := by
    constructor
    · rintro ⟨i, k, h, h1, h2⟩
      obtain ⟨rfl, rfl⟩ := stands_unique (hG.hd ha.1.1 ha.1.2 a.way) hst h1
      exact ⟨h, h2⟩
    · rintro ⟨h, h2⟩
      exact ⟨i0, k0, h, hst, h2⟩
  have HJ := hide hJ
  have hneg : IntKind.i64.wrap (-b.way) = -b.way := wrap_small (by have := hb.2; omega) (by have := hb.2; omega)
  clear hJ
  obtain ⟨ap, ay⟩ := a
  obtain ⟨bp, by_⟩ := b
  dsimp only at hst hneg ⊢
  have HST := hide hst
  clear hst
  go_enter Tryz.func72, Tryz.ntmps72
  go_wp2_with fail
  go_region_held3 (fun w' => w'.cell? ⟨w.heap.size, 0, none⟩ = some (.slice x n.pieces.length ca) ∧ w'.cell? ⟨w.heap.size, 1, none⟩ = some (.slice c n.joints.length cc)
      ∧ w'.cell? ⟨w.heap.size + 1, 0, none⟩ = some (.int .i64 ap) ∧ w'.cell? ⟨w.heap.size + 1, 1, none⟩ = some (.int .i64 ay))
    (((try dsimp only); (repeat' apply And.intro)) <;> (go_keep; done))
    (first
      | (go_at_call 61; refine (l2head_any _ _ _).mono ?_; rintro e w1 ⟨rfl, hb1⟩; obtain ⟨hc1, hf1⟩ := bcell hb1; have q0 := hc1 w.heap.size 0 (by simp <;> omega); have q1 := hc1 w.heap.size 1 (by simp <;> omega); have q2 := hc1 (w.heap.size + 1) 0 (by simp <;> omega); have q3 := hc1 (w.heap.size + 1) 1 (by simp <;> omega))
      | (go_at_call 93; refine (l1at_any _ n _ _ _ (hvv.below (below_then bw0 hb1)) (by have := hG.nj; omega) hG.ends ⟨_, _, unhide HST⟩).mono ?_; rintro e w2 ⟨i1, k1, rfl, hs1, hb2⟩; obtain ⟨hc2, hf2⟩ := bcell hb2; have r0 := hc2 w.heap.size 0 (by have := hb1.size; simp at this ⊢; omega); have r1 := hc2 w.heap.size 1 (by have := hb1.size; simp at this ⊢; omega); have r2 := hc2 (w.heap.size + 1) 0 (by have := hb1.size; simp at this ⊢; omega); have r3 := hc2 (w.heap.size + 1) 1 (by have := hb1.size; simp at this ⊢; omega)))
  have hbw2 : Below w.heap.size w w2 := below_then (below_then bw0 hb1) hb2
  have hBn : Boxed w2 w.heap.size [.slice x n.pieces.length ca, .slice c n.joints.length cc] := (((boxed_alloc w #[.slice x n.pieces.length ca, .slice c n.joints.length cc] 26).below bw0).below hb1).below hb2
  have hBb : Boxed w2 (w.heap.size + 1 + 1) [.int .i64 bp, .int .i64 by_] := (((boxedN _ #[.int .i64 bp, .int .i64 by_] 67 (N := w.heap.size + 1 + 1) (by simp)).below (Below.drew (Below.refl _ _))).below hb1).below hb2
  obtain ⟨rfl, rfl⟩ := stands_unique (hG.hd ha.1.1 ha.1.2 ay) (unhide HST) hs1
  clear hc1 hf1 hc2 hf2 hb1 hb2
  have s0 := hBb.2.1 0 _ rfl
  have s1 := hBb.2.1 1 _ rfl
  obtain ⟨hi0, hk0, he0⟩ := hs1
  clear he0
  go_wp2_with fail
  refine (l2head_any _ _ _).mono ?_
  rintro e w3 ⟨rfl, hb3⟩
  have hbw3 := below_then hbw2 hb3
  have hBn3 := hBn.below hb3
  have t1 := hBn3.2.1 1 _ rfl
  have hsz3 := hbw3.size
  have nn3 := hBn3.1
  obtain ⟨jb, joff, ea, ec, rfl, hjb, c0, c1, c2, hes⟩ := hj.below hbw3 i0 hi0
  have hb3w : Below w3.heap.size w3 (w3.alloc (.cells #[.int .i64 (hd bp (-by_)).piece, .int .i64 (hd bp (-by_)).side] 141)) := bw0
  have hes' := hes.below hb3w
  go_wp2_with fail
  refine (l1across_any n.joints[i0] k0 ea ec _ hes' (hG.kind hi0) hk0).mono ?_
  rintro e w4 ⟨⟨aa, acap, rfl, hea⟩, hb4⟩
  have hbw4 := below_then hbw3 (below_then hb3w hb4)
  have hWt : Boxed w4 w3.heap.size [.int .i64 (hd bp (-by_)).piece, .int .i64 (hd bp (-by_)).side] := (boxed_alloc _ _ _).below hb4
  generalize hac : across n.joints[i0] k0 = ac at *
  generalize hhd : hd bp (-by_) = want at *
  obtain ⟨wp, wsd⟩ := want
  dsimp only at hWt
  have HAC := hide hac
  have HHD := hide hhd
  clear hac hhd
  have hJ2 : Hid (Joined n ⟨ap, ay⟩ ⟨bp, by_⟩ ↔ ∃ k, ∃ h : k < ac.length, ac[k] = ⟨wp, wsd⟩) := by
    refine (unhide HJ).trans ⟨fun ⟨h, hm⟩ => ?_, fun ⟨k, h, hm⟩ => ?_⟩
    · rw [unhide HAC] at hm
      obtain ⟨k, h, he⟩ := List.getElem_of_mem hm
      exact ⟨k, h, he⟩
    · refine ⟨hi0, ?_⟩
      rw [unhide HAC, ← hm]
      exact List.getElem_mem h
  have hacl : ac.length ≤ 2 := by
    rw [← unhide HAC]
    unfold across
    split
    · simp
    · split
      · split <;> simp
      · split <;> simp
  clear HJ t1 s0 s1 c0 c1 c2
  go_wp2_with fail
  go_loopw [36] (fun z wr => ∃ k : Nat, k ≤ ac.length ∧ z = .int .i64 k ∧ (∀ q (h : q < ac.length), q < k → ac[q] ≠ ⟨wp, wsd⟩) ∧ Boxed wr w3.heap.size [.int .i64 wp, .int .i64 wsd] ∧ Below w4.heap.size w4 wr) (fun z _ => ac.length - (intOf z).toNat)
  case atStart => exact ⟨0, Nat.zero_le _, rfl, fun q h h' => by omega, hWt, Below.refl _ _⟩
  case round =>
    obtain ⟨k, hk, rfl, hno, hW, hb⟩ := hrel
    have d0 := hW.2.1 0 _ rfl
    have d1 := hW.2.1 1 _ rfl
    have n3 := hW.1
    have hsz4 := hb.size
    by_cases hlt : k < ac.length
    · obtain ⟨b2, off2, rfl, hbs2, e0, e1⟩ := hea.below hb k hlt
      have HNO := hide hno
      clear hno
      generalize hx : ac[k] = ed at *
      obtain ⟨p0, q0⟩ := ed
      dsimp only at e0 e1
      have HX := hide hx
      clear hx
      by_cases hE : p0 = wp ∧ q0 = wsd
      · obtain ⟨rfl, rfl⟩ := hE
        go_wp2
        go_ret
        exact ⟨retB_true ((unhide hJ2).2 ⟨k, hlt, unhide HX⟩), below_then hbw4 (bw1 hb)⟩
      · have HE := hide hE
        clear hE
        go_wp2
        all_goals first
          | (exfalso; exact unhide HE ⟨by assumption, by assumption⟩)
          | (refine ⟨⟨k + 1, by omega, by go_num, fun q h h' => ?_, hW.below bw0, Below.alloc hb hb.size _⟩, by simp [intOf]; omega⟩
             by_cases e : q = k
             · subst e
               rw [unhide HX]
               intro hc
               simp at hc
               exact unhide HE hc
             · exact unhide HNO q h (by omega))
    · go_wp2
      go_ret
      refine ⟨retB_false fun hJ3 => ?_, below_then hbw4 hb⟩
      obtain ⟨q, h, he⟩ := (unhide hJ2).1 hJ3
      exact hno q h (by omega) he
end Go.Proofs.YtjacbppeebnjfaaGreat

