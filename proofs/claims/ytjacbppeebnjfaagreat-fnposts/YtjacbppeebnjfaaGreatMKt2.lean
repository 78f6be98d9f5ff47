import Derived.Test.YtjacbppeebnjfaaGreatMKt1
import Derived.Test.YtjacbppeebnjfaaGreatMPlain3
import Derived.Deep.RegionHeld3
import Derived.Test.YtjacbppeebnjfaaGreatMPlain
namespace Go.Proofs.YtjacbppeebnjfaaGreat
open Go.RowKit

set_option maxHeartbeats 400000 in
theorem step_any (s : Sp) (w : World) :
  Calls Tryz.prog 46 #[.agg #[.int .i64 s.piece, .int .i64 s.at_, .int .i64 s.way]] w fun e w' => e = .returned (.agg #[.int .i64 s.piece, .int .i64 s.way]) ∧ Below w.heap.size w w' := by
 go_enter Tryz.func46, Tryz.ntmps46
 go_wp2
 all_goals exact bodyPost_ret (v := .agg #[.int .i64 s.piece, .int .i64 s.way]) (by simp [results, Tryz.results46, go_sem]) rfl ⟨rfl, bw0⟩

set_option maxHeartbeats 400000 in
theorem stepTurned_any (s : St) (w : World) (hy : s.way = 1 ∨ s.way = -1) :
  Calls Tryz.prog 83 #[.agg #[.int .i64 s.piece, .int .i64 s.way]] w fun e w' => e = .returned (.agg #[.int .i64 s.piece, .int .i64 (-s.way)]) ∧ Below w.heap.size w w' := by
 have hw : IntKind.i64.wrap (-s.way) = -s.way := wrap_small (by omega) (by omega)
 go_enter Tryz.func83, Tryz.ntmps83
 go_wp2
 all_goals exact bodyPost_ret (v := .agg #[.int .i64 s.piece, .int .i64 (-s.way)]) (by simp [results, Tryz.results83, go_sem]) rfl ⟨rfl, bw0⟩

set_option maxHeartbeats 400000 in
theorem endAhead_any (s : St) (w : World) :
  Calls Tryz.prog 80 #[.agg #[.int .i64 s.piece, .int .i64 s.way]] w fun e w' => e = .returned (hd s.piece s.way).val ∧ Below w.heap.size w w' := by
 by_cases hy : s.way = 1
 ·have hyb : (s.way == 1) = true := by simpa using hy
  have HY := hide hy
  clear hy
  go_enter Tryz.func80, Tryz.ntmps80
  go_wp2
  all_goals exact bodyPost_ret (v := .agg #[.int .i64 s.piece, .int .i64 1]) (by simp [results, Tryz.results80, go_sem]) rfl ⟨by rw [unhide HY]; rfl, bw0⟩
 ·have hyb : (s.way == 1) = false := ne_beq hy
  have HY := hide hy
  clear hy
  go_enter Tryz.func80, Tryz.ntmps80
  go_wp2
  all_goals exact bodyPost_ret (v := .agg #[.int .i64 s.piece, .int .i64 0]) (by simp [results, Tryz.results80, go_sem]) rfl ⟨by simp [hd, Ed.val, unhide HY], bw0⟩

set_option maxHeartbeats 400000 in
theorem endBehind_any (s : St) (w : World) (hy : s.way = 1 ∨ s.way = -1) :
  Calls Tryz.prog 105 #[.agg #[.int .i64 s.piece, .int .i64 s.way]] w fun e w' => e = .returned (hd s.piece (-s.way)).val ∧ Below w.heap.size w w' := by
 go_enter Tryz.func105, Tryz.ntmps105
 go_wp2_with fail
 refine (stepTurned_any s _ hy).mono ?_
 rintro e w1 ⟨rfl, hb1⟩
 have hB : Boxed w1 (w.heap.size + 1) [.int .i64 0, .int .i64 0] := (boxedN _ _ _ (by simp)).below hb1
 go_wp2_with fail
 refine (endAhead_any ⟨s.piece, -s.way⟩ _).mono ?_
 rintro e w2 ⟨rfl, hb2⟩
 have hB2 := hB.below hb2
 have b0 := hB2.2.1 0 _ rfl
 have b1 := hB2.2.1 1 _ rfl
 have z1 := hB2.2.2
 have hbw := below_then (below_then (bw0 : Below w.heap.size w _) hb1) hb2
 unfold Ed.val
 go_wp2
 exact bodyPost_ret (v := (hd s.piece (-s.way)).val) (by simp [results, Tryz.results105, go_sem, b0, b1, Ed.val]) rfl ⟨rfl, (bw1 hbw)⟩

def twd (e : Ed) : St := ⟨e.piece, if e.side = 1 then 1 else -1⟩

set_option maxHeartbeats 400000 in
theorem toward_any (e0 : Ed) (w : World) :
  Calls Tryz.prog 82 #[.agg #[.int .i64 e0.piece, .int .i64 e0.side]] w fun e w' => e = .returned (.agg #[.int .i64 (twd e0).piece, .int .i64 (twd e0).way]) ∧ Below w.heap.size w w' := by
 by_cases hy : e0.side = 1
 ·have hyb : (e0.side == 1) = true := by simpa using hy
  have HY : Hid (twd e0 = ⟨e0.piece, 1⟩) := by unfold Hid twd; rw [if_pos hy]
  clear hy
  go_enter Tryz.func82, Tryz.ntmps82
  go_wp2
  all_goals exact bodyPost_ret (v := .agg #[.int .i64 e0.piece, .int .i64 1]) (by simp [results, Tryz.results82, go_sem]) rfl ⟨by rw [unhide HY], bw0⟩
 ·have hyb : (e0.side == 1) = false := ne_beq hy
  have HY : Hid (twd e0 = ⟨e0.piece, -1⟩) := by unfold Hid twd; rw [if_neg hy]
  clear hy
  go_enter Tryz.func82, Tryz.ntmps82
  go_wp2
  all_goals exact bodyPost_ret (v := .agg #[.int .i64 e0.piece, .int .i64 (-1)]) (by simp [results, Tryz.results82, go_sem]) rfl ⟨by rw [unhide HY], bw0⟩

set_option maxHeartbeats 1000000 in
theorem isStep_any (kv : Value) (n : Nt) (s : St) (w : World) {L : Nat} (hk : TrkAt L w kv n) :
  Calls Tryz.prog 125 #[kv, .agg #[.int .i64 s.piece, .int .i64 s.way]] w fun e w' => RetB (StepOk n s) e ∧ Below w.heap.size w w' := by
 obtain ⟨a, ca, sh, csh, st, cst, rfl, hp, hsh, hsd⟩ := hk
 obtain ⟨p, y⟩ := s
 dsimp only
 by_cases h0 : 0 ≤ p
 rotate_left
 ·have HN := hide h0
  have h0b : decide (0 ≤ p) = false := by simpa using h0
  clear h0
  go_enter Tryz.func125, Tryz.ntmps125
  go_wp2
  go_ret
  exact ⟨retB_false fun h => by have := h.1.1; dsimp only at this; have h2 := unhide HN; omega, bw0⟩
 by_cases h1 : p < n.pieces.length
 rotate_left
 ·have HN := hide h1
  have h1b : decide (p < (n.pieces.length : Int)) = false := by simpa using h1
  clear h1
  go_enter Tryz.func125, Tryz.ntmps125
  go_wp2
  go_ret
  exact ⟨retB_false fun h => by have := h.1.2; dsimp only at this; have h2 := unhide HN; omega, bw0⟩
 by_cases h2 : y = 1
 ·have HN := hide h2
  have h2b : (y == 1) = true := by simpa using h2
  clear h2
  go_enter Tryz.func125, Tryz.ntmps125
  go_wp2
  go_ret
  exact ⟨retB_true ⟨⟨h0, h1⟩, Or.inl (unhide HN)⟩, bw0⟩
 ·have HN := hide h2
  have h2b : (y == 1) = false := ne_beq h2
  clear h2
  go_enter Tryz.func125, Tryz.ntmps125
  go_wp2
  go_ret
  refine ⟨retB_of ⟨fun h => ⟨⟨h0, h1⟩, Or.inr (by simpa using h)⟩, fun h => ?_⟩, bw0⟩
  rcases h.2 with h | h
  ·exact absurd h (unhide HN)
  ·simpa using h

theorem isStep_T (kv : Value) (n : Nt) (s : St) (w : World) {L : Nat} (hk : TrkAt L w kv n) (h : StepOk n s) :
  Calls Tryz.prog 125 #[kv, .agg #[.int .i64 s.piece, .int .i64 s.way]] w fun e w' => e = .returned (.bool true) ∧ Below w.heap.size w w' :=
 (isStep_any kv n s w hk).mono fun e w' ⟨he, hw⟩ => ⟨by rcases he with ⟨he, _⟩ | ⟨_, hn⟩; exact he; exact absurd h hn, hw⟩
theorem isStep_F (kv : Value) (n : Nt) (s : St) (w : World) {L : Nat} (hk : TrkAt L w kv n) (h : ¬ StepOk n s) :
  Calls Tryz.prog 125 #[kv, .agg #[.int .i64 s.piece, .int .i64 s.way]] w fun e w' => e = .returned (.bool false) ∧ Below w.heap.size w w' :=
 (isStep_any kv n s w hk).mono fun e w' ⟨he, hw⟩ => ⟨by rcases he with ⟨_, hn⟩ | ⟨he, _⟩; exact absurd hn h; exact he, hw⟩

set_option maxHeartbeats 2000000 in
theorem isSpot_any (kv : Value) (n : Nt) (s : Sp) (w : World) {L : Nat} (hk : TrkAt L w kv n) :
  Calls Tryz.prog 101 #[kv, .agg #[.int .i64 s.piece, .int .i64 s.at_, .int .i64 s.way]] w fun e w' => RetB (SpotOk n s) e ∧ Below w.heap.size w w' := by
 have hkk := hk
 obtain ⟨a, ca, sh, csh, st, cst, rfl, hp, hsh, hsd⟩ := hk
 obtain ⟨p, q, y⟩ := s
 dsimp only
 by_cases hS : StepOk n ⟨p, y⟩
 rotate_left
 ·have HN := hide hS
  clear hS
  go_enter Tryz.func101, Tryz.ntmps101
  go_wp2_with fail
  refine wp_region_grown (by kernel_rfl) (by kernel_rfl) (fun hgn hgc => ?_)
  repeat (go_big_quiet_step (first
   | (go_at_call 46; rename_i g; exact g.call (step_any ⟨p, q, y⟩ _))
   | (go_at_call 125; rename_i g; exact g.call (isStep_F _ n ⟨p, y⟩ _ (hkk.below (below_then bw0 g.below)) (unhide HN)))))
  refine wpQuiet_nil ?_
  intro wq hwq
  have hbq : Below w.heap.size w wq := by obtain ⟨g, rfl⟩ := hwq; exact below_then bw0 g.below
  clear hwq hgc hgn
  go_wp2
  go_ret
  exact ⟨retB_false fun h => unhide HN ⟨h.1, h.2.1⟩, hbq⟩
 have HS := hide hS
 have hS' := hS
 obtain ⟨⟨h0, h1⟩, hy⟩ := hS
 dsimp only at h0 h1 hy
 obtain ⟨b, off, rfl, hb, c1⟩ := hp.len h0 h1
 obtain ⟨pn, rfl⟩ := Int.eq_ofNat_of_zero_le h0
 simp only [Int.toNat_natCast] at c1
 have hb2 : b < w.heap.size + 1 + 1 := by omega
 have HY := hide hy
 clear hy hS'
 by_cases h3 : 0 ≤ q
 rotate_left
 ·have h3b : decide (0 ≤ q) = false := by simpa using h3
  have HQ := hide h3
  clear h3
  go_enter Tryz.func101, Tryz.ntmps101
  go_wp2_with fail
  refine wp_region_grown (by kernel_rfl) (by kernel_rfl) (fun hgn hgc => ?_)
  repeat (go_big_quiet_step (first
   | (go_at_call 46; rename_i g; exact g.call (step_any ⟨pn, q, y⟩ _))
   | (go_at_call 125; rename_i g; exact g.call (isStep_T _ n ⟨pn, y⟩ _ (hkk.below (below_then bw0 g.below)) (unhide HS)))))
  refine wpQuiet_nil ?_
  intro wq hwq
  have hbq : Below w.heap.size w wq := by obtain ⟨g, rfl⟩ := hwq; exact below_then bw0 g.below
  clear hwq hgc hgn
  go_wp2
  go_ret
  exact ⟨retB_false fun h => by have := h.2.2.1; have h2 := unhide HQ; dsimp only at this; omega, hbq⟩
 ·have h3b : decide (0 ≤ q) = true := by simpa using h3
  go_enter Tryz.func101, Tryz.ntmps101
  go_wp2_with fail
  refine wp_region_grown (by kernel_rfl) (by kernel_rfl) (fun hgn hgc => ?_)
  repeat (go_big_quiet_step (first
   | (go_at_call 46; rename_i g; exact g.call (step_any ⟨pn, q, y⟩ _))
   | (go_at_call 125; rename_i g; exact g.call (isStep_T _ n ⟨pn, y⟩ _ (hkk.below (below_then bw0 g.below)) (unhide HS)))))
  refine wpQuiet_nil ?_
  intro wq hwq
  have hbq : Below w.heap.size w wq := by obtain ⟨g, rfl⟩ := hwq; exact below_then bw0 g.below
  clear hwq hgc hgn
  go_wp2
  go_ret
  exact ⟨retB_of ⟨fun h => ⟨⟨h0, h1⟩, unhide HY, h3, by simpa using h⟩, fun h => by simpa using h.2.2.2⟩, hbq⟩

set_option maxHeartbeats 1000000 in
theorem kbehind_any (kv : Value) (n : Nt) (s : Sp) (w : World) {L : Nat} (hk : TrkAt L w kv n) (hs : SpotOk n s) (hlen : lenOf n s.piece ≤ 10000000) :
  Calls Tryz.prog 44 #[kv, .agg #[.int .i64 s.piece, .int .i64 s.at_, .int .i64 s.way]] w fun e w' => e = .returned (.int .i64 (behind n s)) ∧ Below w.heap.size w w' := by
 obtain ⟨a, ca, sh, csh, st, cst, rfl, hp, hsh, hsd⟩ := hk
 obtain ⟨p, q, y⟩ := s
 obtain ⟨⟨h0, h1⟩, hy, h2, h3⟩ := hs
 dsimp only at h0 h1 hy h2 h3 hlen ⊢
 obtain ⟨b, off, rfl, hb, c1⟩ := hp.len h0 h1
 obtain ⟨pn, rfl⟩ := Int.eq_ofNat_of_zero_le h0
 simp only [Int.toNat_natCast] at c1
 have hb2 : b < w.heap.size + 1 + 1 := by omega
 rcases hy with rfl | rfl
 ·go_enter Tryz.func44, Tryz.ntmps44
  go_wp2
  go_ret
  exact ⟨by simp [behind, room]; omega, bw0⟩
 ·have hwr := wrap_small (x := lenOf n pn - q) (by omega) (by omega)
  go_enter Tryz.func44, Tryz.ntmps44
  go_wp2_with fail
  go_quiet (fail)
  go_wp2
  go_ret
  exact ⟨by simp [behind, room], below_draws bw0 _⟩

set_option maxHeartbeats 1000000 in
theorem jointAt_any (kv : Value) (n : Nt) (e0 : Ed) (i k : Nat) (w : World) {L : Nat} (hk : TrkAt L w kv n) (hG : NetGood n) (he : EdFits n.pieces.length e0) (hst : StandsAt n.joints e0 i k) :
  Calls Tryz.prog 79 #[kv, .agg #[.int .i64 e0.piece, .int .i64 e0.side]] w fun e w' => e = .returned (.int .i64 i) ∧ Below w.heap.size w w' := by
 obtain ⟨a, ca, sh, csh, st, cst, rfl, hp, hsh, hsd⟩ := hk
 obtain ⟨p, s⟩ := e0
 obtain ⟨⟨h0, h1⟩, h2, h3⟩ := he
 dsimp only at h0 h1 h2 h3 ⊢
 obtain ⟨pn, rfl⟩ := Int.eq_ofNat_of_zero_le h0
 obtain ⟨sn, rfl⟩ := Int.eq_ofNat_of_zero_le h2
 obtain ⟨b, off, rfl, hb, hc⟩ := hsd pn (by omega)
 obtain ⟨i', k', c1, hst'⟩ := hc sn (by omega)
 obtain ⟨rfl, _⟩ := stands_unique (hG.once pn (by omega) sn (by omega)) hst' hst
 have hb2 : b < w.heap.size + 1 + 1 := by omega
 clear hc hst hst'
 go_enter Tryz.func79, Tryz.ntmps79
 go_wp2_with fail
 go_quiet (fail)
 go_wp2
 go_ret
 exact ⟨rfl, below_draws bw0 _⟩

end Go.Proofs.YtjacbppeebnjfaaGreat

namespace Go.Proofs.YtjacbppeebnjfaaGreat
open Go.RowKit

theorem ta14 (x : Value) (w : World) : (Instr.typeAssert (.iface 226 x) 167 209 true).run Tryz.prog w = .ok (.tuple #[.agg #[.int .i64 0, .int .i64 0, .int .i64 0, .int .i64 0, .int .i64 0, .int .i64 0, .int .i64 0, .int .i64 0], .bool false]) w := by kernel_rfl
theorem ta44 (x : Value) (w : World) : (Instr.typeAssert (.iface 209 x) 167 209 true).run Tryz.prog w = .ok (.tuple #[x, .bool true]) w := by kernel_rfl

theorem Ed.same {a b : Ed} (h : a.piece = b.piece ∧ a.side = b.side) : a = b := by cases a; cases b; simp_all

set_option maxHeartbeats 400000 in
theorem opposite_eq (f x y : Ed) (w : World) (h : f = x) :
  Calls Tryz.prog 106 #[.agg #[.int .i64 f.piece, .int .i64 f.side], .agg #[.int .i64 x.piece, .int .i64 x.side], .agg #[.int .i64 y.piece, .int .i64 y.side]] w fun e w' => e = .returned (.agg #[.int .i64 y.piece, .int .i64 y.side]) ∧ Below w.heap.size w w' := by
 subst h
 go_enter Tryz.func106, Tryz.ntmps106
 go_wp2
 all_goals exact bodyPost_ret (v := .agg #[.int .i64 y.piece, .int .i64 y.side]) (by simp [results, Tryz.results106, go_sem]) rfl ⟨rfl, bw0⟩

set_option maxHeartbeats 400000 in
theorem opposite_ne (f x y : Ed) (w : World) (h : f ≠ x) :
  Calls Tryz.prog 106 #[.agg #[.int .i64 f.piece, .int .i64 f.side], .agg #[.int .i64 x.piece, .int .i64 x.side], .agg #[.int .i64 y.piece, .int .i64 y.side]] w fun e w' => e = .returned (.agg #[.int .i64 x.piece, .int .i64 x.side]) ∧ Below w.heap.size w w' := by
 have H : Hid (¬ (f.piece = x.piece ∧ f.side = x.side)) := fun e => h (Ed.same e)
 clear h
 go_enter Tryz.func106, Tryz.ntmps106
 go_wp2
 all_goals first
  | (exfalso; exact unhide H ⟨by assumption, by assumption⟩)
  | exact bodyPost_ret (v := .agg #[.int .i64 x.piece, .int .i64 x.side]) (by simp [results, Tryz.results106, go_sem]) rfl ⟨rfl, bw0⟩

def OverT (a b c f : Ed) (lie : Int) (r : Ed) (q : Int) : Prop :=
 (lie = 0 ∧ r = ⟨0, 0⟩ ∧ q = 2) ∨ (lie ≠ 0 ∧ ∃ br, (lie = 2 ∧ br = c ∨ lie ≠ 2 ∧ br = b) ∧ ((f = a ∧ r = br ∧ q = 0) ∨ (f ≠ a ∧ f = br ∧ r = a ∧ q = 0) ∨ (f ≠ a ∧ f ≠ br ∧ r = ⟨0, 0⟩ ∧ q = 3)))

set_option maxHeartbeats 2000000 in
theorem turnoutOver_any (a b c f : Ed) (lie : Int) (r : Ed) (q : Int) (w : World) (h : OverT a b c f lie r q) :
  Calls Tryz.prog 107 #[.agg #[.int .i64 a.piece, .int .i64 a.side, .int .i64 b.piece, .int .i64 b.side, .int .i64 c.piece, .int .i64 c.side], .agg #[.int .i64 f.piece, .int .i64 f.side], .int .i64 lie] w
   fun e w' => e = .returned (.tuple #[.agg #[.int .i64 r.piece, .int .i64 r.side], .int .i64 q]) ∧ Below w.heap.size w w' := by
 rcases h with ⟨rfl, rfl, rfl⟩ | ⟨h0, br, hbr, hf⟩
 ·go_enter Tryz.func107, Tryz.ntmps107
  go_wp2
  exact bodyPost_ret (v := .tuple #[.agg #[.int .i64 0, .int .i64 0], .int .i64 2]) (by simp [results, Tryz.results107, go_sem]) rfl ⟨rfl, bw0⟩
 have h0b := ne_beq h0
 clear h0
 rcases hbr with ⟨rfl, rfl⟩ | ⟨h2, rfl⟩
 ·rcases hf with ⟨rfl, rfl, rfl⟩ | ⟨hne, rfl, rfl, rfl⟩ | ⟨hne, hne2, rfl, rfl⟩
  ·go_enter Tryz.func107, Tryz.ntmps107
   go_wp2
   all_goals exact bodyPost_ret (v := .tuple #[.agg #[.int .i64 r.piece, .int .i64 r.side], .int .i64 0]) (by simp [results, Tryz.results107, go_sem]) rfl ⟨rfl, bw0⟩
  ·have H : Hid (¬ (f.piece = r.piece ∧ f.side = r.side)) := fun e => hne (Ed.same e)
   clear hne
   go_enter Tryz.func107, Tryz.ntmps107
   go_wp2
   all_goals first
    | (exfalso; exact unhide H ⟨by assumption, by assumption⟩)
    | exact bodyPost_ret (v := .tuple #[.agg #[.int .i64 r.piece, .int .i64 r.side], .int .i64 0]) (by simp [results, Tryz.results107, go_sem]) rfl ⟨rfl, bw0⟩
  ·have H : Hid (¬ (f.piece = a.piece ∧ f.side = a.side)) := fun e => hne (Ed.same e)
   have H2 : Hid (¬ (f.piece = br.piece ∧ f.side = br.side)) := fun e => hne2 (Ed.same e)
   clear hne hne2
   go_enter Tryz.func107, Tryz.ntmps107
   go_wp2
   all_goals first
    | (exfalso; exact unhide H ⟨by assumption, by assumption⟩)
    | (exfalso; exact unhide H2 ⟨by omega, by omega⟩)
    | exact bodyPost_ret (v := .tuple #[.agg #[.int .i64 0, .int .i64 0], .int .i64 3]) (by simp [results, Tryz.results107, go_sem]) rfl ⟨rfl, bw0⟩
 ·have h2b := ne_beq h2
  clear h2
  rcases hf with ⟨rfl, rfl, rfl⟩ | ⟨hne, rfl, rfl, rfl⟩ | ⟨hne, hne2, rfl, rfl⟩
  ·go_enter Tryz.func107, Tryz.ntmps107
   go_wp2
   all_goals exact bodyPost_ret (v := .tuple #[.agg #[.int .i64 r.piece, .int .i64 r.side], .int .i64 0]) (by simp [results, Tryz.results107, go_sem]) rfl ⟨rfl, bw0⟩
  ·have H : Hid (¬ (f.piece = r.piece ∧ f.side = r.side)) := fun e => hne (Ed.same e)
   clear hne
   go_enter Tryz.func107, Tryz.ntmps107
   go_wp2
   all_goals first
    | (exfalso; exact unhide H ⟨by assumption, by assumption⟩)
    | exact bodyPost_ret (v := .tuple #[.agg #[.int .i64 r.piece, .int .i64 r.side], .int .i64 0]) (by simp [results, Tryz.results107, go_sem]) rfl ⟨rfl, bw0⟩
  ·have H : Hid (¬ (f.piece = a.piece ∧ f.side = a.side)) := fun e => hne (Ed.same e)
   have H2 : Hid (¬ (f.piece = br.piece ∧ f.side = br.side)) := fun e => hne2 (Ed.same e)
   clear hne hne2
   go_enter Tryz.func107, Tryz.ntmps107
   go_wp2
   all_goals first
    | (exfalso; exact unhide H ⟨by assumption, by assumption⟩)
    | (exfalso; exact unhide H2 ⟨by omega, by omega⟩)
    | exact bodyPost_ret (v := .tuple #[.agg #[.int .i64 0, .int .i64 0], .int .i64 3]) (by simp [results, Tryz.results107, go_sem]) rfl ⟨rfl, bw0⟩

theorem overT_of {a b c f : Ed} {j : Jt} {k : Nat} {lie : Int} (hes : j.ends = [a, b, c]) (hkd : j.kind = 3) (hk : k < j.ends.length) (hf : j.ends[k] = f) (hu : ∀ k' (h : k' < j.ends.length), j.ends[k'] = f → k' = k) :
  OverT a b c f lie (overJ j k lie).1 (overJ j k lie).2 := by
 have e0 : endOf j 0 = a := by simp [endOf, hes]
 have e1 : endOf j 1 = b := by simp [endOf, hes]
 have e2 : endOf j 2 = c := by simp [endOf, hes]
 have hl : j.ends.length = 3 := by simp [hes]
 have g0 : f = a → k = 0 := fun e => (hu 0 (by omega) (by simp [hes, e])).symm
 have g1 : f = b → k = 1 := fun e => (hu 1 (by omega) (by simp [hes, e])).symm
 have g2 : f = c → k = 2 := fun e => (hu 2 (by omega) (by simp [hes, e])).symm
 unfold OverT overJ
 rw [if_neg (by omega), if_pos hkd]
 by_cases h0 : lie = 0
 ·rw [if_pos h0]
  exact Or.inl ⟨h0, rfl, rfl⟩
 ·rw [if_neg h0]
  refine Or.inr ⟨h0, if lie = 2 then c else b, ?_, ?_⟩
  ·by_cases h2 : lie = 2
   ·exact Or.inl ⟨h2, by rw [if_pos h2]⟩
   ·exact Or.inr ⟨h2, by rw [if_neg h2]⟩
  ·have hk3 : k = 0 ∨ k = 1 ∨ k = 2 := by omega
   by_cases h2 : lie = 2
   ·simp only [if_pos h2, e0, e2]
    rcases hk3 with rfl | rfl | rfl
    ·exact Or.inl ⟨by rw [← hf]; simp [hes], by simp, by simp⟩
    ·exact Or.inr (Or.inr ⟨fun e => by have := g0 e; omega, fun e => by have := g2 e; omega, by simp, by simp⟩)
    ·exact Or.inr (Or.inl ⟨fun e => by have := g0 e; omega, by rw [← hf]; simp [hes], by simp, by simp⟩)
   ·simp only [if_neg h2, e0, e1]
    rcases hk3 with rfl | rfl | rfl
    ·exact Or.inl ⟨by rw [← hf]; simp [hes], by simp, by simp⟩
    ·exact Or.inr (Or.inl ⟨fun e => by have := g0 e; omega, by rw [← hf]; simp [hes], by simp, by simp⟩)
    ·exact Or.inr (Or.inr ⟨fun e => by have := g0 e; omega, fun e => by have := g1 e; omega, by simp, by simp⟩)

theorem NetGood.apart {n : Nt} (h : NetGood n) {f : Ed} {i k : Nat} (hf : EdFits n.pieces.length f) (hst : StandsAt n.joints f i k) : ∀ k' (hk' : k' < (n.joints[i]'hst.1).ends.length), (n.joints[i]'hst.1).ends[k'] = f → k' = k := by
 intro k' hk' he
 obtain ⟨⟨h0, h1⟩, h2, h3⟩ := hf
 obtain ⟨p, s⟩ := f
 dsimp only at h0 h1 h2 h3
 obtain ⟨pn, rfl⟩ := Int.eq_ofNat_of_zero_le h0
 exact (stands_unique (e := ⟨pn, s⟩) (h.once pn (by omega) s (by omega)) ⟨hst.1, hk', he⟩ hst).2

def OverV (sv : Value) (f : Ed) (lie : Int) (r : Ed) (q : Int) : Prop :=
 (∃ a : Ed, sv = .iface 226 (.agg #[.int .i64 a.piece, .int .i64 a.side]) ∧ r = ⟨0, 0⟩ ∧ q = 1)
 ∨ (∃ a b : Ed, sv = .iface 206 (.agg #[.int .i64 a.piece, .int .i64 a.side, .int .i64 b.piece, .int .i64 b.side]) ∧ (f = a ∧ r = b ∨ f ≠ a ∧ r = a) ∧ q = 0)
 ∨ (∃ a b c : Ed, sv = .iface 203 (.agg #[.int .i64 a.piece, .int .i64 a.side, .int .i64 b.piece, .int .i64 b.side, .int .i64 c.piece, .int .i64 c.side]) ∧ OverT a b c f lie r q)
 ∨ (∃ a b c d : Ed, sv = .iface 209 (.agg #[.int .i64 a.piece, .int .i64 a.side, .int .i64 b.piece, .int .i64 b.side, .int .i64 c.piece, .int .i64 c.side, .int .i64 d.piece, .int .i64 d.side])
   ∧ (f = a ∧ r = b ∨ f ≠ a ∧ f = b ∧ r = a ∨ f ≠ a ∧ f ≠ b ∧ f = c ∧ r = d ∨ f ≠ a ∧ f ≠ b ∧ f ≠ c ∧ r = c) ∧ q = 0)

theorem overV_of {j : Jt} {sv : Value} {f : Ed} {k : Nat} (lie : Int) (hsv : ShV sv j.kind j.ends) (hk : k < j.ends.length) (hf : j.ends[k] = f) (hu : ∀ k' (h : k' < j.ends.length), j.ends[k'] = f → k' = k) :
  OverV sv f lie (overJ j k lie).1 (overJ j k lie).2 := by
 rcases hsv with ⟨x0, hes, hkd, rfl⟩ | ⟨x0, x1, hes, hkd, rfl⟩ | ⟨x0, x1, x2, hes, hkd, rfl⟩ | ⟨x0, x1, x2, x3, hes, hkd, rfl⟩
 ·exact Or.inl ⟨x0, rfl, by simp [overJ, hkd], by simp [overJ, hkd]⟩
 ·refine Or.inr (Or.inl ⟨x0, x1, rfl, ?_, by simp [overJ, hkd]⟩)
  have e0 : endOf j 0 = x0 := by simp [endOf, hes]
  have e1 : endOf j 1 = x1 := by simp [endOf, hes]
  have hl : j.ends.length = 2 := by simp [hes]
  have hk2 : k = 0 ∨ k = 1 := by omega
  rcases hk2 with rfl | rfl
  ·exact Or.inl ⟨by rw [← hf]; simp [hes], by simp [overJ, hkd, e1]⟩
  ·exact Or.inr ⟨fun e => by have := hu 0 (by omega) (by simp [hes, e]); omega, by simp [overJ, hkd, e0]⟩
 ·exact Or.inr (Or.inr (Or.inl ⟨x0, x1, x2, rfl, overT_of hes hkd hk hf hu⟩))
 ·refine Or.inr (Or.inr (Or.inr ⟨x0, x1, x2, x3, rfl, ?_, by simp [overJ, hkd]⟩))
  have e0 : endOf j 0 = x0 := by simp [endOf, hes]
  have e1 : endOf j 1 = x1 := by simp [endOf, hes]
  have e2 : endOf j 2 = x2 := by simp [endOf, hes]
  have e3 : endOf j 3 = x3 := by simp [endOf, hes]
  have hl : j.ends.length = 4 := by simp [hes]
  have g0 : f = x0 → k = 0 := fun e => (hu 0 (by omega) (by simp [hes, e])).symm
  have g1 : f = x1 → k = 1 := fun e => (hu 1 (by omega) (by simp [hes, e])).symm
  have g2 : f = x2 → k = 2 := fun e => (hu 2 (by omega) (by simp [hes, e])).symm
  have hk4 : k = 0 ∨ k = 1 ∨ k = 2 ∨ k = 3 := by omega
  rcases hk4 with rfl | rfl | rfl | rfl
  ·exact Or.inl ⟨by rw [← hf]; simp [hes], by simp [overJ, hkd, e1]⟩
  ·exact Or.inr (Or.inl ⟨fun e => by have := g0 e; omega, by rw [← hf]; simp [hes], by simp [overJ, hkd, e0]⟩)
  ·exact Or.inr (Or.inr (Or.inl ⟨fun e => by have := g0 e; omega, fun e => by have := g1 e; omega, by rw [← hf]; simp [hes], by simp [overJ, hkd, e3]⟩))
  ·exact Or.inr (Or.inr (Or.inr ⟨fun e => by have := g0 e; omega, fun e => by have := g1 e; omega, fun e => by have := g2 e; omega, by simp [overJ, hkd, e2]⟩))

end Go.Proofs.YtjacbppeebnjfaaGreat

