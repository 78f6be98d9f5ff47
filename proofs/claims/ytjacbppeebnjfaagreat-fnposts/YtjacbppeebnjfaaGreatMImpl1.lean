import Derived.Test.YtjacbppeebnjfaaGreatRows
import Derived.Test.YtjacbppeebnjfaaGreatMPlain
import Derived.WalkSpells
import Derived.BigQuiet
namespace Go.Proofs.YtjacbppeebnjfaaGreat
open Go.RowKit

set_option maxHeartbeats 400000 in
theorem within_any (x m : Int) (w : World) :
  Calls Tryz.prog 42 #[.int .i64 x, .int .i64 m] w fun e w' => RetB (1 ≤ x ∧ x ≤ m) e ∧ w' = w := by
 by_cases h : 1 ≤ x
 ·go_enter Tryz.func42, Tryz.ntmps42
  go_wp2
  go_ret
  exact ⟨retB_of (by simp; omega), rfl⟩
 ·go_enter Tryz.func42, Tryz.ntmps42
  go_wp2
  go_ret
  exact ⟨retB_of (by simp; omega), rfl⟩

set_option maxHeartbeats 400000 in
theorem isNameByte_any (c : UInt8) (w : World) :
  Calls Tryz.prog 137 #[.int .u8 c.toNat] w fun e w' => RetB (IsNmB c) e ∧ w' = w := by
 go_enter Tryz.func137, Tryz.ntmps137
 go_wp2
 all_goals go_ret
 all_goals refine ⟨retB_of ?_, rfl⟩
 all_goals unfold IsNmB
 all_goals simp at *
 all_goals omega

set_option maxHeartbeats 400000 in
theorem isName_any (s : ByteArray) (w : World) (hs : s.size ≤ maxLen) :
  Calls Tryz.prog 136 #[.string s] w fun e w' => RetB (IsNm s) e ∧ w' = w := by
 unfold maxLen at hs
 go_enter Tryz.func136, Tryz.ntmps136
 go_wp2_with fail
 refine (within_any _ _ _).mono ?_
 rintro e w1 ⟨⟨rfl, hr⟩ | ⟨rfl, hr⟩, rfl⟩
 ·go_wp2_with fail
  go_loop [3] (fun i => ∃ k : Nat, k ≤ s.size ∧ i = .int .i64 k ∧ ∀ j (h : j < s.size), j < k → IsNmB s[j]) (fun i => s.size - (intOf i).toNat)
  case atStart => exact ⟨0, Nat.zero_le _, rfl, fun j h h' => by omega⟩
  case round =>
   obtain ⟨k, hk, rfl, hall⟩ := hrel
   by_cases hlt : k < s.size
   ·go_wp2_with fail
    refine (isNameByte_any _ _).mono ?_
    rintro e w1 ⟨⟨rfl, hr'⟩ | ⟨rfl, hr'⟩, rfl⟩
    ·go_wp2
     refine ⟨⟨k + 1, by omega, by go_num, fun j h h' => ?_⟩, by simp [intOf]; omega⟩
     by_cases e : j = k
     ·subst e; exact hr'
     ·exact hall j h (by omega)
    ·go_wp2
     go_ret
     exact ⟨retB_false fun hn => hr' (hn.2.2 k hlt), rfl⟩
   ·go_wp2
    go_ret
    exact ⟨retB_true ⟨by omega, by omega, fun i hi => hall i hi (by omega)⟩, rfl⟩
 ·go_wp2
  go_ret
  exact ⟨retB_false fun hn => hr ⟨by have := hn.1; omega, by have := hn.2.1; omega⟩, rfl⟩

set_option maxHeartbeats 400000 in
theorem pieceFits_any (s : ByteArray) (l sp br : Int) (w : World) (hs : s.size ≤ maxLen) :
  Calls Tryz.prog 132 #[.agg #[.string s, .int .i64 l, .int .i64 sp, .int .i64 br]] w fun e w' => RetB (PcFits ⟨s, l, sp, br⟩) e ∧ Below w.heap.size w w' := by
 go_enter Tryz.func132, Tryz.ntmps132
 go_wp2_with fail
 refine (isName_any _ _ hs).mono ?_
 rintro e w1 ⟨⟨rfl, h1⟩ | ⟨rfl, h1⟩, rfl⟩
 rotate_left
 ·go_wp2
  go_ret
  exact ⟨retB_false fun h => h1 h.1, bw0⟩
 go_wp2_with fail
 refine (within_any _ _ _).mono ?_
 rintro e w1 ⟨⟨rfl, h2⟩ | ⟨rfl, h2⟩, rfl⟩
 rotate_left
 ·go_wp2
  go_ret
  exact ⟨retB_false fun h => h2 h.2.1, bw0⟩
 go_wp2_with fail
 refine (within_any _ _ _).mono ?_
 rintro e w1 ⟨⟨rfl, h3⟩ | ⟨rfl, h3⟩, rfl⟩
 rotate_left
 ·go_wp2
  go_ret
  exact ⟨retB_false fun h => h3 h.2.2.1, bw0⟩
 go_wp2_with fail
 refine (within_any _ _ _).mono ?_
 rintro e w1 ⟨⟨rfl, h4⟩ | ⟨rfl, h4⟩, rfl⟩
 rotate_left
 ·go_wp2
  go_ret
  exact ⟨retB_false fun h => h4 h.2.2.2, bw0⟩
 go_wp2
 go_ret
 exact ⟨retB_true ⟨h1, h2, h3, h4⟩, bw0⟩

theorem wf_small {v : Int} (h0 : 0 ≤ v) (h1 : v ≤ 1048576) : (Lit.int .i64 v).wf = true := WalkArith.wf_i64 (by omega)

set_option maxHeartbeats 1000000 in
theorem wrongPiece_any (a : Option Addr) (ps : List Pc) (cap : Nat) (w : World) {L : Nat} (hp : PcsAt L w a ps) (hl : ps.length ≤ 100) (hnm : ∀ i (h : i < ps.length), ps[i].name.size ≤ maxLen) :
  Calls Tryz.prog 121 #[.slice a ps.length cap] w fun e w' => ∃ r : Int, e = .returned (.int .i64 r) ∧ IsFirst (BadPc ps) ps.length r ∧ Below w.heap.size w w' := by
 have hmm := @run_makeMap Tryz.prog
 go_enter Tryz.func121, Tryz.ntmps121
 go_wp2_with fail
 go_loopw [11] (fun x wr => ∃ k : Nat, k ≤ ps.length ∧ x = .int .i64 k ∧ (∀ j, j < k → ¬ BadPc ps j) ∧ SeenAt wr w.heap.size k (fun s => ∃ j, ∃ h : j < ps.length, j < k ∧ ps[j].name = s) ∧ Below w.heap.size w wr) (fun x _ => ps.length - (intOf x).toNat)
 case atStart => exact ⟨0, Nat.zero_le _, rfl, fun j h => by omega, (seen_made w).congr fun s => ⟨False.elim, fun ⟨j, _, h, _⟩ => by omega⟩, bw0⟩
 case round =>
  obtain ⟨k, hk, rfl, hall, hS, hb⟩ := hrel
  clear hmm
  by_cases hlt : k < ps.length
  ·obtain ⟨b, off, rfl, hbs, c0, c1, c2, c3⟩ := hp.below hb k hlt
   have hs := hnm k hlt
   have n1 := hS.lt
   have hb0 : Below wr.heap.size wr (wr.alloc (.cells #[.string ps[k].name, .int .i64 ps[k].len, .int .i64 ps[k].speed, .int .i64 ps[k].brake] 96)) := bw0
   obtain ⟨c, bb, hlk, hbb⟩ := (hS.below hb0).look hs
   have HBB := hide hbb
   clear hbb
   cases bb
   ·go_wp2_with fail
    refine (pieceFits_any _ _ _ _ _ hs).mono ?_
    rintro e w1 ⟨⟨rfl, hr⟩ | ⟨rfl, hr⟩, hb1⟩
    ·have hb2 : Below wr.heap.size wr w1 := below_then hb0 hb1
     obtain ⟨w2, hst, hS2, hg2⟩ := (hS.below hb2).store (by unfold maxLen; omega) hs (v := (k : Int)) (wf_small (by omega) (by omega))
     have hf0 : w1.cell? ⟨wr.heap.size, 0, none⟩ = some (.string ps[k].name) := by rw [hb1.cell (by simp)]; simp
     go_wp2
     refine ⟨⟨k + 1, by omega, by go_num, fun j h => ?_, hS2.congr fun s => ?_, ?_⟩, by simp [intOf]; omega⟩
     ·by_cases e : j = k
      ·subst e
       rintro ⟨_, hbad | ⟨j2, hj2, he⟩⟩
       ·exact hbad hr
       ·exact absurd ((unhide HBB).2 ⟨j2, by omega, hj2, he⟩) (by simp)
      ·exact hall j (by omega)
     ·constructor
      ·rintro (rfl | ⟨j, h1, h2, h3⟩)
       ·exact ⟨k, hlt, by omega, rfl⟩
       ·exact ⟨j, h1, by omega, h3⟩
      ·rintro ⟨j, h1, h2, h3⟩
       by_cases e : j = k
       ·subst e; exact Or.inl h3.symm
       ·exact Or.inr ⟨j, h1, by omega, h3⟩
     ·exact (below_then hb hb2).grown hg2 (by have := hb2.size; omega) (fun q hq => by cases hq; omega)
    ·go_wp2
     go_ret
     exact ⟨k, rfl, first_of hlt ⟨hlt, Or.inl hr⟩ hall, below_then hb (below_then hb0 hb1)⟩
   ·go_wp2
    go_ret
    obtain ⟨j, h1, h2, h3⟩ := (unhide HBB).1 (by simp)
    exact ⟨k, rfl, first_of hlt ⟨hlt, Or.inr ⟨j, h2, h3⟩⟩ hall, below_then hb hb0⟩
  ·go_wp2
   go_ret
   exact ⟨-1, rfl, none_of fun j h => hall j (by omega), hb⟩
end Go.Proofs.YtjacbppeebnjfaaGreat

namespace Go.Proofs.YtjacbppeebnjfaaGreat
open Go.RowKit

def ShV (v : Value) (kind : Int) (es : List Ed) : Prop :=
 (∃ a, es = [a] ∧ kind = 1 ∧ v = .iface 226 (.agg #[.int .i64 a.piece, .int .i64 a.side]))
 ∨ (∃ a b, es = [a, b] ∧ kind = 2 ∧ v = .iface 206 (.agg #[.int .i64 a.piece, .int .i64 a.side, .int .i64 b.piece, .int .i64 b.side]))
 ∨ (∃ a b c, es = [a, b, c] ∧ kind = 3 ∧ v = .iface 203 (.agg #[.int .i64 a.piece, .int .i64 a.side, .int .i64 b.piece, .int .i64 b.side, .int .i64 c.piece, .int .i64 c.side]))
 ∨ (∃ a b c d, es = [a, b, c, d] ∧ kind = 4 ∧ v = .iface 209 (.agg #[.int .i64 a.piece, .int .i64 a.side, .int .i64 b.piece, .int .i64 b.side, .int .i64 c.piece, .int .i64 c.side, .int .i64 d.piece, .int .i64 d.side]))

def KindOk (kind : Int) (es : List Ed) : Prop := (1 ≤ kind ∧ kind ≤ 4) ∧ (es.length : Int) = kind

theorem eds_boxed {w : World} {N L : Nat} {vs : List Value} {es : List Ed} (h : Boxed w N vs) (hv : ∀ i (h : i < es.length), vs[i * 2]? = some (.int .i64 es[i].piece) ∧ vs[i * 2 + 1]? = some (.int .i64 es[i].side)) (hL : L ≤ N) : EdsAt L w (some ⟨N, 0, none⟩) es := by
 intro i hi
 exact ⟨N, 0, rfl, ⟨hL, h.1⟩, by simpa using h.2.1 _ _ (hv i hi).1, by simpa using h.2.1 _ _ (hv i hi).2⟩

set_option maxHeartbeats 1000000 in
theorem ends1_any (a : Ed) (w : World) :
  Calls Tryz.prog 159 #[.agg #[.int .i64 a.piece, .int .i64 a.side]] w fun e w' => ∃ B, e = .returned (.slice (some ⟨B, 0, none⟩) 1 1) ∧ EdsAt w.heap.size w' (some ⟨B, 0, none⟩) [a] ∧ Below w.heap.size w w' := by
 go_enter Tryz.func159, Tryz.ntmps159
 go_wp2
 go_ret
 refine ⟨w.heap.size + 1, rfl, eds_boxed (boxedN _ _ _ (by simp)) (fun i hi => ?_) (by omega), bw0⟩
 have hi' : i = 0 := by simp at hi; omega
 subst hi'; simp

set_option maxHeartbeats 1000000 in
theorem ends2_any (a b : Ed) (w : World) :
  Calls Tryz.prog 157 #[.agg #[.int .i64 a.piece, .int .i64 a.side, .int .i64 b.piece, .int .i64 b.side]] w fun e w' => ∃ B, e = .returned (.slice (some ⟨B, 0, none⟩) 2 2) ∧ EdsAt w.heap.size w' (some ⟨B, 0, none⟩) [a, b] ∧ Below w.heap.size w w' := by
 go_enter Tryz.func157, Tryz.ntmps157
 go_wp2
 go_ret
 refine ⟨w.heap.size + 1, rfl, eds_boxed (boxedN _ _ _ (by simp)) (fun i hi => ?_) (by omega), bw0⟩
 have hi' : i = 0 ∨ i = 1 := by simp at hi; omega
 rcases hi' with rfl | rfl <;> simp

set_option maxHeartbeats 1000000 in
theorem ends3_any (a b c : Ed) (w : World) :
  Calls Tryz.prog 156 #[.agg #[.int .i64 a.piece, .int .i64 a.side, .int .i64 b.piece, .int .i64 b.side, .int .i64 c.piece, .int .i64 c.side]] w fun e w' => ∃ B, e = .returned (.slice (some ⟨B, 0, none⟩) 3 3) ∧ EdsAt w.heap.size w' (some ⟨B, 0, none⟩) [a, b, c] ∧ Below w.heap.size w w' := by
 go_enter Tryz.func156, Tryz.ntmps156
 go_wp2
 go_ret
 refine ⟨w.heap.size + 1, rfl, eds_boxed (boxedN _ _ _ (by simp)) (fun i hi => ?_) (by omega), bw0⟩
 have hi' : i = 0 ∨ i = 1 ∨ i = 2 := by simp at hi; omega
 rcases hi' with rfl | rfl | rfl <;> simp

set_option maxHeartbeats 1000000 in
theorem ends4_any (a b c d : Ed) (w : World) :
  Calls Tryz.prog 158 #[.agg #[.int .i64 a.piece, .int .i64 a.side, .int .i64 b.piece, .int .i64 b.side, .int .i64 c.piece, .int .i64 c.side, .int .i64 d.piece, .int .i64 d.side]] w fun e w' => ∃ B, e = .returned (.slice (some ⟨B, 0, none⟩) 4 4) ∧ EdsAt w.heap.size w' (some ⟨B, 0, none⟩) [a, b, c, d] ∧ Below w.heap.size w w' := by
 go_enter Tryz.func158, Tryz.ntmps158
 go_wp2
 go_ret
 refine ⟨w.heap.size + 1, rfl, eds_boxed (boxedN _ _ _ (by simp)) (fun i hi => ?_) (by omega), bw0⟩
 have hi' : i = 0 ∨ i = 1 ∨ i = 2 ∨ i = 3 := by simp at hi; omega
 rcases hi' with rfl | rfl | rfl | rfl <;> simp

set_option maxHeartbeats 1000000 in
theorem shapeOf_any (kd : Int) (s : ByteArray) (ea : Option Addr) (es : List Ed) (cap : Nat) (w : World) {L : Nat} (hp : EdsAt L w ea es) (h : KindOk kd es) :
  Calls Tryz.prog 100 #[.agg #[.int .i64 kd, .string s, .slice ea es.length cap]] w fun e w' => ∃ v, e = .returned (.tuple #[v, .bool true]) ∧ ShV v kd es ∧ Below w.heap.size w w' := by
 obtain ⟨⟨hk1, hk4⟩, hlen⟩ := h
 have h4 : kd = 1 ∨ kd = 2 ∨ kd = 3 ∨ kd = 4 := by omega
 clear hk1 hk4
 rcases h4 with rfl | rfl | rfl | rfl
 ·match es, hlen, hp with
  | [a], _, hp =>
   clear hlen
   obtain ⟨B, off, rfl, hbs, x0, y0⟩ := hp 0 (by simp)
   simp at x0 y0
   go_enter Tryz.func100, Tryz.ntmps100
   go_wp2
   go_ret2
   exact ⟨_, rfl, Or.inl ⟨_, rfl, rfl, rfl⟩, bw0⟩
 ·match es, hlen, hp with
  | [a, b], _, hp =>
   clear hlen
   obtain ⟨B, off, rfl, hbs, x0, y0⟩ := hp 0 (by simp)
   obtain ⟨B1, off1, hq1, hbs1, x1, y1⟩ := hp 1 (by simp)
   obtain ⟨rfl, rfl⟩ : B = B1 ∧ off = off1 := by simpa using hq1
   clear hq1
   simp at x0 y0 x1 y1
   go_enter Tryz.func100, Tryz.ntmps100
   go_wp2
   go_quiet (fail)
   go_wp2
   go_ret2
   exact ⟨_, rfl, Or.inr (Or.inl ⟨_, _, rfl, rfl, rfl⟩), bw0⟩
 ·match es, hlen, hp with
  | [a, b, c], _, hp =>
   clear hlen
   obtain ⟨B, off, rfl, hbs, x0, y0⟩ := hp 0 (by simp)
   obtain ⟨B1, off1, hq1, hbs1, x1, y1⟩ := hp 1 (by simp)
   obtain ⟨rfl, rfl⟩ : B = B1 ∧ off = off1 := by simpa using hq1
   clear hq1
   obtain ⟨B2, off2, hq2, hbs2, x2, y2⟩ := hp 2 (by simp)
   obtain ⟨rfl, rfl⟩ : B = B2 ∧ off = off2 := by simpa using hq2
   clear hq2
   simp at x0 y0 x1 y1 x2 y2
   go_enter Tryz.func100, Tryz.ntmps100
   go_wp2
   go_quiet (fail)
   go_wp2
   go_ret2
   exact ⟨_, rfl, Or.inr (Or.inr (Or.inl ⟨_, _, _, rfl, rfl, rfl⟩)), bw0⟩
 ·match es, hlen, hp with
  | [a, b, c, d], _, hp =>
   clear hlen
   obtain ⟨B, off, rfl, hbs, x0, y0⟩ := hp 0 (by simp)
   obtain ⟨B1, off1, hq1, hbs1, x1, y1⟩ := hp 1 (by simp)
   obtain ⟨rfl, rfl⟩ : B = B1 ∧ off = off1 := by simpa using hq1
   clear hq1
   obtain ⟨B2, off2, hq2, hbs2, x2, y2⟩ := hp 2 (by simp)
   obtain ⟨rfl, rfl⟩ : B = B2 ∧ off = off2 := by simpa using hq2
   clear hq2
   obtain ⟨B3, off3, hq3, hbs3, x3, y3⟩ := hp 3 (by simp)
   obtain ⟨rfl, rfl⟩ : B = B3 ∧ off = off3 := by simpa using hq3
   clear hq3
   simp at x0 y0 x1 y1 x2 y2 x3 y3
   go_enter Tryz.func100, Tryz.ntmps100
   go_wp2
   go_quiet (fail)
   go_wp2
   go_ret2
   exact ⟨_, rfl, Or.inr (Or.inr (Or.inr ⟨_, _, _, _, rfl, rfl, rfl⟩)), bw0⟩

theorem ne_beq {a b : Int} (h : a ≠ b) : (a == b) = false := beq_eq_false_iff_ne.2 h

set_option maxHeartbeats 1000000 in
theorem shapeOf_no (kd : Int) (s : ByteArray) (ea : Option Addr) (es : List Ed) (cap : Nat) (w : World) (h : ¬ KindOk kd es) :
  Calls Tryz.prog 100 #[.agg #[.int .i64 kd, .string s, .slice ea es.length cap]] w fun e w' => e = .returned (.tuple #[.nilIface, .bool false]) ∧ Below w.heap.size w w' := by
 have h5 : (kd = 1 ∨ kd = 2 ∨ kd = 3 ∨ kd = 4) ∨ (kd ≠ 1 ∧ kd ≠ 2 ∧ kd ≠ 3 ∧ kd ≠ 4) := by omega
 rcases h5 with (rfl | rfl | rfl | rfl) | ⟨n1, n2, n3, n4⟩
 ·have hl := ne_beq (a := (es.length : Int)) (b := 1) fun e => h ⟨by omega, e⟩
  clear h
  go_enter Tryz.func100, Tryz.ntmps100
  go_wp2
  go_ret2
  exact ⟨rfl, bw0⟩
 ·have hl := ne_beq (a := (es.length : Int)) (b := 2) fun e => h ⟨by omega, e⟩
  clear h
  go_enter Tryz.func100, Tryz.ntmps100
  go_wp2
  go_ret2
  exact ⟨rfl, bw0⟩
 ·have hl := ne_beq (a := (es.length : Int)) (b := 3) fun e => h ⟨by omega, e⟩
  clear h
  go_enter Tryz.func100, Tryz.ntmps100
  go_wp2
  go_ret2
  exact ⟨rfl, bw0⟩
 ·have hl := ne_beq (a := (es.length : Int)) (b := 4) fun e => h ⟨by omega, e⟩
  clear h
  go_enter Tryz.func100, Tryz.ntmps100
  go_wp2
  go_ret2
  exact ⟨rfl, bw0⟩
 ·have m1 := ne_beq n1
  have m2 := ne_beq n2
  have m3 := ne_beq n3
  have m4 := ne_beq n4
  clear h n1 n2 n3 n4
  go_enter Tryz.func100, Tryz.ntmps100
  go_wp2
  go_ret2
  exact ⟨rfl, bw0⟩

end Go.Proofs.YtjacbppeebnjfaaGreat

