import Derived.Test.YtbdggfpfpjijoabGreatDoorRows
import Derived.Test.YtbdggfpfpjijoabGreatDoorMTo
import Derived.Test.YtbdggfpfpjijoabGreatDoorMPlain
import Derived.LaidEqlPtr
import Derived.Lib.Builder
import Derived.Test.YtbdggfpfpjijoabGreatDoorMTouch
namespace Go.Proofs.YtbdggfpfpjijoabGreatDoor
open Go.RowKit

def PtrsAt (w : World) (a : Option Addr) (ps : List Nat) : Prop :=
 ∀ i (h : i < ps.length), ∃ b off, a = some ⟨b, off, none⟩ ∧ b < w.heap.size ∧ w.cell? ⟨b, off + i, none⟩ = some (.pointer (some ⟨ps[i], 0, none⟩))
def IsCells (w : World) (b : Nat) : Prop := ∃ c t, w.heap[b]? = some (.cells c t (0, 0))

theorem PtrsAt.below {w w' : World} {a : Option Addr} {ps : List Nat} (h : PtrsAt w a ps) (hb : Below w.heap.size w w') : PtrsAt w' a ps := by
 intro i hi
 obtain ⟨b, off, ha, hbs, hc⟩ := h i hi
 exact ⟨b, off, ha, Nat.lt_of_lt_of_le hbs hb.size, (hb.cell hbs).trans hc⟩
theorem IsCells.lt {w : World} {b : Nat} (h : IsCells w b) : b < w.heap.size := by
 obtain ⟨c, t, h⟩ := h
 exact (Array.getElem?_eq_some_iff.1 h).1
theorem IsCells.below {w w' : World} {b : Nat} (h : IsCells w b) (hb : Below w.heap.size w w') : IsCells w' b := by
 have hlt := h.lt
 obtain ⟨c, t, h⟩ := h
 exact ⟨c, t, (hb.block b hlt).trans h⟩
theorem IsCells.only {S : Nat → Prop} {w w' : World} {b : Nat} (h : IsCells w b) (ho : Only S w w') : IsCells w' b := by
 obtain ⟨c, t, h⟩ := h
 obtain ⟨c', h1, _⟩ := ho.shape b c t _ h
 exact ⟨c', t, h1⟩

theorem mvPtr : Tryz.prog.underlying 130 = some (.pointer 133) := by kernel_rfl
theorem mvInfo : (Tryz.prog.info? 133).map (fun i => i.size) = some 414 := by kernel_rfl
theorem mvInfo' : ∃ j, Tryz.prog.info? 133 = some j ∧ j.size ≠ 0 := by
 have h := mvInfo
 cases hj : Tryz.prog.info? 133 with
 | none => rw [hj] at h; simp at h
 | some j => rw [hj] at h; simp at h; exact ⟨j, rfl, by omega⟩

theorem mv_eql_same (w : World) (m : Nat) : (binOp .eql 130 (.pointer (some ⟨m, 0, none⟩)) (.pointer (some ⟨m, 0, none⟩))).run Tryz.prog w = .ok (.bool true) w := by
 obtain ⟨j, hj, _⟩ := mvInfo'
 exact run_eql_ptr_same w _ mvPtr hj
theorem mv_eql_other (w : World) {m q : Nat} (hne : ¬ m = q) (hm : IsCells w m) (hq : IsCells w q) : (binOp .eql 130 (.pointer (some ⟨m, 0, none⟩)) (.pointer (some ⟨q, 0, none⟩))).run Tryz.prog w = .ok (.bool false) w := by
 obtain ⟨j, hj, hs⟩ := mvInfo'
 obtain ⟨c, t, h⟩ := hm
 obtain ⟨c', t', h'⟩ := hq
 exact run_eql_ptr_other w mvPtr hj hs (fun e => hne (congrArg Addr.block e)) h h'

set_option maxRecDepth 100000 in
set_option maxHeartbeats 2000000 in
theorem pIndex_any (a : Option Addr) (cap : Nat) (ps : List Nat) (m : Nat) (w : World) (h : PtrsAt w a ps) (hl : ps.length ≤ 1000000) (hm : IsCells w m) (hps : ∀ q ∈ ps, IsCells w q) :
  Calls Tryz.prog 181 #[.slice a ps.length cap, .pointer (some ⟨m, 0, none⟩)] w fun e w' => (∃ r : Int, e = .returned (.int .i64 r) ∧ (0 ≤ r ↔ m ∈ ps)) ∧ w' = w := by
 have HPS := hide hps
 clear hps
 go_enter Tryz.func181, Tryz.ntmps181
 go_wp2_with fail
 go_loopw [8] (fun z wr => ∃ k : Nat, k ≤ ps.length ∧ z = .int .i64 k ∧ Hid (∀ j, j < k → ps.getD j 0 ≠ m) ∧ wr = w) (fun z _ => ps.length - (intOf z).toNat)
 case atStart => exact ⟨0, Nat.zero_le _, rfl, hide fun j hj => by omega, rfl⟩
 case round =>
  obtain ⟨k, hk, rfl, HNO, rfl⟩ := hrel
  by_cases hlt : k < ps.length
  ·obtain ⟨b, off, rfl, hb, c⟩ := h k hlt
   have hget : ps.getD k 0 = ps[k] := by simp [List.getElem?_eq_getElem hlt]
   have hmem : ps[k] ∈ ps := List.getElem_mem hlt
   generalize ps[k] = q at *
   by_cases hq : m = q
   ·have HM := hide hmem
    subst hq
    clear hget hmem
    have he := mv_eql_same wr m
    go_wp2
    go_ret
    exact ⟨⟨k, rfl, ⟨fun _ => unhide HM, fun _ => Int.natCast_nonneg k⟩⟩, rfl⟩
   ·have he := mv_eql_other wr hq hm (unhide HPS q hmem)
    have HG := hide hget
    clear hget hmem
    go_wp2
    refine ⟨⟨k + 1, by omega, by go_num, ?_, by first | rfl | trivial⟩, by simp [intOf]; omega⟩
    refine hide fun j hj => ?_
    by_cases e : j = k
    ·subst e; rw [unhide HG]; exact fun x => hq x.symm
    ·exact unhide HNO j (by omega)
  ·have HF : Hid (m ∉ ps) := fun hm => by
    obtain ⟨j, hj, e⟩ := List.getElem_of_mem hm
    exact unhide HNO j (by omega) (by simp [List.getElem?_eq_getElem hj, e])
   go_wp2
   go_ret
   exact ⟨⟨-1, rfl, ⟨fun h => by omega, fun h => absurd h (unhide HF)⟩⟩, rfl⟩

set_option maxRecDepth 100000 in
set_option maxHeartbeats 2000000 in
theorem pContains_any (a : Option Addr) (cap : Nat) (ps : List Nat) (m : Nat) (w : World) (h : PtrsAt w a ps) (hl : ps.length ≤ 1000000) (hm : IsCells w m) (hps : ∀ q ∈ ps, IsCells w q) :
  Calls Tryz.prog 154 #[.slice a ps.length cap, .pointer (some ⟨m, 0, none⟩)] w fun e w' => RetB (m ∈ ps) e ∧ w' = w := by
 go_enter Tryz.func154, Tryz.ntmps154
 go_wp2_with fail
 refine (pIndex_any a cap ps m _ h hl hm hps).mono ?_
 rintro e w1 ⟨⟨r, rfl, hr⟩, hw⟩
 subst hw
 by_cases h0 : 0 ≤ r
 ·have HM := hide (hr.1 h0)
  clear hr
  go_wp2
  go_ret
  exact ⟨retB_true (unhide HM), rfl⟩
 ·have HM : Hid (¬ m ∈ ps) := fun x => h0 (hr.2 x)
  clear hr
  go_wp2
  go_ret
  have hd : decide (0 ≤ r) = false := decide_eq_false (by omega)
  exact ⟨by show RetB _ (.returned (.bool (decide (0 ≤ r)))); rw [hd]; exact retB_false (unhide HM), rfl⟩

end Go.Proofs.YtbdggfpfpjijoabGreatDoor

namespace Go.Proofs.YtbdggfpfpjijoabGreatDoor
open Go.RowKit

set_option maxRecDepth 100000 in
set_option maxHeartbeats 2000000 in
theorem touches1_any (x y : Pt) (P : Nat) (w : World) (h : Boxed w P [.int .i64 y.piece, .int .i64 y.fr, .int .i64 y.to]) :
  Calls Tryz.prog 158 #[.agg #[.int .i64 x.piece, .int .i64 x.fr, .int .i64 x.to], .pointer (some ⟨P, 0, none⟩)] w fun e w' => RetB (Touch x y) e ∧ Below w.heap.size w w' := by
 have p0 := h.2.1 0 _ rfl
 have p1 := h.2.1 1 _ rfl
 have p2 := h.2.1 2 _ rfl
 have pl := h.1
 go_enter Tryz.func158, Tryz.ntmps158
 go_wp2_with fail
 refine (touch_any x y _).mono ?_
 rintro e w1 ⟨hr, hb1⟩
 have hbw : Below w.heap.size w w1 := below_then bw0 hb1
 rcases hr with ⟨rfl, hr⟩ | ⟨rfl, hr⟩
 ·have HR := hide hr
  clear hr
  go_wp2
  go_ret
  exact ⟨retB_true (unhide HR), hbw⟩
 ·have HR := hide hr
  clear hr
  go_wp2
  go_ret
  exact ⟨retB_false (unhide HR), hbw⟩

set_option maxRecDepth 100000 in
set_option maxHeartbeats 2000000 in
theorem fIndex_any (a : Option Addr) (ca : Nat) (ps : List Pt) (y : Pt) (P : Nat) (w : World) {L : Nat} (hp : PtsAt L w a ps) (hl : ps.length ≤ 1048576) (h : Boxed w P [.int .i64 y.piece, .int .i64 y.fr, .int .i64 y.to]) :
  Calls Tryz.prog 183 #[.slice a ps.length ca, .func (.func 158) #[] #[.pointer (some ⟨P, 0, none⟩)]] w fun e w' => (∃ r : Int, e = .returned (.int .i64 r) ∧ (0 ≤ r ↔ ∃ x ∈ ps, Touch x y)) ∧ Below w.heap.size w w' := by
 have hpp := hp
 have hcf : ∀ (x : Value) (W : World), (callFunc 158 #[x, .pointer (some ⟨P, 0, none⟩)]).run Tryz.prog W = .ok (.enter 158 #[x, .pointer (some ⟨P, 0, none⟩)]) W := fun _ _ => by kernel_rfl
 go_enter Tryz.func183, Tryz.ntmps183
 go_wp2_with fail
 go_loopw [8] (fun z wr => ∃ k : Nat, k ≤ ps.length ∧ z = .int .i64 k ∧ Hid (∀ j (h : j < ps.length), j < k → ¬ Touch ps[j] y) ∧ Below w.heap.size w wr) (fun z _ => ps.length - (intOf z).toNat)
 case atStart => exact ⟨0, Nat.zero_le _, rfl, hide fun j _ hj => by omega, Below.refl _ _⟩
 case round =>
  obtain ⟨k, hk, rfl, HNO, hb⟩ := hrel
  by_cases hlt : k < ps.length
  ·obtain ⟨b, off, rfl, hbs, c0w, c1w, c2w⟩ := hpp k hlt
   have c0 := (hb.cell hbs.2).trans c0w
   have c1 := (hb.cell hbs.2).trans c1w
   have c2 := (hb.cell hbs.2).trans c2w
   have hx : ps[k] ∈ ps := List.getElem_mem hlt
   have HX := hide hx
   have HB := hide (h.below hb)
   have HGET : Hid (∀ z, ps[k] = z → z ∈ ps) := fun z e => e ▸ hx
   clear hx
   go_wp2_with fail
   refine (touches1_any ps[k] y P _ ((unhide HB).below ?_)).mono ?_
   ·exact bw0
   rintro e w1 ⟨⟨rfl, ht⟩ | ⟨rfl, ht⟩, hb1⟩
   ·have HT := hide ht
    clear ht
    go_wp2
    go_ret
    exact ⟨⟨k, rfl, ⟨fun _ => ⟨_, unhide HX, unhide HT⟩, fun _ => Int.natCast_nonneg k⟩⟩, below_then hb (below_then bw0 hb1)⟩
   ·have HT := hide ht
    clear ht
    go_wp2
    refine ⟨⟨k + 1, by omega, by go_num, ?_, below_then hb (below_then bw0 hb1)⟩, by simp [intOf]; omega⟩
    refine hide fun j hj hjk => ?_
    by_cases e : j = k
    ·subst e; exact unhide HT
    ·exact unhide HNO j hj (by omega)
  ·have HF : Hid (¬ ∃ x ∈ ps, Touch x y) := by
    rintro ⟨x, hx, ht⟩
    obtain ⟨j, hj, rfl⟩ := List.getElem_of_mem hx
    exact unhide HNO j hj (by omega) ht
   go_wp2
   go_ret
   exact ⟨⟨-1, rfl, ⟨fun h => by omega, fun h => absurd h (unhide HF)⟩⟩, hb⟩

set_option maxRecDepth 100000 in
set_option maxHeartbeats 2000000 in
theorem fContains_any (a : Option Addr) (ca : Nat) (ps : List Pt) (y : Pt) (P : Nat) (w : World) {L : Nat} (hp : PtsAt L w a ps) (hl : ps.length ≤ 1048576) (h : Boxed w P [.int .i64 y.piece, .int .i64 y.fr, .int .i64 y.to]) :
  Calls Tryz.prog 157 #[.slice a ps.length ca, .func (.func 158) #[] #[.pointer (some ⟨P, 0, none⟩)]] w fun e w' => RetB (∃ x ∈ ps, Touch x y) e ∧ Below w.heap.size w w' := by
 go_enter Tryz.func157, Tryz.ntmps157
 go_wp2_with fail
 refine (fIndex_any a ca ps y P _ hp hl h).mono ?_
 rintro e w1 ⟨⟨r, rfl, hr⟩, hb1⟩
 by_cases h0 : 0 ≤ r
 ·have HM := hide (hr.1 h0)
  clear hr
  go_wp2
  go_ret
  exact ⟨retB_true (unhide HM), hb1⟩
 ·have HM : Hid (¬ ∃ x ∈ ps, Touch x y) := fun x => h0 (hr.2 x)
  clear hr
  go_wp2
  go_ret
  have hd : decide (0 ≤ r) = false := decide_eq_false (by omega)
  exact ⟨by show RetB _ (.returned (.bool (decide (0 ≤ r)))); rw [hd]; exact retB_false (unhide HM), hb1⟩

set_option maxRecDepth 100000 in
set_option maxHeartbeats 2000000 in
theorem touches_any (M : Nat) (a : Option Addr) (ca : Nat) (ps : List Pt) (y : Pt) (w : World) {L : Nat} (hM : M < w.heap.size) (hc : w.cell? ⟨M, 413, none⟩ = some (.slice a ps.length ca)) (hp : PtsAt L w a ps) (hl : ps.length ≤ 1048576) :
  Calls Tryz.prog 119 #[.pointer (some ⟨M, 0, none⟩), .agg #[.int .i64 y.piece, .int .i64 y.fr, .int .i64 y.to]] w fun e w' => RetB (∃ x ∈ ps, Touch x y) e ∧ Below w.heap.size w w' := by
 have hmf : ∀ (fn : Fn) (first cap : Array Value) (W : World), (Instr.makeFunc fn first cap).run Tryz.prog W = .ok (.func fn first cap) W := fun _ _ _ _ => rfl
 go_enter Tryz.func119, Tryz.ntmps119
 go_wp2_with fail
 refine (fContains_any a ca ps y w.heap.size _ (hp.below ?_) hl ?_).mono ?_
 ·exact bw0
 ·first | exact boxed_alloc _ _ _ | exact (boxed_alloc _ _ _).drew | exact boxedN _ _ _ (by simp)
 rintro e w1 ⟨⟨rfl, ht⟩ | ⟨rfl, ht⟩, hb1⟩
 ·have HT := hide ht
  clear ht
  go_wp2
  go_ret
  exact ⟨retB_true (unhide HT), below_then bw0 hb1⟩
 ·have HT := hide ht
  clear ht
  go_wp2
  go_ret
  exact ⟨retB_false (unhide HT), below_then bw0 hb1⟩

end Go.Proofs.YtbdggfpfpjijoabGreatDoor

