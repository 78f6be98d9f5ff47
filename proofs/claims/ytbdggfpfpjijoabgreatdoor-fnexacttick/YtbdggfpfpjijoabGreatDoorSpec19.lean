import Derived.Test.YtbdggfpfpjijoabGreatDoorMKw7t
import Derived.Test.YtbdggfpfpjijoabGreatDoorMPlain3
import Derived.Test.YtbdggfpfpjijoabGreatDoorMTouch
namespace Go.Proofs.YtbdggfpfpjijoabGreatDoor
open Go.RowKit

theorem touch_hits (cs ps : List Pt) : TouchL cs ps ↔ hits ps cs = true := by
 unfold hits TouchL
 simp only [List.any_eq_true, decide_eq_true_eq]
 constructor
 ·rintro ⟨i, j, h, h', ht⟩
  exact ⟨ps[j], List.getElem_mem h', cs[i], List.getElem_mem h, ht⟩
 ·rintro ⟨y, hy, x, hx, ht⟩
  obtain ⟨j, h', rfl⟩ := List.getElem_of_mem hy
  obtain ⟨i, h, rfl⟩ := List.getElem_of_mem hx
  exact ⟨i, j, h, h', ht⟩

set_option maxRecDepth 100000 in
set_option maxHeartbeats 4000000 in
theorem l4good_any (v : Value) (n : Nt) (tq : Option Addr) (ts : List Tr) (tk : Nat) (w : World) {L L' : Nat} (hv : NetAt L w v n) (hts : TrsAt L' w tq ts) (htl : ts.length ≤ 1048576) (hbl : ∀ t ∈ ts, t.back.length ≤ 1048576) (hl : n.pieces.length ≤ 1048576) (hl' : n.joints.length ≤ 1048576)
  (hle : ∀ i (h : i < n.joints.length), n.joints[i].ends.length ≤ 1048576 ∧ n.joints[i].name.size ≤ maxLen) (hnm : ∀ i (h : i < n.pieces.length), n.pieces[i].name.size ≤ maxLen) :
  Calls Tryz.prog 59 #[v, .slice tq ts.length tk] w fun e w' => RetB (WorldOk n ts) e ∧ Below w.heap.size w w' := by
 have hvv := hv
 obtain ⟨x, c, ca, cc, rfl, hp, hj⟩ := hv
 go_enter Tryz.func59, Tryz.ntmps59
 go_wp2_with fail
 refine (l1ok_any _ n _ (hvv.below ?_) hl hl' hle hnm).mono ?_
 ·exact bw0
 rintro e w1 ⟨hR, hb1⟩
 have hbw1 : Below w.heap.size w w1 := below_then bw0 hb1
 have hN1 : Boxed w1 w.heap.size [.slice x n.pieces.length ca, .slice c n.joints.length cc] := (boxed_alloc _ _ _).below hb1
 rcases hR with ⟨rfl, hR⟩ | ⟨rfl, hR⟩
 rotate_left
 ·have HR := hide hR
  clear hR
  go_wp2
  go_ret
  exact ⟨retB_false fun h => unhide HR h.1, hbw1⟩
 have hG := netGood hR
 have HR := hide hR
 clear hR
 by_cases h20 : ts.length ≤ 20
 rotate_left
 ·have h20b : (20 : Int) < (ts.length : Int) := by omega
  go_wp2
  go_ret
  exact ⟨retB_false fun h => h20 h.2.1, hbw1⟩
 have h20b : ¬ (20 : Int) < (ts.length : Int) := by omega
 go_wp2_with fail
 go_loopw [17] (fun z wr => ∃ k : Nat, k ≤ ts.length ∧ z = .int .i64 k ∧ Hid (∀ t ∈ ts.take k, TrainFits n t) ∧ Boxed wr w.heap.size [.slice x n.pieces.length ca, .slice c n.joints.length cc] ∧ Below w.heap.size w wr) (fun z _ => ts.length - (intOf z).toNat)
 case atStart => exact ⟨0, Nat.zero_le _, rfl, hide fun t ht => by simp at ht, hN1, hbw1⟩
 case round =>
  obtain ⟨k, hk, rfl, HOK, hN, hb⟩ := hrel
  have nn := hN.1
  have a0 := hN.2.1 0 _ rfl
  have a1 := hN.2.1 1 _ rfl
  by_cases hlt : k < ts.length
  ·obtain ⟨tb, toff, ba, bc, hte, htb, c0, c1, c2, c3, c4, hst, hcap⟩ := hts.below hb k hlt
   have hblk := hbl ts[k] (List.getElem_mem hlt)
   have htk : ts.take (k + 1) = ts.take k ++ [ts[k]] := List.take_succ_eq_append_getElem hlt
   have hmemk : ts[k] ∈ ts := List.getElem_mem hlt
   generalize ts[k] = t at *
   have htb2 := htb.2
   subst hte
   have hA : Below wr.heap.size wr (wr.alloc (.cells #[.int .i64 t.front.piece, .int .i64 t.front.at_, .int .i64 t.front.way, .int .i64 t.long, .slice ba t.back.length bc] 37)) := bw0
   have hbA := below_then hb hA
   go_wp2_with fail
   refine (l2train_any _ _ n t _ (hvv.below hbA) ⟨ba, bc, rfl, hst.below hA⟩ hG hblk).mono ?_
   rintro e w2 ⟨⟨rfl, hf⟩ | ⟨rfl, hf⟩, hb2⟩
   ·have HF := hide hf
    clear hf
    go_wp2
    refine ⟨⟨k + 1, by omega, by go_num, hide fun t' ht' => ?_, hN.below (below_then hA hb2), below_then hbA hb2⟩, by simp [intOf]; omega⟩
    rw [htk] at ht'
    rcases List.mem_append.1 ht' with h | h
    ·exact unhide HOK t' h
    ·obtain rfl : t' = t := by simpa using h
     exact unhide HF
   ·have HF : Hid (¬ WorldOk n ts) := fun h => hf (h.2.2 t hmemk)
    clear hf
    go_wp2
    go_ret
    exact ⟨retB_false (unhide HF), below_then hbA hb2⟩
  ·have hkl : k = ts.length := by omega
   have HFIN : Hid (WorldOk n ts) := ⟨unhide HR, h20, by have := unhide HOK; rw [hkl] at this; simpa using this⟩
   clear hkl
   go_wp2
   go_ret
   exact ⟨retB_true (unhide HFIN), hb⟩

end Go.Proofs.YtbdggfpfpjijoabGreatDoor

