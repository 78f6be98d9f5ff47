import Derived.Test.YtbdggfpfpjijoaaGreatDoorMPlain3
import Derived.Test.YtbdggfpfpjijoaaGreatDoorMPlain
import Derived.Test.YtbdggfpfpjijoaaGreatDoorMSpec9
namespace Go.Proofs.YtbdggfpfpjijoaaGreatDoor
open Go.RowKit

def ptF (p : Pt) : List Value := [.int .i64 p.piece, .int .i64 p.fr, .int .i64 p.to]
theorem ptF_len (p : Pt) : (ptF p).length = 3 := rfl

theorem info_Part : (Tryz.prog.info? 106).map (fun i => (i.zero, i.size, i.bytes)) = some (some (.agg #[.int .i64 0, .int .i64 0, .int .i64 0]), 3, 24) := by kernel_rfl

abbrev PtRow (w : World) (base : Nat) (v : Value) (ps : List Pt) : Prop := Row w base 106 3 ptF v ps

set_option maxRecDepth 100000 in
set_option maxHeartbeats 2000000 in
theorem l2part_any (v : Value) (n : Nt) (s : St) (a b : Int) (w : World) {L : Nat} (hv : NetAt L w v n) (hs : StepOk n s) (hlen : lenOf n s.piece ≤ 10000000) (h0 : 0 ≤ lenOf n s.piece) (ha : 0 ≤ a ∧ a ≤ 10000000) (hb : 0 ≤ b ∧ b ≤ 10000000) :
  Calls Tryz.prog 103 #[v, .int .i64 s.piece, .int .i64 s.way, .int .i64 a, .int .i64 b] w fun e w' => e = .returned (.agg #[.int .i64 (partOf n s a b).piece, .int .i64 (partOf n s a b).fr, .int .i64 (partOf n s a b).to]) ∧ Below w.heap.size w w' := by
 obtain ⟨x, c, ca, cc, rfl, hp, hj⟩ := hv
 obtain ⟨p, y⟩ := s
 obtain ⟨⟨h1, h2⟩, hy⟩ := hs
 dsimp only at h1 h2 hy hlen h0 ⊢
 obtain ⟨pb, poff, rfl, hpb, c1⟩ := hp.len h1 h2
 obtain ⟨pn, rfl⟩ := Int.eq_ofNat_of_zero_le h1
 simp only [Int.toNat_natCast] at c1
 have w1 := wrap_small (x := lenOf n pn - b) (by omega) (by omega)
 have w2 := wrap_small (x := lenOf n pn - a) (by omega) (by omega)
 rcases hy with rfl | rfl
 ·have HP : Hid (partOf n ⟨pn, 1⟩ a b = ⟨pn, a, b⟩) := by unfold Hid; simp [partOf]
  go_enter Tryz.func103, Tryz.ntmps103
  go_wp2
  exact bodyPost_ret (v := .agg #[.int .i64 pn, .int .i64 a, .int .i64 b]) (by simp [results, Tryz.results103, go_sem]) rfl ⟨by rw [unhide HP], bw0⟩
 ·have HP : Hid (partOf n ⟨pn, -1⟩ a b = ⟨pn, lenOf n pn - b, lenOf n pn - a⟩) := by unfold Hid; simp [partOf]
  go_enter Tryz.func103, Tryz.ntmps103
  go_wp2
  exact bodyPost_ret (v := .agg #[.int .i64 pn, .int .i64 (lenOf n pn - b), .int .i64 (lenOf n pn - a)]) (by simp [results, Tryz.results103, go_sem]) rfl ⟨by rw [unhide HP], bw0⟩

def bodyParts (n : Nt) (t : Tr) : List Pt := bodyFrom n t.long (behind n t.front) ⟨t.front.piece, t.front.way⟩ t.back

end Go.Proofs.YtbdggfpfpjijoaaGreatDoor

