import Derived.Test.YtbdggfpfpjijoaaGreatRows
import Derived.Test.YtbdggfpfpjijoaaGreatG0
import Derived.WalkSpells
import Derived.BigQuiet
import Derived.Deep.RegionWith
namespace Go.Proofs.YtbdggfpfpjijoaaGreat
open Go.RowKit

set_option maxHeartbeats 400000 in
theorem eqEnd_any (p s : Int) (w : World) :
    Calls Tryz.prog 193 #[.agg #[.int .i64 p, .int .i64 s], .agg #[.int .i64 p, .int .i64 s]] w fun e w' =>
      e = .returned (.bool true) ∧ Below w.heap.size w w' := by
  go_enter Tryz.func193, Tryz.ntmps193
  go_wp2
  go_ret
  exact ⟨rfl, bw0⟩

set_option maxHeartbeats 400000 in
theorem eqPiece_any (s : ByteArray) (l sp br : Int) (w : World) :
    Calls Tryz.prog 141 #[.agg #[.string s, .int .i64 l, .int .i64 sp, .int .i64 br], .agg #[.string s, .int .i64 l, .int .i64 sp, .int .i64 br]] w fun e w' =>
      e = .returned (.bool true) ∧ Below w.heap.size w w' := by
  go_enter Tryz.func141, Tryz.ntmps141
  go_wp2
  go_ret
  exact ⟨rfl, bw0⟩



set_option maxHeartbeats 1000000 in
theorem eqEndS_any (a c : Option Addr) (es : List Ed) (ca cc : Nat) (w : World) {L L' : Nat} (hl : es.length ≤ 1048576) (hp : EdsAt L w a es) (hq : EdsAt L' w c es) :
    Calls Tryz.prog 175 #[.slice a es.length ca, .slice c es.length cc] w fun e w' =>
      e = .returned (.bool true) ∧ Below w.heap.size w w' := by
  go_enter Tryz.func175, Tryz.ntmps175
  go_wp2
  go_loopw [5] (fun i wr => ∃ (k : Nat), k ≤ es.length ∧ i = .int .i64 k ∧ Below w.heap.size w wr) (fun i _ => es.length - (intOf i).toNat)
  case atStart => exact ⟨0, Nat.zero_le _, rfl, Below.refl _ _⟩
  case round =>
    obtain ⟨k, hk, rfl, hb⟩ := hrel
    by_cases hlt : k < es.length
    · obtain ⟨b, off, rfl, hbs, c0, c1⟩ := hp.below hb k hlt
      obtain ⟨b', off', rfl, hbs', c0', c1'⟩ := hq.below hb k hlt
      go_wp2_with fail
      go_region_with (go_at_call 193; refine (eqEnd_any _ _ _).mono ?_; rintro e w1 ⟨rfl, hb1⟩)
      all_goals go_wp2
      all_goals exact ⟨⟨k + 1, by omega, by go_num, below_then hb.drew hb1⟩, by simp [intOf]; omega⟩
    · go_wp2
      go_ret
      exact ⟨rfl, hb⟩

set_option maxHeartbeats 1000000 in
theorem eqPieceS_any (a c : Option Addr) (ps : List Pc) (ca cc : Nat) (w : World) {L L' : Nat} (hl : ps.length ≤ 1048576) (hp : PcsAt L w a ps) (hq : PcsAt L' w c ps) :
    Calls Tryz.prog 78 #[.slice a ps.length ca, .slice c ps.length cc] w fun e w' =>
      e = .returned (.bool true) ∧ Below w.heap.size w w' := by
  go_enter Tryz.func78, Tryz.ntmps78
  go_wp2
  go_loopw [5] (fun i wr => ∃ (k : Nat), k ≤ ps.length ∧ i = .int .i64 k ∧ Below w.heap.size w wr) (fun i _ => ps.length - (intOf i).toNat)
  case atStart => exact ⟨0, Nat.zero_le _, rfl, Below.refl _ _⟩
  case round =>
    obtain ⟨k, hk, rfl, hb⟩ := hrel
    by_cases hlt : k < ps.length
    · obtain ⟨b, off, rfl, hbs, c0, c1, c2, c3⟩ := hp.below hb k hlt
      obtain ⟨b', off', rfl, hbs', c0', c1', c2', c3'⟩ := hq.below hb k hlt
      go_wp2_with fail
      go_region_with (go_at_call 141; refine (eqPiece_any _ _ _ _ _).mono ?_; rintro e w1 ⟨rfl, hb1⟩)
      all_goals go_wp2
      all_goals exact ⟨⟨k + 1, by omega, by go_num, below_then hb.drew hb1⟩, by simp [intOf]; omega⟩
    · go_wp2
      go_ret
      exact ⟨rfl, hb⟩

set_option maxHeartbeats 1000000 in
theorem eqJoint_any (kd : Int) (s : ByteArray) (a c : Option Addr) (es : List Ed) (ca cc : Nat) (w : World) {L L' : Nat} (hl : es.length ≤ 1048576) (hp : EdsAt L w a es) (hq : EdsAt L' w c es) :
    Calls Tryz.prog 142 #[.agg #[.int .i64 kd, .string s, .slice a es.length ca], .agg #[.int .i64 kd, .string s, .slice c es.length cc]] w fun e w' =>
      e = .returned (.bool true) ∧ Below w.heap.size w w' := by
  go_enter Tryz.func142, Tryz.ntmps142
  go_wp2_with fail
  refine (eqEndS_any a c es ca cc _ hl (L := L) (L' := L') ?hA ?hB).mono ?_
  case hA => exact hp.below bw0
  case hB => exact hq.below bw0
  rintro e w1 ⟨rfl, hb1⟩
  have hbw := Below.trans (bw0 : Below w.heap.size w _) (hb1.mono (by simp <;> omega))
  go_wp2
  go_ret
  exact ⟨rfl, hbw⟩

set_option maxHeartbeats 1000000 in
theorem eqJointS_any (a c : Option Addr) (js : List Jt) (ca cc : Nat) (w : World) {L L' : Nat} (hl : js.length ≤ 1048576) (hle : ∀ i (h : i < js.length), js[i].ends.length ≤ 1048576) (hp : JtsAt L w a js) (hq : JtsAt L' w c js) :
    Calls Tryz.prog 79 #[.slice a js.length ca, .slice c js.length cc] w fun e w' =>
      e = .returned (.bool true) ∧ Below w.heap.size w w' := by
  go_enter Tryz.func79, Tryz.ntmps79
  go_wp2
  go_loopw [5] (fun i wr => ∃ (k : Nat), k ≤ js.length ∧ i = .int .i64 k ∧ Below w.heap.size w wr) (fun i _ => js.length - (intOf i).toNat)
  case atStart => exact ⟨0, Nat.zero_le _, rfl, Below.refl _ _⟩
  case round =>
    obtain ⟨k, hk, rfl, hb⟩ := hrel
    by_cases hlt : k < js.length
    · obtain ⟨b, off, ea, ec, rfl, hbs, c0, c1, c2, he⟩ := hp.below hb k hlt
      obtain ⟨b', off', ea', ec', rfl, hbs', c0', c1', c2', he'⟩ := hq.below hb k hlt
      have hle' := hle k hlt
      have HE := hide (he.below (Below.drew (Below.refl _ _)))
      have HE' := hide (he'.below (Below.drew (Below.refl _ _)))
      clear hle
      go_wp2_with fail
      go_region_with (go_at_call 142; refine (eqJoint_any _ _ _ _ _ _ _ _ hle' (unhide HE) (unhide HE')).mono ?_; rintro e w1 ⟨rfl, hb1⟩)
      all_goals go_wp2
      all_goals exact ⟨⟨k + 1, by omega, by go_num, below_then hb.drew hb1⟩, by simp [intOf]; omega⟩
    · go_wp2
      go_ret
      exact ⟨rfl, hb⟩

set_option maxHeartbeats 1000000 in
theorem eqNet_any (v v' : Value) (n : Nt) (w : World) {L L' : Nat} (hl : n.pieces.length ≤ 1048576) (hl' : n.joints.length ≤ 1048576) (hle : ∀ i (h : i < n.joints.length), n.joints[i].ends.length ≤ 1048576) (hp : NetAt L w v n) (hq : NetAt L' w v' n) :
    Calls Tryz.prog 29 #[v, v'] w fun e w' =>
      e = .returned (.bool true) ∧ Below w.heap.size w w' := by
  obtain ⟨a, c, ca, cc, rfl, hpp, hpj⟩ := hp
  obtain ⟨a', c', ca', cc', rfl, hqp, hqj⟩ := hq
  go_enter Tryz.func29, Tryz.ntmps29
  go_wp2_with fail
  refine (eqPieceS_any a a' n.pieces ca ca' _ hl (L := L) (L' := L') ?hA ?hB).mono ?_
  case hA => exact hpp.below bw0
  case hB => exact hqp.below bw0
  rintro e w1 ⟨rfl, hb1⟩
  have hbw := Below.trans (bw0 : Below w.heap.size w _) (hb1.mono (by simp <;> omega))
  obtain ⟨hc, hf⟩ := bcell hb1
  have hz := hb1.size
  simp at hz
  go_wp2_with fail
  refine (eqJointS_any c c' n.joints cc cc' _ hl' hle (L := L) (L' := L') ?hA ?hB).mono ?_
  case hA => exact hpj.below hbw
  case hB => exact hqj.below hbw
  rintro e w2 ⟨rfl, hb2⟩
  go_wp2
  go_ret
  exact ⟨rfl, below_then hbw hb2⟩
end Go.Proofs.YtbdggfpfpjijoaaGreat

