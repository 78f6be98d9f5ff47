import Derived.Test.YtjacbppeebnjfaaGreatMImpl1
namespace Go.Proofs.YtjacbppeebnjfaaGreat
open Go.RowKit

theorem upon_method {P : Program} {o : Oper} {a : Act} {K : Act → World → Prop} {Q : Exit → Act → World → Prop} {n u f : Nat} {v : Value} {name : String} {w : World} {g : FuncId × Value → World → Result Next}
  (hm : (method n u v name).run P w = .ok (f, v) w) (h : Oper.upon P o a K Q (g (f, v) w)) : Oper.upon P o a K Q (((method n u v name).run P w).andThen g) := by
 rw [hm]
 exact h

def AllFit (np : Nat) (es : List Ed) : Prop := ∀ i (h : i < es.length), EdFits np es[i]

set_option maxRecDepth 100000 in
set_option maxHeartbeats 1000000 in
theorem endsFit_any (v : Value) (kd : Int) (es : List Ed) (np : Nat) (w : World) (hv : ShV v kd es) :
  Calls Tryz.prog 133 #[v, .int .i64 np] w fun e w' => RetB (AllFit np es) e ∧ Below w.heap.size w w' := by
 rcases hv with ⟨a, rfl, rfl, rfl⟩ | ⟨a, b, rfl, rfl, rfl⟩ | ⟨a, b, c, rfl, rfl, rfl⟩ | ⟨a, b, c, d, rfl, rfl, rfl⟩
 ·go_enter Tryz.func133, Tryz.ntmps133
  go_wp2_with fail
  refine upon_method (f := 159) (by kernel_rfl) ?_
  go_wp2_with fail
  refine (ends1_any a _).mono ?_
  rintro e w1 ⟨B, rfl, hE, hb1⟩
  go_wp2_with fail
  go_loopw [10] (fun x wr => ∃ k : Nat, k ≤ 1 ∧ x = .int .i64 k ∧ (∀ j (h : j < ([a] : List Ed).length), j < k → EdFits np ([a] : List Ed)[j]) ∧ Below w1.heap.size w1 wr) (fun x _ => 1 - (intOf x).toNat)
  case atStart => exact ⟨0, Nat.zero_le _, rfl, fun j h h' => by omega, Below.refl _ _⟩
  case round =>
   obtain ⟨k, hk, rfl, hall, hb⟩ := hrel
   have hsz := hb.size
   by_cases hlt : k < 1
   ·obtain ⟨B', off', hq, hbs, x0, y0⟩ := hE.below hb k hlt
    obtain ⟨rfl, rfl⟩ : B = B' ∧ 0 = off' := by simpa using hq
    generalize hx : ([a] : List Ed)[k] = ed at *
    have HX := hide hx
    clear hx hq
    simp only [Nat.zero_add] at x0 y0
    by_cases h1 : ed.piece < 0
    ·go_wp2
     go_ret
     exact ⟨retB_false fun h => by have := h k hlt; rw [unhide HX] at this; unfold EdFits at this; omega, below_then hb1 (bw1 hb)⟩
    by_cases h2 : (np : Int) ≤ ed.piece
    ·go_wp2
     go_ret
     exact ⟨retB_false fun h => by have := h k hlt; rw [unhide HX] at this; unfold EdFits at this; omega, below_then hb1 (bw1 hb)⟩
    by_cases h3 : ed.side < 0
    ·go_wp2
     go_ret
     exact ⟨retB_false fun h => by have := h k hlt; rw [unhide HX] at this; unfold EdFits at this; omega, below_then hb1 (bw1 hb)⟩
    by_cases h4 : 1 < ed.side
    ·go_wp2
     go_ret
     exact ⟨retB_false fun h => by have := h k hlt; rw [unhide HX] at this; unfold EdFits at this; omega, below_then hb1 (bw1 hb)⟩
    go_wp2
    refine ⟨⟨k + 1, by omega, by go_num, fun j h h' => ?_, (bw1 hb)⟩, by simp [intOf]; omega⟩
    by_cases e : j = k
    ·subst e
     rw [unhide HX]
     exact ⟨⟨by omega, by omega⟩, by omega, by omega⟩
    ·exact hall j h (by omega)
   ·go_wp2
    go_ret
    exact ⟨retB_true fun i h => hall i h (by simp at h; omega), below_then hb1 hb⟩
 ·go_enter Tryz.func133, Tryz.ntmps133
  go_wp2_with fail
  refine upon_method (f := 157) (by kernel_rfl) ?_
  go_wp2_with fail
  refine (ends2_any a b _).mono ?_
  rintro e w1 ⟨B, rfl, hE, hb1⟩
  go_wp2_with fail
  go_loopw [10] (fun x wr => ∃ k : Nat, k ≤ 2 ∧ x = .int .i64 k ∧ (∀ j (h : j < ([a, b] : List Ed).length), j < k → EdFits np ([a, b] : List Ed)[j]) ∧ Below w1.heap.size w1 wr) (fun x _ => 2 - (intOf x).toNat)
  case atStart => exact ⟨0, Nat.zero_le _, rfl, fun j h h' => by omega, Below.refl _ _⟩
  case round =>
   obtain ⟨k, hk, rfl, hall, hb⟩ := hrel
   have hsz := hb.size
   by_cases hlt : k < 2
   ·obtain ⟨B', off', hq, hbs, x0, y0⟩ := hE.below hb k hlt
    obtain ⟨rfl, rfl⟩ : B = B' ∧ 0 = off' := by simpa using hq
    generalize hx : ([a, b] : List Ed)[k] = ed at *
    have HX := hide hx
    clear hx hq
    simp only [Nat.zero_add] at x0 y0
    by_cases h1 : ed.piece < 0
    ·go_wp2
     go_ret
     exact ⟨retB_false fun h => by have := h k hlt; rw [unhide HX] at this; unfold EdFits at this; omega, below_then hb1 (bw1 hb)⟩
    by_cases h2 : (np : Int) ≤ ed.piece
    ·go_wp2
     go_ret
     exact ⟨retB_false fun h => by have := h k hlt; rw [unhide HX] at this; unfold EdFits at this; omega, below_then hb1 (bw1 hb)⟩
    by_cases h3 : ed.side < 0
    ·go_wp2
     go_ret
     exact ⟨retB_false fun h => by have := h k hlt; rw [unhide HX] at this; unfold EdFits at this; omega, below_then hb1 (bw1 hb)⟩
    by_cases h4 : 1 < ed.side
    ·go_wp2
     go_ret
     exact ⟨retB_false fun h => by have := h k hlt; rw [unhide HX] at this; unfold EdFits at this; omega, below_then hb1 (bw1 hb)⟩
    go_wp2
    refine ⟨⟨k + 1, by omega, by go_num, fun j h h' => ?_, (bw1 hb)⟩, by simp [intOf]; omega⟩
    by_cases e : j = k
    ·subst e
     rw [unhide HX]
     exact ⟨⟨by omega, by omega⟩, by omega, by omega⟩
    ·exact hall j h (by omega)
   ·go_wp2
    go_ret
    exact ⟨retB_true fun i h => hall i h (by simp at h; omega), below_then hb1 hb⟩
 ·go_enter Tryz.func133, Tryz.ntmps133
  go_wp2_with fail
  refine upon_method (f := 156) (by kernel_rfl) ?_
  go_wp2_with fail
  refine (ends3_any a b c _).mono ?_
  rintro e w1 ⟨B, rfl, hE, hb1⟩
  go_wp2_with fail
  go_loopw [10] (fun x wr => ∃ k : Nat, k ≤ 3 ∧ x = .int .i64 k ∧ (∀ j (h : j < ([a, b, c] : List Ed).length), j < k → EdFits np ([a, b, c] : List Ed)[j]) ∧ Below w1.heap.size w1 wr) (fun x _ => 3 - (intOf x).toNat)
  case atStart => exact ⟨0, Nat.zero_le _, rfl, fun j h h' => by omega, Below.refl _ _⟩
  case round =>
   obtain ⟨k, hk, rfl, hall, hb⟩ := hrel
   have hsz := hb.size
   by_cases hlt : k < 3
   ·obtain ⟨B', off', hq, hbs, x0, y0⟩ := hE.below hb k hlt
    obtain ⟨rfl, rfl⟩ : B = B' ∧ 0 = off' := by simpa using hq
    generalize hx : ([a, b, c] : List Ed)[k] = ed at *
    have HX := hide hx
    clear hx hq
    simp only [Nat.zero_add] at x0 y0
    by_cases h1 : ed.piece < 0
    ·go_wp2
     go_ret
     exact ⟨retB_false fun h => by have := h k hlt; rw [unhide HX] at this; unfold EdFits at this; omega, below_then hb1 (bw1 hb)⟩
    by_cases h2 : (np : Int) ≤ ed.piece
    ·go_wp2
     go_ret
     exact ⟨retB_false fun h => by have := h k hlt; rw [unhide HX] at this; unfold EdFits at this; omega, below_then hb1 (bw1 hb)⟩
    by_cases h3 : ed.side < 0
    ·go_wp2
     go_ret
     exact ⟨retB_false fun h => by have := h k hlt; rw [unhide HX] at this; unfold EdFits at this; omega, below_then hb1 (bw1 hb)⟩
    by_cases h4 : 1 < ed.side
    ·go_wp2
     go_ret
     exact ⟨retB_false fun h => by have := h k hlt; rw [unhide HX] at this; unfold EdFits at this; omega, below_then hb1 (bw1 hb)⟩
    go_wp2
    refine ⟨⟨k + 1, by omega, by go_num, fun j h h' => ?_, (bw1 hb)⟩, by simp [intOf]; omega⟩
    by_cases e : j = k
    ·subst e
     rw [unhide HX]
     exact ⟨⟨by omega, by omega⟩, by omega, by omega⟩
    ·exact hall j h (by omega)
   ·go_wp2
    go_ret
    exact ⟨retB_true fun i h => hall i h (by simp at h; omega), below_then hb1 hb⟩
 ·go_enter Tryz.func133, Tryz.ntmps133
  go_wp2_with fail
  refine upon_method (f := 158) (by kernel_rfl) ?_
  go_wp2_with fail
  refine (ends4_any a b c d _).mono ?_
  rintro e w1 ⟨B, rfl, hE, hb1⟩
  go_wp2_with fail
  go_loopw [10] (fun x wr => ∃ k : Nat, k ≤ 4 ∧ x = .int .i64 k ∧ (∀ j (h : j < ([a, b, c, d] : List Ed).length), j < k → EdFits np ([a, b, c, d] : List Ed)[j]) ∧ Below w1.heap.size w1 wr) (fun x _ => 4 - (intOf x).toNat)
  case atStart => exact ⟨0, Nat.zero_le _, rfl, fun j h h' => by omega, Below.refl _ _⟩
  case round =>
   obtain ⟨k, hk, rfl, hall, hb⟩ := hrel
   have hsz := hb.size
   by_cases hlt : k < 4
   ·obtain ⟨B', off', hq, hbs, x0, y0⟩ := hE.below hb k hlt
    obtain ⟨rfl, rfl⟩ : B = B' ∧ 0 = off' := by simpa using hq
    generalize hx : ([a, b, c, d] : List Ed)[k] = ed at *
    have HX := hide hx
    clear hx hq
    simp only [Nat.zero_add] at x0 y0
    by_cases h1 : ed.piece < 0
    ·go_wp2
     go_ret
     exact ⟨retB_false fun h => by have := h k hlt; rw [unhide HX] at this; unfold EdFits at this; omega, below_then hb1 (bw1 hb)⟩
    by_cases h2 : (np : Int) ≤ ed.piece
    ·go_wp2
     go_ret
     exact ⟨retB_false fun h => by have := h k hlt; rw [unhide HX] at this; unfold EdFits at this; omega, below_then hb1 (bw1 hb)⟩
    by_cases h3 : ed.side < 0
    ·go_wp2
     go_ret
     exact ⟨retB_false fun h => by have := h k hlt; rw [unhide HX] at this; unfold EdFits at this; omega, below_then hb1 (bw1 hb)⟩
    by_cases h4 : 1 < ed.side
    ·go_wp2
     go_ret
     exact ⟨retB_false fun h => by have := h k hlt; rw [unhide HX] at this; unfold EdFits at this; omega, below_then hb1 (bw1 hb)⟩
    go_wp2
    refine ⟨⟨k + 1, by omega, by go_num, fun j h h' => ?_, (bw1 hb)⟩, by simp [intOf]; omega⟩
    by_cases e : j = k
    ·subst e
     rw [unhide HX]
     exact ⟨⟨by omega, by omega⟩, by omega, by omega⟩
    ·exact hall j h (by omega)
   ·go_wp2
    go_ret
    exact ⟨retB_true fun i h => hall i h (by simp at h; omega), below_then hb1 hb⟩
end Go.Proofs.YtjacbppeebnjfaaGreat

namespace Go.Proofs.YtjacbppeebnjfaaGreat
open Go.RowKit

theorem ta11 (x : Value) (w : World) : (Instr.typeAssert (.iface 226 x) 167 226 true).run Tryz.prog w = .ok (.tuple #[x, .bool true]) w := by kernel_rfl
theorem ta12 (x : Value) (w : World) : (Instr.typeAssert (.iface 226 x) 167 206 true).run Tryz.prog w = .ok (.tuple #[.agg #[.int .i64 0, .int .i64 0, .int .i64 0, .int .i64 0], .bool false]) w := by kernel_rfl
theorem ta13 (x : Value) (w : World) : (Instr.typeAssert (.iface 226 x) 167 203 true).run Tryz.prog w = .ok (.tuple #[.agg #[.int .i64 0, .int .i64 0, .int .i64 0, .int .i64 0, .int .i64 0, .int .i64 0], .bool false]) w := by kernel_rfl
theorem ta21 (x : Value) (w : World) : (Instr.typeAssert (.iface 206 x) 167 226 true).run Tryz.prog w = .ok (.tuple #[.agg #[.int .i64 0, .int .i64 0], .bool false]) w := by kernel_rfl
theorem ta22 (x : Value) (w : World) : (Instr.typeAssert (.iface 206 x) 167 206 true).run Tryz.prog w = .ok (.tuple #[x, .bool true]) w := by kernel_rfl
theorem ta23 (x : Value) (w : World) : (Instr.typeAssert (.iface 206 x) 167 203 true).run Tryz.prog w = .ok (.tuple #[.agg #[.int .i64 0, .int .i64 0, .int .i64 0, .int .i64 0, .int .i64 0, .int .i64 0], .bool false]) w := by kernel_rfl
theorem ta31 (x : Value) (w : World) : (Instr.typeAssert (.iface 203 x) 167 226 true).run Tryz.prog w = .ok (.tuple #[.agg #[.int .i64 0, .int .i64 0], .bool false]) w := by kernel_rfl
theorem ta32 (x : Value) (w : World) : (Instr.typeAssert (.iface 203 x) 167 206 true).run Tryz.prog w = .ok (.tuple #[.agg #[.int .i64 0, .int .i64 0, .int .i64 0, .int .i64 0], .bool false]) w := by kernel_rfl
theorem ta33 (x : Value) (w : World) : (Instr.typeAssert (.iface 203 x) 167 203 true).run Tryz.prog w = .ok (.tuple #[x, .bool true]) w := by kernel_rfl
theorem ta41 (x : Value) (w : World) : (Instr.typeAssert (.iface 209 x) 167 226 true).run Tryz.prog w = .ok (.tuple #[.agg #[.int .i64 0, .int .i64 0], .bool false]) w := by kernel_rfl
theorem ta42 (x : Value) (w : World) : (Instr.typeAssert (.iface 209 x) 167 206 true).run Tryz.prog w = .ok (.tuple #[.agg #[.int .i64 0, .int .i64 0, .int .i64 0, .int .i64 0], .bool false]) w := by kernel_rfl
theorem ta43 (x : Value) (w : World) : (Instr.typeAssert (.iface 209 x) 167 203 true).run Tryz.prog w = .ok (.tuple #[.agg #[.int .i64 0, .int .i64 0, .int .i64 0, .int .i64 0, .int .i64 0, .int .i64 0], .bool false]) w := by kernel_rfl

def NameOk (kd : Int) (name : ByteArray) (seen : ByteArray → Prop) : Prop := (kd < 3 → name = ByteArray.empty) ∧ (¬ kd < 3 → IsNm name ∧ ¬ seen name)

set_option maxRecDepth 100000 in
set_option maxHeartbeats 1000000 in
theorem nameFits_any (v : Value) (kd : Int) (es : List Ed) (name : ByteArray) (w : World) (B k : Nat) (seen : ByteArray → Prop) (hv : ShV v kd es) (hs : name.size ≤ maxLen) (hS : SeenAt w B k seen) :
  Calls Tryz.prog 134 #[v, .string name, .map (some B)] w fun e w' => RetB (NameOk kd name seen) e ∧ Below w.heap.size w w' := by
 obtain ⟨c, bb, hlk, hbb⟩ := hS.look hs
 have HBB := hide hbb
 clear hbb
 rcases hv with ⟨a, rfl, rfl, rfl⟩ | ⟨a, b, rfl, rfl, rfl⟩ | ⟨a, b, c', rfl, rfl, rfl⟩ | ⟨a, b, c', d, rfl, rfl, rfl⟩
 ·have t1 := ta11
  have t2 := ta12
  clear hlk
  go_enter Tryz.func134, Tryz.ntmps134
  go_wp2
  go_ret
  refine ⟨retB_of ?_, Below.refl _ _⟩
  rw [empty_iff]
  exact ⟨fun h => ⟨fun _ => h, fun h' => absurd (by omega) h'⟩, fun h => h.1 (by omega)⟩
 ·have t1 := ta21
  have t2 := ta22
  clear hlk
  go_enter Tryz.func134, Tryz.ntmps134
  go_wp2
  go_ret
  refine ⟨retB_of ?_, Below.refl _ _⟩
  rw [empty_iff]
  exact ⟨fun h => ⟨fun _ => h, fun h' => absurd (by omega) h'⟩, fun h => h.1 (by omega)⟩
 ·have t1 := ta31
  have t2 := ta32
  cases bb
  ·go_enter Tryz.func134, Tryz.ntmps134
   go_wp2_with fail
   refine (isName_any _ _ hs).mono ?_
   rintro e w1 ⟨⟨rfl, hr⟩ | ⟨rfl, hr⟩, rfl⟩
   ·go_wp2
    go_ret
    exact ⟨retB_true ⟨fun h => absurd h (by omega), fun _ => ⟨hr, fun hs' => by simpa using (unhide HBB).2 hs'⟩⟩, Below.refl _ _⟩
   ·go_wp2
    go_ret
    exact ⟨retB_false fun h => hr (h.2 (by omega)).1, Below.refl _ _⟩
  ·go_enter Tryz.func134, Tryz.ntmps134
   go_wp2
   go_ret
   exact ⟨retB_false fun h => (h.2 (by omega)).2 ((unhide HBB).1 (by simp)), Below.refl _ _⟩
 ·have t1 := ta41
  have t2 := ta42
  cases bb
  ·go_enter Tryz.func134, Tryz.ntmps134
   go_wp2_with fail
   refine (isName_any _ _ hs).mono ?_
   rintro e w1 ⟨⟨rfl, hr⟩ | ⟨rfl, hr⟩, rfl⟩
   ·go_wp2
    go_ret
    exact ⟨retB_true ⟨fun h => absurd h (by omega), fun _ => ⟨hr, fun hs' => by simpa using (unhide HBB).2 hs'⟩⟩, Below.refl _ _⟩
   ·go_wp2
    go_ret
    exact ⟨retB_false fun h => hr (h.2 (by omega)).1, Below.refl _ _⟩
  ·go_enter Tryz.func134, Tryz.ntmps134
   go_wp2
   go_ret
   exact ⟨retB_false fun h => (h.2 (by omega)).2 ((unhide HBB).1 (by simp)), Below.refl _ _⟩

def LieFits (kd lie : Int) : Prop := lie = 0 ∨ (kd = 3 ∧ (lie = 1 ∨ lie = 2))

set_option maxRecDepth 100000 in
set_option maxHeartbeats 1000000 in
theorem lieFits_any (v : Value) (kd : Int) (es : List Ed) (lie : Int) (w : World) (hv : ShV v kd es) :
  Calls Tryz.prog 76 #[v, .int .i64 lie] w fun e w' => RetB (LieFits kd lie) e ∧ Below w.heap.size w w' := by
 rcases hv with ⟨a, rfl, rfl, rfl⟩ | ⟨a, b, rfl, rfl, rfl⟩ | ⟨a, b, c', rfl, rfl, rfl⟩ | ⟨a, b, c', d, rfl, rfl, rfl⟩
 ·have t3 := ta13
  go_enter Tryz.func76, Tryz.ntmps76
  go_wp2
  go_ret
  refine ⟨retB_of ?_, Below.refl _ _⟩
  simp [LieFits]
 ·have t3 := ta23
  go_enter Tryz.func76, Tryz.ntmps76
  go_wp2
  go_ret
  refine ⟨retB_of ?_, Below.refl _ _⟩
  simp [LieFits]
 ·have t3 := ta33
  cases e0 : (lie == 0)
  ·cases e1 : (lie == 1)
   ·go_enter Tryz.func76, Tryz.ntmps76
    go_wp2
    go_ret
    refine ⟨retB_of ?_, Below.refl _ _⟩
    simp at e0 e1
    simp [LieFits]
    omega
   ·go_enter Tryz.func76, Tryz.ntmps76
    go_wp2
    go_ret
    refine ⟨retB_true ?_, Below.refl _ _⟩
    simp at e1
    simp [LieFits]
    omega
  ·go_enter Tryz.func76, Tryz.ntmps76
   go_wp2
   go_ret
   refine ⟨retB_true ?_, Below.refl _ _⟩
   simp at e0
   simp [LieFits]
   omega
 ·have t3 := ta43
  go_enter Tryz.func76, Tryz.ntmps76
  go_wp2
  go_ret
  refine ⟨retB_of ?_, Below.refl _ _⟩
  simp [LieFits]

end Go.Proofs.YtjacbppeebnjfaaGreat

namespace Go.Proofs.YtjacbppeebnjfaaGreat
open Go.RowKit

theorem fits_iff (np : Nat) (j : Jt) : JtFits np j ↔ KindOk j.kind j.ends ∧ AllFit np j.ends :=
 ⟨fun h => ⟨⟨h.1, h.2.1⟩, h.2.2⟩, fun h => ⟨h.1.1, h.1.2, h.2⟩⟩

set_option maxHeartbeats 1000000 in
theorem wrongJoint_any (v : Value) (n : Nt) (w : World) {L : Nat} (hv : NetAt L w v n) (hl' : n.joints.length ≤ 120) :
  Calls Tryz.prog 122 #[v] w fun e w' => ∃ r : Int, e = .returned (.int .i64 r) ∧ IsFirst (Bad3 n.pieces.length n.joints) n.joints.length r ∧ Below w.heap.size w w' := by
 obtain ⟨a, c, ca, cc, rfl, hp, hj⟩ := hv
 go_enter Tryz.func122, Tryz.ntmps122
 go_wp2_with fail
 go_loopw [10] (fun x wr => ∃ k : Nat, k ≤ n.joints.length ∧ x = .int .i64 k ∧ (∀ j, j < k → ¬ Bad3 n.pieces.length n.joints j)
  ∧ Boxed wr w.heap.size [.slice a n.pieces.length ca, .slice c n.joints.length cc] ∧ Below w.heap.size w wr) (fun x _ => n.joints.length - (intOf x).toNat)
 case atStart => exact ⟨0, Nat.zero_le _, rfl, fun j h => by omega, boxed_alloc _ _ _, bw0⟩
 case round =>
  obtain ⟨k, hk, rfl, hall, hB1, hb⟩ := hrel
  by_cases hlt : k < n.joints.length
  ·obtain ⟨b, off, ea, ec, rfl, hbs, c0, c1, c2, he⟩ := hj.below hb k hlt
   have hsz := hb.size
   have hb0 : Below wr.heap.size wr (wr.alloc (.cells #[.int .i64 n.joints[k].kind, .string n.joints[k].name, .slice ea n.joints[k].ends.length ec] 56)) := bw0
   have heA := he.below hb0
   by_cases hK : KindOk n.joints[k].kind n.joints[k].ends
   ·go_wp2_with fail
    refine (shapeOf_any _ _ _ _ _ _ heA hK).mono ?_
    rintro e w1 ⟨sv, rfl, hsv, hb1⟩
    have hb1' := below_then hb0 hb1
    have hB1' := hB1.below hb1'
    have b0 := hB1'.2.1 0 _ rfl
    go_wp2_with fail
    refine (endsFit_any _ _ _ _ _ hsv).mono ?_
    rintro e w2 ⟨⟨rfl, hr⟩ | ⟨rfl, hr⟩, hb2⟩
    ·have hb2' := below_then hb1' hb2
     go_wp2
     refine ⟨⟨k + 1, by omega, by go_num, fun j h => ?_, hB1.below hb2', below_then hb hb2'⟩, by simp [intOf]; omega⟩
     by_cases e : j = k
     ·subst e
      rintro ⟨_, hbad⟩
      exact hbad ((fits_iff _ _).2 ⟨hK, hr⟩)
     ·exact hall j (by omega)
    ·have hb2' := below_then hb1' hb2
     go_wp2
     go_ret
     exact ⟨k, rfl, first_of hlt ⟨hlt, fun h => hr ((fits_iff _ _).1 h).2⟩ hall, below_then hb hb2'⟩
   ·go_wp2_with fail
    refine (shapeOf_no _ _ _ _ _ _ hK).mono ?_
    rintro e w1 ⟨rfl, hb1⟩
    have hb1' := below_then hb0 hb1
    go_wp2
    go_ret
    exact ⟨k, rfl, first_of hlt ⟨hlt, fun h => hK ((fits_iff _ _).1 h).1⟩ hall, below_then hb hb1'⟩
  ·go_wp2
   go_ret
   exact ⟨-1, rfl, none_of fun j h => hall j (by omega), hb⟩

set_option maxHeartbeats 1000000 in
theorem wrongJointName_any (c : Option Addr) (js : List Jt) (cap : Nat) (w : World) {L : Nat} (hj : JtsAt L w c js) (hl' : js.length ≤ 120) (hnm : ∀ i (h : i < js.length), js[i].name.size ≤ maxLen)
  (hK : ∀ i (h : i < js.length), KindOk js[i].kind js[i].ends) :
  Calls Tryz.prog 123 #[.slice c js.length cap] w fun e w' => ∃ r : Int, e = .returned (.int .i64 r) ∧ IsFirst (Bad4 js) js.length r ∧ Below w.heap.size w w' := by
 have hmm := @run_makeMap Tryz.prog
 go_enter Tryz.func123, Tryz.ntmps123
 go_wp2_with fail
 go_loopw [11] (fun x wr => ∃ k : Nat, k ≤ js.length ∧ x = .int .i64 k ∧ (∀ j, j < k → ¬ Bad4 js j) ∧ SeenAt wr w.heap.size k (fun s => ∃ j, ∃ h : j < js.length, j < k ∧ js[j].name = s) ∧ Below w.heap.size w wr) (fun x _ => js.length - (intOf x).toNat)
 case atStart => exact ⟨0, Nat.zero_le _, rfl, fun j h => by omega, (seen_made w).congr fun s => ⟨False.elim, fun ⟨j, _, h, _⟩ => by omega⟩, bw0⟩
 case round =>
  obtain ⟨k, hk, rfl, hall, hS, hb⟩ := hrel
  clear hmm
  by_cases hlt : k < js.length
  ·obtain ⟨b, off, ea, ec, rfl, hbs, c0, c1, c2, he⟩ := hj.below hb k hlt
   have hs := hnm k hlt
   have hKk := hK k hlt
   have n1 := hS.lt
   have hsz := hb.size
   have hb0 : Below wr.heap.size wr (wr.alloc (.cells #[.int .i64 js[k].kind, .string js[k].name, .slice ea js[k].ends.length ec] 56)) := bw0
   have heA := he.below hb0
   go_wp2_with fail
   refine (shapeOf_any _ _ _ _ _ _ heA hKk).mono ?_
   rintro e w1 ⟨sv, rfl, hsv, hb1⟩
   have hb1' := below_then hb0 hb1
   have hf1 : w1.cell? ⟨wr.heap.size, 1, none⟩ = some (.string js[k].name) := by rw [hb1.cell (by simp)]; simp
   have hS1 := hS.below hb1'
   go_wp2_with fail
   refine (nameFits_any _ _ _ _ _ _ _ _ hsv hs hS1).mono ?_
   rintro e w2 ⟨⟨rfl, hr⟩ | ⟨rfl, hr⟩, hb2⟩
   ·have hb2' := below_then hb1' hb2
    obtain ⟨w3, hst, hS3, hg3⟩ := (hS.below hb2').store (by unfold maxLen; omega) hs (v := (k : Int)) (wf_small (by omega) (by omega))
    have hf2 : w2.cell? ⟨wr.heap.size, 1, none⟩ = some (.string js[k].name) := by
     rw [hb2.cell (by have := hb1.size; simp at this ⊢; omega)]; exact hf1
    have HR := hide hr
    clear hr
    go_wp2
    refine ⟨⟨k + 1, by omega, by go_num, fun j h => ?_, hS3.congr fun s => ?_, ?_⟩, by simp [intOf]; omega⟩
    ·by_cases e : j = k
     ·subst e
      rintro ⟨_, hbad⟩
      exact hbad ⟨(unhide HR).1, fun h => ⟨((unhide HR).2 h).1, fun j2 hj2 he => ((unhide HR).2 h).2 ⟨j2, by omega, hj2, he⟩⟩⟩
     ·exact hall j (by omega)
    ·constructor
     ·rintro (rfl | ⟨j, h1, h2, h3⟩)
      ·exact ⟨k, hlt, by omega, rfl⟩
      ·exact ⟨j, h1, by omega, h3⟩
     ·rintro ⟨j, h1, h2, h3⟩
      by_cases e : j = k
      ·subst e; exact Or.inl h3.symm
      ·exact Or.inr ⟨j, h1, by omega, h3⟩
    ·exact (below_then hb hb2').grown hg3 (by have := hb2'.size; omega) (fun q hq => by cases hq; omega)
   ·have hb2' := below_then hb1' hb2
    have HR := hide hr
    clear hr
    go_wp2
    go_ret
    refine ⟨k, rfl, first_of hlt ⟨hlt, fun h => unhide HR ⟨h.1, fun h' => ⟨(h.2 h').1, ?_⟩⟩⟩ hall, below_then hb hb2'⟩
    rintro ⟨j, h1, h2, h3⟩
    exact (h.2 h').2 j h2 h3
  ·go_wp2
   go_ret
   exact ⟨-1, rfl, none_of fun j h => hall j (by omega), hb⟩
end Go.Proofs.YtjacbppeebnjfaaGreat

