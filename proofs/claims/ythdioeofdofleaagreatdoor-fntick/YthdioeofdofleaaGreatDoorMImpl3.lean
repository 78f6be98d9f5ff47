import Derived.Test.YthdioeofdofleaaGreatDoorMPlain2
set_option maxRecDepth 100000
namespace Go.Proofs.YthdioeofdofleaaGreatDoor
open Go.RowKit
variable {L : Nat}
theorem xV {P : Program} {o : Oper} {a : Act} {K : Act -> World -> Prop} {Q : Exit -> Act -> World -> Prop} {n u f : Nat} {v : Value} {name : String} {w : World} {g : FuncId × Value -> World -> Result Next}
  (hm : (method n u v name).run P w = .ok (f, v) w) (h : Oper.upon P o a K Q (g (f, v) w)) : Oper.upon P o a K Q (((method n u v name).run P w).andThen g) := by
 rw [hm];exact h

def AllFit (np : Nat) (es : List Ed) : Prop := ∀ i (h : i < es.length), zK np es[i]

set_option maxHeartbeats 1000000 in
theorem endsFit_any (v : Value) (kd : Int) (es : List Ed) (np : Nat) (w : World) (hv : ShV v kd es) :
  Calls Tryz.prog 138 #[v, .int .i64 np] w fun e w' => yG (AllFit np es) e /\ Below w.heap.size w w' := by
 rcases hv with ⟨a, rfl, rfl, rfl⟩ | ⟨a, b, rfl, rfl, rfl⟩ | ⟨a, b, c, rfl, rfl, rfl⟩ | ⟨a, b, c, d, rfl, rfl, rfl⟩
 ·go_enter Tryz.func138, Tryz.ntmps138;go_wp2_with fail;refine xV (f := 180) (by kernel_rfl) ?_;go_wp2_with fail;refine (ends1_any a _).mono ?_;rintro e w1 ⟨B, rfl, hE, hb1⟩;go_wp2_with fail
  go_loopw [10] (fun x wr => ∃ k : Nat, k <= 1 /\ x = .int .i64 k /\ (∀ j (h : j < ([a] : List Ed).length), j < k -> zK np ([a] : List Ed)[j]) /\ Below w1.heap.size w1 wr) (fun x _ => 1 - (intOf x).toNat)
  case atStart => exact ⟨0, Nat.zero_le _, rfl, fun j h h' => by omega, Below.refl _ _⟩
  case round =>
   obtain ⟨k, hk, rfl, hall, hb⟩ := hrel;have hsz := hb.size
   by_cases hlt : k < 1
   ·obtain ⟨B', off', hq, hbs, x0, y0⟩ := hE.below hb k hlt
    obtain ⟨rfl, rfl⟩ : B = B' /\ 0 = off' := by simpa using hq
    generalize hx : ([a] : List Ed)[k] = ed at *
    have HX := zd hx;clear hx hq;simp only [Nat.zero_add] at x0 y0
    by_cases h1 : ed.piece < 0
    ·go_wp2;go_ret;exact ⟨zk fun h => by have := h k hlt; rw [za HX] at this; unfold zK at this; omega, below_then hb1 (ZW hb)⟩
    by_cases h2 : (np : Int) <= ed.piece
    ·go_wp2;go_ret;exact ⟨zk fun h => by have := h k hlt; rw [za HX] at this; unfold zK at this; omega, below_then hb1 (ZW hb)⟩
    by_cases h3 : ed.side < 0
    ·go_wp2;go_ret;exact ⟨zk fun h => by have := h k hlt; rw [za HX] at this; unfold zK at this; omega, below_then hb1 (ZW hb)⟩
    by_cases h4 : 1 < ed.side
    ·go_wp2;go_ret;exact ⟨zk fun h => by have := h k hlt; rw [za HX] at this; unfold zK at this; omega, below_then hb1 (ZW hb)⟩
    go_wp2;refine ⟨⟨k + 1, by omega, by go_num, fun j h h' => ?_, (ZW hb)⟩, by simp [intOf]; omega⟩
    by_cases e : j = k
    ·subst e;rw [za HX];exact ⟨⟨by omega, by omega⟩, by omega, by omega⟩
    ·exact hall j h (by omega)
   ·go_wp2;go_ret;exact ⟨zA fun i h => hall i h (by simp at h; omega), below_then hb1 hb⟩
 ·go_enter Tryz.func138, Tryz.ntmps138;go_wp2_with fail;refine xV (f := 181) (by kernel_rfl) ?_;go_wp2_with fail;refine (ends2_any a b _).mono ?_;rintro e w1 ⟨B, rfl, hE, hb1⟩;go_wp2_with fail
  go_loopw [10] (fun x wr => ∃ k : Nat, k <= 2 /\ x = .int .i64 k /\ (∀ j (h : j < ([a, b] : List Ed).length), j < k -> zK np ([a, b] : List Ed)[j]) /\ Below w1.heap.size w1 wr) (fun x _ => 2 - (intOf x).toNat)
  case atStart => exact ⟨0, Nat.zero_le _, rfl, fun j h h' => by omega, Below.refl _ _⟩
  case round =>
   obtain ⟨k, hk, rfl, hall, hb⟩ := hrel;have hsz := hb.size
   by_cases hlt : k < 2
   ·obtain ⟨B', off', hq, hbs, x0, y0⟩ := hE.below hb k hlt
    obtain ⟨rfl, rfl⟩ : B = B' /\ 0 = off' := by simpa using hq
    generalize hx : ([a, b] : List Ed)[k] = ed at *
    have HX := zd hx;clear hx hq;simp only [Nat.zero_add] at x0 y0
    by_cases h1 : ed.piece < 0
    ·go_wp2;go_ret;exact ⟨zk fun h => by have := h k hlt; rw [za HX] at this; unfold zK at this; omega, below_then hb1 (ZW hb)⟩
    by_cases h2 : (np : Int) <= ed.piece
    ·go_wp2;go_ret;exact ⟨zk fun h => by have := h k hlt; rw [za HX] at this; unfold zK at this; omega, below_then hb1 (ZW hb)⟩
    by_cases h3 : ed.side < 0
    ·go_wp2;go_ret;exact ⟨zk fun h => by have := h k hlt; rw [za HX] at this; unfold zK at this; omega, below_then hb1 (ZW hb)⟩
    by_cases h4 : 1 < ed.side
    ·go_wp2;go_ret;exact ⟨zk fun h => by have := h k hlt; rw [za HX] at this; unfold zK at this; omega, below_then hb1 (ZW hb)⟩
    go_wp2;refine ⟨⟨k + 1, by omega, by go_num, fun j h h' => ?_, (ZW hb)⟩, by simp [intOf]; omega⟩
    by_cases e : j = k
    ·subst e;rw [za HX];exact ⟨⟨by omega, by omega⟩, by omega, by omega⟩
    ·exact hall j h (by omega)
   ·go_wp2;go_ret;exact ⟨zA fun i h => hall i h (by simp at h; omega), below_then hb1 hb⟩
 ·go_enter Tryz.func138, Tryz.ntmps138;go_wp2_with fail;refine xV (f := 176) (by kernel_rfl) ?_;go_wp2_with fail;refine (ends3_any a b c _).mono ?_;rintro e w1 ⟨B, rfl, hE, hb1⟩;go_wp2_with fail
  go_loopw [10] (fun x wr => ∃ k : Nat, k <= 3 /\ x = .int .i64 k /\ (∀ j (h : j < ([a, b, c] : List Ed).length), j < k -> zK np ([a, b, c] : List Ed)[j]) /\ Below w1.heap.size w1 wr) (fun x _ => 3 - (intOf x).toNat)
  case atStart => exact ⟨0, Nat.zero_le _, rfl, fun j h h' => by omega, Below.refl _ _⟩
  case round =>
   obtain ⟨k, hk, rfl, hall, hb⟩ := hrel;have hsz := hb.size
   by_cases hlt : k < 3
   ·obtain ⟨B', off', hq, hbs, x0, y0⟩ := hE.below hb k hlt
    obtain ⟨rfl, rfl⟩ : B = B' /\ 0 = off' := by simpa using hq
    generalize hx : ([a, b, c] : List Ed)[k] = ed at *
    have HX := zd hx;clear hx hq;simp only [Nat.zero_add] at x0 y0
    by_cases h1 : ed.piece < 0
    ·go_wp2;go_ret;exact ⟨zk fun h => by have := h k hlt; rw [za HX] at this; unfold zK at this; omega, below_then hb1 (ZW hb)⟩
    by_cases h2 : (np : Int) <= ed.piece
    ·go_wp2;go_ret;exact ⟨zk fun h => by have := h k hlt; rw [za HX] at this; unfold zK at this; omega, below_then hb1 (ZW hb)⟩
    by_cases h3 : ed.side < 0
    ·go_wp2;go_ret;exact ⟨zk fun h => by have := h k hlt; rw [za HX] at this; unfold zK at this; omega, below_then hb1 (ZW hb)⟩
    by_cases h4 : 1 < ed.side
    ·go_wp2;go_ret;exact ⟨zk fun h => by have := h k hlt; rw [za HX] at this; unfold zK at this; omega, below_then hb1 (ZW hb)⟩
    go_wp2;refine ⟨⟨k + 1, by omega, by go_num, fun j h h' => ?_, (ZW hb)⟩, by simp [intOf]; omega⟩
    by_cases e : j = k
    ·subst e;rw [za HX];exact ⟨⟨by omega, by omega⟩, by omega, by omega⟩
    ·exact hall j h (by omega)
   ·go_wp2;go_ret;exact ⟨zA fun i h => hall i h (by simp at h; omega), below_then hb1 hb⟩
 ·go_enter Tryz.func138, Tryz.ntmps138;go_wp2_with fail;refine xV (f := 182) (by kernel_rfl) ?_;go_wp2_with fail;refine (ends4_any a b c d _).mono ?_;rintro e w1 ⟨B, rfl, hE, hb1⟩;go_wp2_with fail
  go_loopw [10] (fun x wr => ∃ k : Nat, k <= 4 /\ x = .int .i64 k /\ (∀ j (h : j < ([a, b, c, d] : List Ed).length), j < k -> zK np ([a, b, c, d] : List Ed)[j]) /\ Below w1.heap.size w1 wr) (fun x _ => 4 - (intOf x).toNat)
  case atStart => exact ⟨0, Nat.zero_le _, rfl, fun j h h' => by omega, Below.refl _ _⟩
  case round =>
   obtain ⟨k, hk, rfl, hall, hb⟩ := hrel;have hsz := hb.size
   by_cases hlt : k < 4
   ·obtain ⟨B', off', hq, hbs, x0, y0⟩ := hE.below hb k hlt
    obtain ⟨rfl, rfl⟩ : B = B' /\ 0 = off' := by simpa using hq
    generalize hx : ([a, b, c, d] : List Ed)[k] = ed at *
    have HX := zd hx;clear hx hq;simp only [Nat.zero_add] at x0 y0
    by_cases h1 : ed.piece < 0
    ·go_wp2;go_ret;exact ⟨zk fun h => by have := h k hlt; rw [za HX] at this; unfold zK at this; omega, below_then hb1 (ZW hb)⟩
    by_cases h2 : (np : Int) <= ed.piece
    ·go_wp2;go_ret;exact ⟨zk fun h => by have := h k hlt; rw [za HX] at this; unfold zK at this; omega, below_then hb1 (ZW hb)⟩
    by_cases h3 : ed.side < 0
    ·go_wp2;go_ret;exact ⟨zk fun h => by have := h k hlt; rw [za HX] at this; unfold zK at this; omega, below_then hb1 (ZW hb)⟩
    by_cases h4 : 1 < ed.side
    ·go_wp2;go_ret;exact ⟨zk fun h => by have := h k hlt; rw [za HX] at this; unfold zK at this; omega, below_then hb1 (ZW hb)⟩
    go_wp2;refine ⟨⟨k + 1, by omega, by go_num, fun j h h' => ?_, (ZW hb)⟩, by simp [intOf]; omega⟩
    by_cases e : j = k
    ·subst e;rw [za HX];exact ⟨⟨by omega, by omega⟩, by omega, by omega⟩
    ·exact hall j h (by omega)
   ·go_wp2;go_ret;exact ⟨zA fun i h => hall i h (by simp at h; omega), below_then hb1 hb⟩

theorem ta11 (x : Value) (w : World) : (Instr.typeAssert (.iface 230 x) 139 230 true).run Tryz.prog w = .ok (.tuple #[x, .bool true]) w := by kernel_rfl
theorem ta12 (x : Value) (w : World) : (Instr.typeAssert (.iface 230 x) 139 232 true).run Tryz.prog w = .ok (.tuple #[.agg #[.int .i64 0, .int .i64 0, .int .i64 0, .int .i64 0], .bool false]) w := by kernel_rfl
theorem ta13 (x : Value) (w : World) : (Instr.typeAssert (.iface 230 x) 139 189 true).run Tryz.prog w = .ok (.tuple #[.agg #[.int .i64 0, .int .i64 0, .int .i64 0, .int .i64 0, .int .i64 0, .int .i64 0], .bool false]) w := by kernel_rfl
theorem ta21 (x : Value) (w : World) : (Instr.typeAssert (.iface 232 x) 139 230 true).run Tryz.prog w = .ok (.tuple #[.agg #[.int .i64 0, .int .i64 0], .bool false]) w := by kernel_rfl
theorem ta22 (x : Value) (w : World) : (Instr.typeAssert (.iface 232 x) 139 232 true).run Tryz.prog w = .ok (.tuple #[x, .bool true]) w := by kernel_rfl
theorem ta23 (x : Value) (w : World) : (Instr.typeAssert (.iface 232 x) 139 189 true).run Tryz.prog w = .ok (.tuple #[.agg #[.int .i64 0, .int .i64 0, .int .i64 0, .int .i64 0, .int .i64 0, .int .i64 0], .bool false]) w := by kernel_rfl
theorem ta31 (x : Value) (w : World) : (Instr.typeAssert (.iface 189 x) 139 230 true).run Tryz.prog w = .ok (.tuple #[.agg #[.int .i64 0, .int .i64 0], .bool false]) w := by kernel_rfl
theorem ta32 (x : Value) (w : World) : (Instr.typeAssert (.iface 189 x) 139 232 true).run Tryz.prog w = .ok (.tuple #[.agg #[.int .i64 0, .int .i64 0, .int .i64 0, .int .i64 0], .bool false]) w := by kernel_rfl
theorem ta33 (x : Value) (w : World) : (Instr.typeAssert (.iface 189 x) 139 189 true).run Tryz.prog w = .ok (.tuple #[x, .bool true]) w := by kernel_rfl
theorem ta41 (x : Value) (w : World) : (Instr.typeAssert (.iface 234 x) 139 230 true).run Tryz.prog w = .ok (.tuple #[.agg #[.int .i64 0, .int .i64 0], .bool false]) w := by kernel_rfl
theorem ta42 (x : Value) (w : World) : (Instr.typeAssert (.iface 234 x) 139 232 true).run Tryz.prog w = .ok (.tuple #[.agg #[.int .i64 0, .int .i64 0, .int .i64 0, .int .i64 0], .bool false]) w := by kernel_rfl
theorem ta43 (x : Value) (w : World) : (Instr.typeAssert (.iface 234 x) 139 189 true).run Tryz.prog w = .ok (.tuple #[.agg #[.int .i64 0, .int .i64 0, .int .i64 0, .int .i64 0, .int .i64 0, .int .i64 0], .bool false]) w := by kernel_rfl

def NameOk (kd : Int) (name : ByteArray) (seen : ByteArray -> Prop) : Prop := (kd < 3 -> name = ByteArray.empty) /\ (¬ kd < 3 -> IsNm name /\ ¬ seen name)

set_option maxHeartbeats 1000000 in
theorem nameFits_any (v : Value) (kd : Int) (es : List Ed) (name : ByteArray) (w : World) (B k : Nat) (seen : ByteArray -> Prop) (hv : ShV v kd es) (hs : name.size <= maxLen) (hS : yE w B k seen) :
  Calls Tryz.prog 139 #[v, .string name, .map (some B)] w fun e w' => yG (NameOk kd name seen) e /\ Below w.heap.size w w' := by
 obtain ⟨c, bb, hlk, hbb⟩ := hS.look hs;have HBB := zd hbb;clear hbb
 rcases hv with ⟨a, rfl, rfl, rfl⟩ | ⟨a, b, rfl, rfl, rfl⟩ | ⟨a, b, c', rfl, rfl, rfl⟩ | ⟨a, b, c', d, rfl, rfl, rfl⟩
 ·have t1 := ta11;have t2 := ta12;clear hlk;go_enter Tryz.func139, Tryz.ntmps139;go_wp2;go_ret;refine ⟨yo ?_, Below.refl _ _⟩;rw [Va];exact ⟨fun h => ⟨fun _ => h, fun h' => absurd (by omega) h'⟩, fun h => h.1 (by omega)⟩
 ·have t1 := ta21;have t2 := ta22;clear hlk;go_enter Tryz.func139, Tryz.ntmps139;go_wp2;go_ret;refine ⟨yo ?_, Below.refl _ _⟩;rw [Va];exact ⟨fun h => ⟨fun _ => h, fun h' => absurd (by omega) h'⟩, fun h => h.1 (by omega)⟩
 ·have t1 := ta31;have t2 := ta32
  cases bb
  ·go_enter Tryz.func139, Tryz.ntmps139;go_wp2_with fail;refine (VB _ _ hs).mono ?_;rintro e w1 ⟨⟨rfl, hr⟩ | ⟨rfl, hr⟩, rfl⟩
   ·go_wp2;go_ret;exact ⟨zA ⟨fun h => absurd h (by omega), fun _ => ⟨hr, fun hs' => by simpa using (za HBB).2 hs'⟩⟩, Below.refl _ _⟩
   ·go_wp2;go_ret;exact ⟨zk fun h => hr (h.2 (by omega)).1, Below.refl _ _⟩
  ·go_enter Tryz.func139, Tryz.ntmps139;go_wp2;go_ret;exact ⟨zk fun h => (h.2 (by omega)).2 ((za HBB).1 (by simp)), Below.refl _ _⟩
 ·have t1 := ta41;have t2 := ta42
  cases bb
  ·go_enter Tryz.func139, Tryz.ntmps139;go_wp2_with fail;refine (VB _ _ hs).mono ?_;rintro e w1 ⟨⟨rfl, hr⟩ | ⟨rfl, hr⟩, rfl⟩
   ·go_wp2;go_ret;exact ⟨zA ⟨fun h => absurd h (by omega), fun _ => ⟨hr, fun hs' => by simpa using (za HBB).2 hs'⟩⟩, Below.refl _ _⟩
   ·go_wp2;go_ret;exact ⟨zk fun h => hr (h.2 (by omega)).1, Below.refl _ _⟩
  ·go_enter Tryz.func139, Tryz.ntmps139;go_wp2;go_ret;exact ⟨zk fun h => (h.2 (by omega)).2 ((za HBB).1 (by simp)), Below.refl _ _⟩

def XR (kd lie : Int) : Prop := lie = 0 \/ (kd = 3 /\ (lie = 1 \/ lie = 2))

set_option maxHeartbeats 1000000 in
theorem lieFits_any (v : Value) (kd : Int) (es : List Ed) (lie : Int) (w : World) (hv : ShV v kd es) :
  Calls Tryz.prog 56 #[v, .int .i64 lie] w fun e w' => yG (XR kd lie) e /\ Below w.heap.size w w' := by
 rcases hv with ⟨a, rfl, rfl, rfl⟩ | ⟨a, b, rfl, rfl, rfl⟩ | ⟨a, b, c', rfl, rfl, rfl⟩ | ⟨a, b, c', d, rfl, rfl, rfl⟩
 ·have t3 := ta13;go_enter Tryz.func56, Tryz.ntmps56;go_wp2;go_ret;refine ⟨yo ?_, Below.refl _ _⟩
  simp [XR]
 ·have t3 := ta23;go_enter Tryz.func56, Tryz.ntmps56;go_wp2;go_ret;refine ⟨yo ?_, Below.refl _ _⟩
  simp [XR]
 ·have t3 := ta33
  cases e0 : (lie == 0)
  ·cases e1 : (lie == 1)
   ·go_enter Tryz.func56, Tryz.ntmps56;go_wp2;go_ret;refine ⟨yo ?_, Below.refl _ _⟩
    simp at e0 e1
    simp [XR]
    omega
   ·go_enter Tryz.func56, Tryz.ntmps56;go_wp2;go_ret;refine ⟨zA ?_, Below.refl _ _⟩
    simp at e1
    simp [XR]
    omega
  ·go_enter Tryz.func56, Tryz.ntmps56;go_wp2;go_ret;refine ⟨zA ?_, Below.refl _ _⟩
   simp at e0
   simp [XR]
   omega
 ·have t3 := ta43;go_enter Tryz.func56, Tryz.ntmps56;go_wp2;go_ret;refine ⟨yo ?_, Below.refl _ _⟩
  simp [XR]

theorem ug (np : Nat) (j : Jt) : Xo np j ↔ vQ j.kind j.ends /\ AllFit np j.ends :=
 ⟨fun h => ⟨⟨h.1, h.2.1⟩, h.2.2⟩, fun h => ⟨h.1.1, h.1.2, h.2⟩⟩

set_option maxHeartbeats 1000000 in
theorem UD (v : Value) (n : Nt) (w : World) (hv : zE L w v n) (hl' : n.joints.length <= 120) :
  Calls Tryz.prog 118 #[v] w fun e w' => ∃ r : Int, e = .returned (.int .i64 r) /\ Zc (Bad3 n.pieces.length n.joints) n.joints.length r /\ Below w.heap.size w w' := by
 obtain ⟨a, c, ca, cc, rfl, hp, hj⟩ := hv;go_enter Tryz.func118, Tryz.ntmps118;go_wp2_with fail
 go_loopw [10] (fun x wr => ∃ k : Nat, k <= n.joints.length /\ x = .int .i64 k /\ (∀ j, j < k -> ¬ Bad3 n.pieces.length n.joints j)
  /\ zg wr w.heap.size [.slice a n.pieces.length ca, .slice c n.joints.length cc] /\ Below w.heap.size w wr) (fun x _ => n.joints.length - (intOf x).toNat)
 case atStart => exact ⟨0, Nat.zero_le _, rfl, fun j h => by omega, zf _ _ _, bw0⟩
 case round =>
  obtain ⟨k, hk, rfl, hall, hB1, hb⟩ := hrel
  by_cases hlt : k < n.joints.length
  ·obtain ⟨b, off, ea, ec, rfl, hbs, c0, c1, c2, he⟩ := hj.below hb k hlt;have hsz := hb.size;have hb0 : Below wr.heap.size wr (wr.alloc (.cells #[.int .i64 n.joints[k].kind, .string n.joints[k].name, .slice ea n.joints[k].ends.length ec] 58)) := bw0;have heA := he.below hb0
   by_cases hK : vQ n.joints[k].kind n.joints[k].ends
   ·go_wp2_with fail;refine (xZ _ _ _ _ _ _ heA hK).mono ?_;rintro e w1 ⟨sv, rfl, hsv, hb1⟩;have hb1' := below_then hb0 hb1;have hB1' := hB1.below hb1';have b0 := hB1'.2.1 0 _ rfl;go_wp2_with fail;refine (endsFit_any _ _ _ _ _ hsv).mono ?_;rintro e w2 ⟨⟨rfl, hr⟩ | ⟨rfl, hr⟩, hb2⟩
    ·have hb2' := below_then hb1' hb2;go_wp2;refine ⟨⟨k + 1, by omega, by go_num, fun j h => ?_, hB1.below hb2', below_then hb hb2'⟩, by simp [intOf]; omega⟩
     by_cases e : j = k
     ·subst e;rintro ⟨_, hbad⟩;exact hbad ((ug _ _).2 ⟨hK, hr⟩)
     ·exact hall j (by omega)
    ·have hb2' := below_then hb1' hb2;go_wp2;go_ret;exact ⟨k, rfl, yc hlt ⟨hlt, fun h => hr ((ug _ _).1 h).2⟩ hall, below_then hb hb2'⟩
   ·go_wp2_with fail;refine (shapeOf_no _ _ _ _ _ _ hK).mono ?_;rintro e w1 ⟨rfl, hb1⟩;have hb1' := below_then hb0 hb1;go_wp2;go_ret;exact ⟨k, rfl, yc hlt ⟨hlt, fun h => hK ((ug _ _).1 h).1⟩ hall, below_then hb hb1'⟩
  ·go_wp2;go_ret;exact ⟨-1, rfl, xm fun j h => hall j (by omega), hb⟩

set_option maxHeartbeats 1000000 in
theorem Vs (c : Option Addr) (js : List Jt) (cap : Nat) (w : World) (hj : xR L w c js) (hl' : js.length <= 120) (hnm : ∀ i (h : i < js.length), js[i].name.size <= maxLen)
  (hK : ∀ i (h : i < js.length), vQ js[i].kind js[i].ends) :
  Calls Tryz.prog 119 #[.slice c js.length cap] w fun e w' => ∃ r : Int, e = .returned (.int .i64 r) /\ Zc (Bad4 js) js.length r /\ Below w.heap.size w w' := by
 have hmm := @run_makeMap Tryz.prog;go_enter Tryz.func119, Tryz.ntmps119;go_wp2_with fail
 go_loopw [11] (fun x wr => ∃ k : Nat, k <= js.length /\ x = .int .i64 k /\ (∀ j, j < k -> ¬ Bad4 js j) /\ yE wr w.heap.size k (fun s => ∃ j, ∃ h : j < js.length, j < k /\ js[j].name = s) /\ Below w.heap.size w wr) (fun x _ => js.length - (intOf x).toNat)
 case atStart => exact ⟨0, Nat.zero_le _, rfl, fun j h => by omega, (seen_made w).congr fun s => ⟨False.elim, fun ⟨j, _, h, _⟩ => by omega⟩, bw0⟩
 case round =>
  obtain ⟨k, hk, rfl, hall, hS, hb⟩ := hrel;clear hmm
  by_cases hlt : k < js.length
  ·obtain ⟨b, off, ea, ec, rfl, hbs, c0, c1, c2, he⟩ := hj.below hb k hlt;have hs := hnm k hlt;have hKk := hK k hlt;have n1 := hS.lt;have hsz := hb.size;have hb0 : Below wr.heap.size wr (wr.alloc (.cells #[.int .i64 js[k].kind, .string js[k].name, .slice ea js[k].ends.length ec] 58)) := bw0;have heA := he.below hb0;go_wp2_with fail;refine (xZ _ _ _ _ _ _ heA hKk).mono ?_;rintro e w1 ⟨sv, rfl, hsv, hb1⟩;have hb1' := below_then hb0 hb1
   have hf1 : w1.cell? ⟨wr.heap.size, 1, none⟩ = some (.string js[k].name) := by rw [hb1.cell (by simp)]; simp
   have hS1 := hS.below hb1';go_wp2_with fail;refine (nameFits_any _ _ _ _ _ _ _ _ hsv hs hS1).mono ?_;rintro e w2 ⟨⟨rfl, hr⟩ | ⟨rfl, hr⟩, hb2⟩
   ·have hb2' := below_then hb1' hb2;obtain ⟨w3, hst, hS3, hg3⟩ := (hS.below hb2').store (by unfold maxLen; omega) hs (v := (k : Int)) (Xq (by omega) (by omega))
    have hf2 : w2.cell? ⟨wr.heap.size, 1, none⟩ = some (.string js[k].name) := by
     rw [hb2.cell (by have := hb1.size; simp at this ⊢; omega)]; exact hf1
    have HR := zd hr;clear hr;go_wp2;refine ⟨⟨k + 1, by omega, by go_num, fun j h => ?_, hS3.congr fun s => ?_, ?_⟩, by simp [intOf]; omega⟩
    ·by_cases e : j = k
     ·subst e;rintro ⟨_, hbad⟩;exact hbad ⟨(za HR).1, fun h => ⟨((za HR).2 h).1, fun j2 hj2 he => ((za HR).2 h).2 ⟨j2, by omega, hj2, he⟩⟩⟩
     ·exact hall j (by omega)
    ·constructor
     ·rintro (rfl | ⟨j, h1, h2, h3⟩)
      ·exact ⟨k, hlt, by omega, rfl⟩
      ·exact ⟨j, h1, by omega, h3⟩
     ·rintro ⟨j, h1, h2, h3⟩
      by_cases e : j = k
      ·subst e; exact Or.inl h3.symm
      ·exact Or.inr ⟨j, h1, by omega, h3⟩
    ·exact (below_then hb hb2').grown hg3 (by have := hb2'.size; omega) (fun q hq => by cases hq; omega)
   ·have hb2' := below_then hb1' hb2;have HR := zd hr;clear hr;go_wp2;go_ret;refine ⟨k, rfl, yc hlt ⟨hlt, fun h => za HR ⟨h.1, fun h' => ⟨(h.2 h').1, ?_⟩⟩⟩ hall, below_then hb hb2'⟩;rintro ⟨j, h1, h2, h3⟩;exact (h.2 h').2 j h2 h3
  ·go_wp2;go_ret;exact ⟨-1, rfl, xm fun j h => hall j (by omega), hb⟩
end Go.Proofs.YthdioeofdofleaaGreatDoor
