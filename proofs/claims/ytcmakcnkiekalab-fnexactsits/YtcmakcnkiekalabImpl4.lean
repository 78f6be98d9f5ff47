import Derived.Test.YtcmakcnkiekalabImpl2
namespace Go.Proofs.Ytcmakcnkiekalab
open Go.RowKit

theorem ta11 (x : Value) (w : World) : (Instr.typeAssert (.iface 215 x) 162 215 true).run Try.prog w = .ok (.tuple #[x, .bool true]) w := by kernel_rfl
theorem ta12 (x : Value) (w : World) : (Instr.typeAssert (.iface 215 x) 162 217 true).run Try.prog w = .ok (.tuple #[.agg #[.int .i64 0, .int .i64 0, .int .i64 0, .int .i64 0], .bool false]) w := by kernel_rfl
theorem ta13 (x : Value) (w : World) : (Instr.typeAssert (.iface 215 x) 162 196 true).run Try.prog w = .ok (.tuple #[.agg #[.int .i64 0, .int .i64 0, .int .i64 0, .int .i64 0, .int .i64 0, .int .i64 0], .bool false]) w := by kernel_rfl
theorem ta21 (x : Value) (w : World) : (Instr.typeAssert (.iface 217 x) 162 215 true).run Try.prog w = .ok (.tuple #[.agg #[.int .i64 0, .int .i64 0], .bool false]) w := by kernel_rfl
theorem ta22 (x : Value) (w : World) : (Instr.typeAssert (.iface 217 x) 162 217 true).run Try.prog w = .ok (.tuple #[x, .bool true]) w := by kernel_rfl
theorem ta23 (x : Value) (w : World) : (Instr.typeAssert (.iface 217 x) 162 196 true).run Try.prog w = .ok (.tuple #[.agg #[.int .i64 0, .int .i64 0, .int .i64 0, .int .i64 0, .int .i64 0, .int .i64 0], .bool false]) w := by kernel_rfl
theorem ta31 (x : Value) (w : World) : (Instr.typeAssert (.iface 196 x) 162 215 true).run Try.prog w = .ok (.tuple #[.agg #[.int .i64 0, .int .i64 0], .bool false]) w := by kernel_rfl
theorem ta32 (x : Value) (w : World) : (Instr.typeAssert (.iface 196 x) 162 217 true).run Try.prog w = .ok (.tuple #[.agg #[.int .i64 0, .int .i64 0, .int .i64 0, .int .i64 0], .bool false]) w := by kernel_rfl
theorem ta33 (x : Value) (w : World) : (Instr.typeAssert (.iface 196 x) 162 196 true).run Try.prog w = .ok (.tuple #[x, .bool true]) w := by kernel_rfl
theorem ta41 (x : Value) (w : World) : (Instr.typeAssert (.iface 219 x) 162 215 true).run Try.prog w = .ok (.tuple #[.agg #[.int .i64 0, .int .i64 0], .bool false]) w := by kernel_rfl
theorem ta42 (x : Value) (w : World) : (Instr.typeAssert (.iface 219 x) 162 217 true).run Try.prog w = .ok (.tuple #[.agg #[.int .i64 0, .int .i64 0, .int .i64 0, .int .i64 0], .bool false]) w := by kernel_rfl
theorem ta43 (x : Value) (w : World) : (Instr.typeAssert (.iface 219 x) 162 196 true).run Try.prog w = .ok (.tuple #[.agg #[.int .i64 0, .int .i64 0, .int .i64 0, .int .i64 0, .int .i64 0, .int .i64 0], .bool false]) w := by kernel_rfl

/-- What nameFits asks. -/
def NameOk (kd : Int) (name : ByteArray) (seen : ByteArray → Prop) : Prop := (kd < 3 → name = ByteArray.empty) ∧ (¬ kd < 3 → IsNm name ∧ ¬ seen name)

set_option maxRecDepth 100000 in
set_option maxHeartbeats 1000000 in
theorem nameFits_any (v : Value) (kd : Int) (es : List Ed) (name : ByteArray) (w : World) (B k : Nat) (seen : ByteArray → Prop) (hv : ShV v kd es) (hs : name.size ≤ maxLen) (hS : SeenAt w B k seen) :
    Calls Try.prog 150 #[v, .string name, .map (some B)] w fun e w' => RetB (NameOk kd name seen) e ∧ Below w.heap.size w w' := by
  obtain ⟨c, bb, hlk, hbb⟩ := hS.look hs
  have HBB := hide hbb
  clear hbb
  rcases hv with ⟨a, rfl, rfl, rfl⟩ | ⟨a, b, rfl, rfl, rfl⟩ | ⟨a, b, c', rfl, rfl, rfl⟩ | ⟨a, b, c', d, rfl, rfl, rfl⟩
  · have t1 := ta11
    have t2 := ta12
    clear hlk
    go_enter Try.func150, Try.ntmps150
    go_wp2
    go_ret
    refine ⟨retB_of ?_, Below.refl _ _⟩
    rw [empty_iff]
    exact ⟨fun h => ⟨fun _ => h, fun h' => absurd (by omega) h'⟩, fun h => h.1 (by omega)⟩
  · have t1 := ta21
    have t2 := ta22
    clear hlk
    go_enter Try.func150, Try.ntmps150
    go_wp2
    go_ret
    refine ⟨retB_of ?_, Below.refl _ _⟩
    rw [empty_iff]
    exact ⟨fun h => ⟨fun _ => h, fun h' => absurd (by omega) h'⟩, fun h => h.1 (by omega)⟩
  · have t1 := ta31
    have t2 := ta32
    cases bb
    · go_enter Try.func150, Try.ntmps150
      go_wp2_with fail
      refine (isName_any _ _ hs).mono ?_
      rintro e w1 ⟨⟨rfl, hr⟩ | ⟨rfl, hr⟩, rfl⟩
      · go_wp2
        go_ret
        exact ⟨retB_true ⟨fun h => absurd h (by omega), fun _ => ⟨hr, fun hs' => by simpa using (unhide HBB).2 hs'⟩⟩, Below.refl _ _⟩
      · go_wp2
        go_ret
        exact ⟨retB_false fun h => hr (h.2 (by omega)).1, Below.refl _ _⟩
    · go_enter Try.func150, Try.ntmps150
      go_wp2
      go_ret
      exact ⟨retB_false fun h => (h.2 (by omega)).2 ((unhide HBB).1 (by simp)), Below.refl _ _⟩
  · have t1 := ta41
    have t2 := ta42
    cases bb
    · go_enter Try.func150, Try.ntmps150
      go_wp2_with fail
      refine (isName_any _ _ hs).mono ?_
      rintro e w1 ⟨⟨rfl, hr⟩ | ⟨rfl, hr⟩, rfl⟩
      · go_wp2
        go_ret
        exact ⟨retB_true ⟨fun h => absurd h (by omega), fun _ => ⟨hr, fun hs' => by simpa using (unhide HBB).2 hs'⟩⟩, Below.refl _ _⟩
      · go_wp2
        go_ret
        exact ⟨retB_false fun h => hr (h.2 (by omega)).1, Below.refl _ _⟩
    · go_enter Try.func150, Try.ntmps150
      go_wp2
      go_ret
      exact ⟨retB_false fun h => (h.2 (by omega)).2 ((unhide HBB).1 (by simp)), Below.refl _ _⟩

/-- What lieFits asks. -/
def LieFits (kd lie : Int) : Prop := lie = 0 ∨ (kd = 3 ∧ (lie = 1 ∨ lie = 2))

set_option maxRecDepth 100000 in
set_option maxHeartbeats 1000000 in
theorem lieFits_any (v : Value) (kd : Int) (es : List Ed) (lie : Int) (w : World) (hv : ShV v kd es) :
    Calls Try.prog 98 #[v, .int .i64 lie] w fun e w' => RetB (LieFits kd lie) e ∧ Below w.heap.size w w' := by
  rcases hv with ⟨a, rfl, rfl, rfl⟩ | ⟨a, b, rfl, rfl, rfl⟩ | ⟨a, b, c', rfl, rfl, rfl⟩ | ⟨a, b, c', d, rfl, rfl, rfl⟩
  · have t3 := ta13
    go_enter Try.func98, Try.ntmps98
    go_wp2
    go_ret
    refine ⟨retB_of ?_, Below.refl _ _⟩
    simp [LieFits]
  · have t3 := ta23
    go_enter Try.func98, Try.ntmps98
    go_wp2
    go_ret
    refine ⟨retB_of ?_, Below.refl _ _⟩
    simp [LieFits]
  · have t3 := ta33
    cases e0 : (lie == 0)
    · cases e1 : (lie == 1)
      · go_enter Try.func98, Try.ntmps98
        go_wp2
        go_ret
        refine ⟨retB_of ?_, Below.refl _ _⟩
        simp at e0 e1
        simp [LieFits]
        omega
      · go_enter Try.func98, Try.ntmps98
        go_wp2
        go_ret
        refine ⟨retB_true ?_, Below.refl _ _⟩
        simp at e1
        simp [LieFits]
        omega
    · go_enter Try.func98, Try.ntmps98
      go_wp2
      go_ret
      refine ⟨retB_true ?_, Below.refl _ _⟩
      simp at e0
      simp [LieFits]
      omega
  · have t3 := ta43
    go_enter Try.func98, Try.ntmps98
    go_wp2
    go_ret
    refine ⟨retB_of ?_, Below.refl _ _⟩
    simp [LieFits]

end Go.Proofs.Ytcmakcnkiekalab
