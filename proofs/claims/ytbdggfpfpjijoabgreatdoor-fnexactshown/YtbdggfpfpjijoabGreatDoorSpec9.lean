import Derived.Test.YtbdggfpfpjijoabGreatDoorG13
import Derived.Test.YtbdggfpfpjijoabGreatDoorG14
namespace Go.Proofs.YtbdggfpfpjijoabGreatDoor
open Go.RowKit

/-- The last step of a train; where its last end is. -/
def lastOf (s : St) : List St → St
  | [] => s
  | x :: r => lastOf x r
theorem lastOf_take (s : St) (xs : List St) (k : Nat) (h : k < xs.length) : lastOf s (xs.take (k + 1)) = xs[k] := by
  induction xs generalizing s k with
  | nil => simp at h
  | cons x r ih =>
    cases k with
    | zero => simp [lastOf]
    | succ k => simpa [lastOf] using ih x k (by simpa using h)

def tailOf (n : Nt) (t : Tr) : Sp :=
  ⟨(lastOf ⟨t.front.piece, t.front.way⟩ t.back).piece,
   if (lastOf ⟨t.front.piece, t.front.way⟩ t.back).way = -1 then lenOf n (lastOf ⟨t.front.piece, t.front.way⟩ t.back).piece - (behind n t.front - t.long + sumLen n t.back) else behind n t.front - t.long + sumLen n t.back,
   (lastOf ⟨t.front.piece, t.front.way⟩ t.back).way⟩

/-- Tail's answer. -/
def RetSp (p : Prop) (s : Sp) (e : Ending) : Prop := (p ∧ e = .returned (.agg #[.int .i64 s.piece, .int .i64 s.at_, .int .i64 s.way])) ∨ (¬ p ∧ e = .returned (.agg #[.int .i64 0, .int .i64 0, .int .i64 0]))

theorem lastOf_ok {n : Nt} {s : St} {xs : List St} (h : StepOk n s) (hx : ∀ x ∈ xs, StepOk n x) : StepOk n (lastOf s xs) := by
  induction xs generalizing s with
  | nil => exact h
  | cons x r ih => exact ih (hx x (by simp)) (fun y hy => hx y (by simp [hy]))

theorem backOk_steps {n : Nt} {long : Int} : ∀ {h : Int} {ah : St} {xs : List St}, BackOk n long h ah xs → ∀ x ∈ xs, StepOk n x := by
  intro h ah xs
  induction xs generalizing h ah with
  | nil => intro _ x hx; simp at hx
  | cons y r ih =>
    intro hb x hx
    simp only [BackOk] at hb
    rcases List.mem_cons.1 hx with rfl | hx
    · exact hb.1
    · exact ih hb.2.2.2 x hx

theorem sumLen_take (n : Nt) (xs : List St) (k : Nat) (h : k < xs.length) : sumLen n (xs.take (k + 1)) = sumLen n (xs.take k) + lenOf n xs[k].piece := by
  rw [List.take_succ_eq_append_getElem h, sumLen_append, sumLen_cons, sumLen_nil]
  omega





end Go.Proofs.YtbdggfpfpjijoabGreatDoor

