import Derived.Test.YtjacbppeebnjfaaGreatMKt22
import Derived.Test.YtjacbppeebnjfaaGreatMKt12
import Derived.Test.YtjacbppeebnjfaaGreatMSpec12
import Derived.Test.YtjacbppeebnjfaaGreatMKt17
import Derived.BigQuiet
set_option linter.unusedSimpArgs false
namespace Go.Proofs.YtjacbppeebnjfaaGreat
open Go.RowKit

def Ch (R : St → St → Prop) : St → List St → Prop
 | _, [] => True
 | a, s :: r => R s a ∧ Ch R s r
theorem Ch.snoc {R : St → St → Prop} : ∀ {l : List St} {a z : St}, Ch R a l → R z (lastOf a l) → Ch R a (l ++ [z]) := by
 intro l
 induction l with
 | nil => intro a z _ h; exact ⟨h, trivial⟩
 | cons x r ih => intro a z h hz; exact ⟨h.1, ih h.2 hz⟩
theorem Ch.take {R : St → St → Prop} : ∀ {l : List St} {a : St} (k : Nat), Ch R a l → Ch R a (l.take k) := by
 intro l
 induction l with
 | nil => intro a k _; simp [Ch]
 | cons x r ih =>
  intro a k h
  cases k with
  | zero => simp [Ch]
  | succ k => exact ⟨h.1, ih k h.2⟩
theorem sits_ch {n : Nt} {zs : List Int} : ∀ {l : List St} {a : St}, SitsFrom n zs a l ↔ Ch (LeadsBy n zs) a l := by
 intro l
 induction l with
 | nil => intro a; simp [SitsFrom, Ch]
 | cons x r ih => intro a; simp only [SitsFrom, Ch, ih]
theorem back_ch {n : Nt} {long : Int} : ∀ {xs : List St} {hv : Int} {ah : St}, BackOk n long hv ah xs ↔ Ch (Joined n) ah xs ∧ (∀ x ∈ xs, StepOk n x) ∧ (∀ j, j < xs.length → hv + sumLen n (xs.take j) < long) ∧ long ≤ hv + sumLen n xs := by
 intro xs
 induction xs with
 | nil => intro hv ah; simp [BackOk, Ch, sumLen_nil]
 | cons x r ih =>
  intro hv ah
  simp only [BackOk, Ch, ih, sumLen_cons]
  constructor
  ·rintro ⟨h1, h2, h3, h4, h5, h6, h7⟩
   refine ⟨⟨h3, h4⟩, ?_, ?_, by omega⟩
   ·intro y hy
    rcases List.mem_cons.1 hy with rfl | hy
    ·exact h1
    ·exact h5 y hy
   ·intro j hj
    cases j with
    | zero => simpa [sumLen_nil] using h2
    | succ j =>
     have := h6 j (by simpa using hj)
     simp only [List.take_succ_cons, sumLen_cons]
     omega
  ·rintro ⟨⟨h3, h4⟩, h5, h6, h7⟩
   have h0 := h6 0 (by simp)
   simp [sumLen_nil] at h0
   refine ⟨h5 x (by simp), h0, h3, h4, fun y hy => h5 y (by simp [hy]), fun j hj => ?_, by omega⟩
   have := h6 (j + 1) (by simpa using hj)
   simp only [List.take_succ_cons, sumLen_cons] at this
   omega

end Go.Proofs.YtjacbppeebnjfaaGreat

set_option linter.unusedSimpArgs false
namespace Go.Proofs.YtjacbppeebnjfaaGreat
open Go.RowKit

end Go.Proofs.YtjacbppeebnjfaaGreat

