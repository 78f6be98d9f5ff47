import Derived.Test.YtbdggfpfpjijoabGreatDoorG0
import Derived.RangeFuncNested
namespace Go.Proofs.YtbdggfpfpjijoabGreatDoor
open Go.RowKit

/-- The loop's record is as it was laid, and its block for deferred calls is empty. -/
def LoopAt (l D : Nat) (r : Loop) (W : World) : Prop := W.heap[l]? = some (.loop r) ∧ W.heap[D]? = some (.deferred (some []))

/-- How a round's body may be left: W is the world in which yield was called. -/
def roundOut (l D : Nat) (r : Loop) (Post : World → Prop) (Out : Code → World → Prop) : Exit → Act → World → Prop
  | .normal, _, W' => LoopAt l D { r with state := .busy } W' ∧ ∀ o, Post (W'.putObj l o)
  | .ret, _, W' => LoopAt l D { r with state := .busy } W' ∧ ∀ o, Out .ret (W'.putObj l o)
  | .exit id, _, W' => LoopAt l D { r with state := .busy } W' ∧ ∀ o, Out (.exit id) (W'.putObj l o)
  | .goto t, _, W' => LoopAt l D { r with state := .busy } W' ∧ ∀ o, Out (.goto t) (W'.putObj l o)
  | .panic _, _, _ => False
  | .outgrown, _, _ => False

/-- A range over a function whose iterator keeps its own state in cells: the iterator is walked at this very loop; what a round asks and does is said of the two worlds. -/
theorem rangeFunc_rel {F : Fence} {n : Nat} {P : Program} {g : Operand} {ps : Array Tmp} {assign body : Code} {Q : Exit → Act → World → Prop} {a : Act} {w : World}
    (hro : F.round = none) (h1 : 1 ≤ n) {gf : Nat} {fs lb : Array Value} (hg : a.eval g = .func (.func gf) fs lb) (hFg : F.fn gf) (eg : ∀ args w, (callFunc gf args).run P w = .ok (.enter gf args) w)
    (Pre : Array Value → World → Prop) (Post : Array Value → World → World → Prop) (Out : Code → Array Value → World → World → Prop) (Fin : World → Prop) (FinJ : Code → World → Prop)
    (hps : ∀ args W, Pre args W → args.size = ps.size)
    (hround : ∀ (r : Loop) (args : Array Value) (W : World), r.state = .ready → LoopAt (w.heap.size + 1) w.heap.size r W → Pre args W →
      assign.wpIn (F.inRound (w.heap.size + 1)) (n - 1 - 1) P (Exit.then (fun a₁ W₁ => LoopAt (w.heap.size + 1) w.heap.size r W₁ ∧ body.wpIn (F.inRound (w.heap.size + 1)) (n - 1 - 1) P (roundOut (w.heap.size + 1) w.heap.size r (Post args W) (fun c => Out c args W)) a₁ (W₁.putObj (w.heap.size + 1) (.loop { r with state := .busy }))) (fun _ _ _ => False))
        { tmps := (ps.zip args).foldl (fun t (p, v) => t.setIfInBounds p v) a.tmps, defers := [] } W)
    (hiter : ∀ (r : Loop), r.state = .ready → r.pending = none →
      (∀ args W, LoopAt (w.heap.size + 1) w.heap.size r W → Pre args W → YieldAt F (n - 1 - 1) P (w.heap.size + 1) args W fun e W' =>
        (e = .returned (.bool true) ∧ LoopAt (w.heap.size + 1) w.heap.size r W' ∧ Post args W W') ∨ (e = .returned (.bool false) ∧ ∃ c, LoopAt (w.heap.size + 1) w.heap.size { r with state := .done, pending := some c } W' ∧ Out c args W W')) →
      CallsIn F (n - 1) P gf (fs ++ #[.func (.yield (w.heap.size + 1)) #[] #[]] ++ lb) ((w.alloc (.deferred (some []))).alloc (.loop r)) fun e W' => (∃ v, e = .returned v) ∧
        ((LoopAt (w.heap.size + 1) w.heap.size r W' ∧ Fin W') ∨ (∃ c, LoopAt (w.heap.size + 1) w.heap.size { r with state := .done, pending := some c } W' ∧ FinJ c W')))
    (hdone : ∀ (W : World) (o : Obj), Fin W → W.heap[w.heap.size]? = some (.deferred (some [])) → (∃ r, W.heap[w.heap.size + 1]? = some (.loop r)) → Q .normal { a with defers := { target := .collected w.heap.size, args := #[] } :: a.defers } (W.putObj (w.heap.size + 1) o))
    (hstop : ∀ (c : Code) (W : World) (o : Obj), FinJ c W → W.heap[w.heap.size]? = some (.deferred (some [])) → (∃ r, W.heap[w.heap.size + 1]? = some (.loop r)) → c.wpIn F n P Q { a with defers := { target := .collected w.heap.size, args := #[] } :: a.defers } (W.putObj (w.heap.size + 1) o)) :
    (Code.rangeFunc g ps assign body).wpIn F n P Q a w := by
  refine wpIn_rangeFunc fun fn hfn => ?_
  rw [hro]
  generalize hr0 : ({ state := .ready, pending := none, fn, tmps := a.tmps, params := ps, assign, body, defers := w.heap.size } : Loop) = r
  have est : r.state = .ready := by rw [← hr0]
  have epe : r.pending = none := by rw [← hr0]
  have eps : r.params = ps := by rw [← hr0]
  have hen := run_enterLoop_outer (P := P) (w := w) fn a.tmps ps assign body
  rw [hr0] at hen
  obtain ⟨W1, hW1⟩ : ∃ W1, (w.alloc (.deferred (some []))).alloc (.loop r) = W1 := ⟨_, rfl⟩
  rw [hW1] at hen
  refine ⟨w.heap.size + 1, [{ target := .collected w.heap.size, args := #[] }], W1, { target := .fn (.func gf) lb, args := fs ++ #[.func (.yield (w.heap.size + 1)) #[] #[]] }, W1, gf, fs ++ #[.func (.yield (w.heap.size + 1)) #[] #[]] ++ lb, W1, hen, ?_, ?_, ?_, fun _ => h1, ?_⟩
  · simp only [resolve, hg]
    simp [go_sem]
  · intro f' hf'
    simp [Target.leads] at hf'
    subst hf'
    exact hFg
  · simp [invoke, go_sem, eg]
  · rw [← hW1]
    refine (hiter r est epe ?_).mono ?_
    · intro args W hL hP
      have hy := run_yield (P := P) (args := args) hL.1 (by rw [eps]; exact hps args W hP)
      have hf : r.fn = fn := by rw [← hr0]
      have ht : r.tmps = a.tmps := by rw [← hr0]
      have ha : r.assign = assign := by rw [← hr0]
      have hb : r.body = body := by rw [← hr0]
      rw [hf, ht, ha, hb, eps] at hy
      refine ⟨fn, _, assign, body, hy, roundIn_of_wpIn hfn (wpIn_mono (hround r args W est hL hP) ?_)⟩
      intro e a1 W1 h
      cases e with
      | normal =>
        obtain ⟨hL1, hB⟩ := h
        refine ⟨_, run_beginRound hL1.1 est, wpIn_mono hB ?_⟩
        have fin : ∀ (jump : Option Code) (W3 : World), LoopAt (w.heap.size + 1) w.heap.size { r with state := .busy } W3 →
            (Instr.endRound (w.heap.size + 1) jump).run P W3 = .ok (.bool jump.isNone) (W3.putObj (w.heap.size + 1) (.loop { r with state := if jump.isNone then .ready else .done, pending := jump }))
            ∧ LoopAt (w.heap.size + 1) w.heap.size { r with state := if jump.isNone then .ready else .done, pending := jump } (W3.putObj (w.heap.size + 1) (.loop { r with state := if jump.isNone then .ready else .done, pending := jump })) := fun jump W3 h3 =>
          ⟨(run_endRound (P := P) (r := { r with state := .busy }) jump h3.1), World.putObj_heap_same (Array.getElem?_eq_some_iff.1 h3.1).1, (World.putObj_heap_other (by omega)).trans h3.2⟩
        intro e2 a2 W2 h2
        cases e2 with
        | normal =>
          obtain ⟨hL2, hP2⟩ := h2
          obtain ⟨f1, f2⟩ := fin none W2 hL2
          refine ⟨_, _, f1, Or.inl ⟨rfl, ?_, hP2 _⟩⟩
          have : ({ r with state := .ready, pending := none } : Loop) = r := by rw [← hr0]
          simpa [this] using f2
        | ret =>
          obtain ⟨hL2, hP2⟩ := h2
          obtain ⟨f1, f2⟩ := fin (some .ret) W2 hL2
          exact ⟨_, _, f1, Or.inr ⟨rfl, .ret, f2, hP2 _⟩⟩
        | exit id =>
          obtain ⟨hL2, hP2⟩ := h2
          obtain ⟨f1, f2⟩ := fin (some (.exit id)) W2 hL2
          exact ⟨_, _, f1, Or.inr ⟨rfl, .exit id, f2, hP2 _⟩⟩
        | goto t =>
          obtain ⟨hL2, hP2⟩ := h2
          obtain ⟨f1, f2⟩ := fin (some (.goto t)) W2 hL2
          exact ⟨_, _, f1, Or.inr ⟨rfl, .goto t, f2, hP2 _⟩⟩
        | panic ch => exact h2.elim
        | outgrown => exact h2.elim
      | ret => exact h.elim
      | exit id => exact h.elim
      | goto t => exact h.elim
      | panic ch => exact h.elim
      | outgrown => exact h.elim
    · rintro e W2 ⟨⟨v, rfl⟩, (⟨hL, hF⟩ | ⟨c, hL, hF⟩)⟩
      · have hend := run_endLoop (P := P) hL.1 (by rw [est]; simp)
        rw [epe] at hend
        exact ⟨none, _, hend, hdone W2 _ hF hL.2 ⟨_, hL.1⟩⟩
      · exact ⟨some c, _, run_endLoop (P := P) hL.1 (by simp), hstop c W2 _ hF hL.2 ⟨_, hL.1⟩⟩
end Go.Proofs.YtbdggfpfpjijoabGreatDoor

