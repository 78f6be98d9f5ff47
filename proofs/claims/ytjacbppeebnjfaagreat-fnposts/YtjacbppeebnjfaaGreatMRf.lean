import Derived.Test.YtjacbppeebnjfaaGreatMPlain
import Derived.RangeFuncNested
import Derived.Test.YtjacbppeebnjfaaGreatMPlain7
import Derived.RangeFuncBound
import Derived.Shelf.Abstract
import Derived.Shelf.RegionOpen
import Derived.WalkKit
import Derived.OwnWalkIn
import Derived.TacticsInMore
import Derived.LoopNIn
import Derived.LoopIn
namespace Go.Proofs.YtjacbppeebnjfaaGreat
open Go.RowKit

def LoopAt (l D : Nat) (r : Loop) (W : World) : Prop := W.heap[l]? = some (.loop r) ∧ W.heap[D]? = some (.deferred (some []))

def roundOut (l D : Nat) (r : Loop) (Post : World → Prop) (Out : Code → World → Prop) : Exit → Act → World → Prop
 | .normal, _, W' => LoopAt l D { r with state := .busy } W' ∧ ∀ o, Post (W'.putObj l o)
 | .ret, _, W' => LoopAt l D { r with state := .busy } W' ∧ ∀ o, Out .ret (W'.putObj l o)
 | .exit id, _, W' => LoopAt l D { r with state := .busy } W' ∧ ∀ o, Out (.exit id) (W'.putObj l o)
 | .goto t, _, W' => LoopAt l D { r with state := .busy } W' ∧ ∀ o, Out (.goto t) (W'.putObj l o)
 | .panic _, _, _ => False
 | .outgrown, _, _ => False

theorem rangeFunc_rel {F : Fence} {n : Nat} {P : Program} {g : Operand} {ps : Array Tmp} {assign body : Code} {Q : Exit → Act → World → Prop} {a : Act} {w : World}
  (hro : F.round = none) (h1 : 1 ≤ n) {gf : Nat} {fs lb : Array Value} (hg : a.eval g = .func (.func gf) fs lb) (hFg : F.fn gf) (eg : ∀ args w, (callFunc gf args).run P w = .ok (.enter gf args) w)
  (Pre : Array Value → World → Prop) (Post : Array Value → World → World → Prop) (Out : Code → Array Value → World → World → Prop) (Fin : World → Prop) (FinJ : Code → World → Prop)
  (hps : ∀ args W, Pre args W → args.size = ps.size)
  (hround : ∀ (r : Loop) (args : Array Value) (W : World), r.state = .ready → LoopAt (w.heap.size + 1) w.heap.size r W → Pre args W →
   assign.wpIn (F.inRound (w.heap.size + 1)) (n - 1 - 1) P (Exit.then (fun a₁ W₁ => LoopAt (w.heap.size + 1) w.heap.size r W₁ ∧ body.wpIn (F.inRound (w.heap.size + 1)) (n - 1 - 1) P (roundOut (w.heap.size + 1) w.heap.size r (Post args W) (fun c => Out c args W)) a₁ (W₁.putObj (w.heap.size + 1) (.loop { r with state := .busy }))) (fun _ _ _ => False))
    { tmps := (ps.zip args).foldl (fun t (p, v) => t.setIfInBounds p v) a.tmps, defers := [] } W)
  (hiter : ∀ (r : Loop), r.state = .ready → r.pending = none →
   (∀ args W, LoopAt (w.heap.size + 1) w.heap.size r W → Pre args W → YieldAt F (n - 1 - 1) P (w.heap.size + 1) args W fun e W' =>
    (e = .returned (.bool true) ∧ LoopAt (w.heap.size + 1) w.heap.size r W' ∧ Post args W W') ∨ (e = .returned (.bool false) ∧ ∃ c, LoopAt (w.heap.size + 1) w.heap.size { r with state := .done, pending := some c } W' ∧ Out c args W W')) →
   CallsIn F (n - 1) P gf (fs ++ #[.func (.yield (w.heap.size + 1)) #[] #[]] ++ lb) ((w.alloc (.deferred (some []))).alloc (.loop r)) fun e W' => (∃ v, e = .returned v) ∧
    ((LoopAt (w.heap.size + 1) w.heap.size r W' ∧ Fin W') ∨ (∃ c, LoopAt (w.heap.size + 1) w.heap.size { r with state := .done, pending := some c } W' ∧ FinJ c W')))
  (hdone : ∀ (W : World) (o : Obj), Fin W → W.heap[w.heap.size]? = some (.deferred (some [])) → (∃ r, W.heap[w.heap.size + 1]? = some (.loop r)) → Q .normal { a with defers := { target := .collected w.heap.size, args := #[] } :: a.defers } (W.putObj (w.heap.size + 1) o))
  (hstop : ∀ (c : Code) (W : World) (o : Obj), FinJ c W → W.heap[w.heap.size]? = some (.deferred (some [])) → (∃ r, W.heap[w.heap.size + 1]? = some (.loop r)) → c.wpIn F n P Q { a with defers := { target := .collected w.heap.size, args := #[] } :: a.defers } (W.putObj (w.heap.size + 1) o)) :
  (Code.rangeFunc g ps assign body).wpIn F n P Q a w := by
 refine wpIn_rangeFunc fun fn hfn => ?_
 rw [hro]
 generalize hr0 : ({ state := .ready, pending := none, fn, tmps := a.tmps, params := ps, assign, body, defers := w.heap.size } : Loop) = r
 have est : r.state = .ready := by rw [← hr0]
 have epe : r.pending = none := by rw [← hr0]
 have eps : r.params = ps := by rw [← hr0]
 have hen := run_enterLoop_outer (P := P) (w := w) fn a.tmps ps assign body
 rw [hr0] at hen
 obtain ⟨W1, hW1⟩ : ∃ W1, (w.alloc (.deferred (some []))).alloc (.loop r) = W1 := ⟨_, rfl⟩
 rw [hW1] at hen
 refine ⟨w.heap.size + 1, [{ target := .collected w.heap.size, args := #[] }], W1, { target := .fn (.func gf) lb, args := fs ++ #[.func (.yield (w.heap.size + 1)) #[] #[]] }, W1, gf, fs ++ #[.func (.yield (w.heap.size + 1)) #[] #[]] ++ lb, W1, hen, ?_, ?_, ?_, fun _ => h1, ?_⟩
 ·simp only [resolve, hg]
  simp [go_sem]
 ·intro f' hf'
  simp [Target.leads] at hf'
  subst hf'
  exact hFg
 ·simp [invoke, go_sem, eg]
 ·rw [← hW1]
  refine (hiter r est epe ?_).mono ?_
  ·intro args W hL hP
   have hy := run_yield (P := P) (args := args) hL.1 (by rw [eps]; exact hps args W hP)
   have hf : r.fn = fn := by rw [← hr0]
   have ht : r.tmps = a.tmps := by rw [← hr0]
   have ha : r.assign = assign := by rw [← hr0]
   have hb : r.body = body := by rw [← hr0]
   rw [hf, ht, ha, hb, eps] at hy
   refine ⟨fn, _, assign, body, hy, roundIn_of_wpIn hfn (wpIn_mono (hround r args W est hL hP) ?_)⟩
   intro e a1 W1 h
   cases e with
   | normal =>
    obtain ⟨hL1, hB⟩ := h
    refine ⟨_, run_beginRound hL1.1 est, wpIn_mono hB ?_⟩
    have fin : ∀ (jump : Option Code) (W3 : World), LoopAt (w.heap.size + 1) w.heap.size { r with state := .busy } W3 →
      (Instr.endRound (w.heap.size + 1) jump).run P W3 = .ok (.bool jump.isNone) (W3.putObj (w.heap.size + 1) (.loop { r with state := if jump.isNone then .ready else .done, pending := jump }))
      ∧ LoopAt (w.heap.size + 1) w.heap.size { r with state := if jump.isNone then .ready else .done, pending := jump } (W3.putObj (w.heap.size + 1) (.loop { r with state := if jump.isNone then .ready else .done, pending := jump })) := fun jump W3 h3 =>
     ⟨(run_endRound (P := P) (r := { r with state := .busy }) jump h3.1), World.putObj_heap_same (Array.getElem?_eq_some_iff.1 h3.1).1, (World.putObj_heap_other (by omega)).trans h3.2⟩
    intro e2 a2 W2 h2
    cases e2 with
    | normal =>
     obtain ⟨hL2, hP2⟩ := h2
     obtain ⟨f1, f2⟩ := fin none W2 hL2
     refine ⟨_, _, f1, Or.inl ⟨rfl, ?_, hP2 _⟩⟩
     have : ({ r with state := .ready, pending := none } : Loop) = r := by rw [← hr0]
     simpa [this] using f2
    | ret =>
     obtain ⟨hL2, hP2⟩ := h2
     obtain ⟨f1, f2⟩ := fin (some .ret) W2 hL2
     exact ⟨_, _, f1, Or.inr ⟨rfl, .ret, f2, hP2 _⟩⟩
    | exit id =>
     obtain ⟨hL2, hP2⟩ := h2
     obtain ⟨f1, f2⟩ := fin (some (.exit id)) W2 hL2
     exact ⟨_, _, f1, Or.inr ⟨rfl, .exit id, f2, hP2 _⟩⟩
    | goto t =>
     obtain ⟨hL2, hP2⟩ := h2
     obtain ⟨f1, f2⟩ := fin (some (.goto t)) W2 hL2
     exact ⟨_, _, f1, Or.inr ⟨rfl, .goto t, f2, hP2 _⟩⟩
    | panic ch => exact h2.elim
    | outgrown => exact h2.elim
   | ret => exact h.elim
   | exit id => exact h.elim
   | goto t => exact h.elim
   | panic ch => exact h.elim
   | outgrown => exact h.elim
  ·rintro e W2 ⟨⟨v, rfl⟩, (⟨hL, hF⟩ | ⟨c, hL, hF⟩)⟩
   ·have hend := run_endLoop (P := P) hL.1 (by rw [est]; simp)
    rw [epe] at hend
    exact ⟨none, _, hend, hdone W2 _ hF hL.2 ⟨_, hL.1⟩⟩
   ·exact ⟨some c, _, run_endLoop (P := P) hL.1 (by simp), hstop c W2 _ hF hL.2 ⟨_, hL.1⟩⟩
end Go.Proofs.YtjacbppeebnjfaaGreat

namespace Go.Proofs.YtjacbppeebnjfaaGreat
open Go.RowKit Go.Shelf

def AheadS (n : Nt) (zs : List Int) (s : St) (i : Nat) (r : Ed × Int) : Prop := ∃ k, StandsAt n.joints (hd s.piece s.way) i k ∧ OverIs n zs i k r
def curL (k0 k1 k2 zv : Value) (s : St) (i bar : Int) : List Value := [k0, k1, k2, zv, .int .i64 s.piece, .int .i64 s.way, .int .i64 i, .int .i64 bar]

def AhEnd (n : Nt) (zs : List Int) (C : Nat) (k0 k1 k2 zv : Value) (J' : Nat → St → Int → World → Prop) (w' : World) : Prop :=
 ∃ (k : Nat) (s : St) (i : Int) (W : World) (i2 : Nat) (r : Ed × Int), J' k s i W ∧ AheadS n zs s i2 r ∧ r.2 ≠ 0 ∧ Only (fun k => k = C) W w' ∧ Boxed w' C (curL k0 k1 k2 zv s i2 r.2)

theorem turned_v (s : St) (w : World) (hy : s.way = 1 ∨ s.way = -1) :
  Calls Tryz.prog 83 #[.agg #[.int .i64 s.piece, .int .i64 s.way]] w fun e w' => e = .returned (.agg #[.int .i64 (trn s).piece, .int .i64 (trn s).way]) ∧ Below w.heap.size w w' := stepTurned_any s w hy

set_option maxRecDepth 100000 in
set_option maxHeartbeats 4000000 in
theorem ahead_any (C l m N : Nat) (n : Nt) (k0 k1 k2 : Value) (zq : Option Addr) (zs : List Int) (zc : Nat) (hG : NetGood n) (hzl : zs.length = n.joints.length) (J J' : Nat → St → Int → World → Prop) (Out : World → Prop) (w : World) (s0 : St) (i0 : Int)
  (hY : ∀ k s i W, J k s i W → YieldAt Fence.wide (m - 1) Tryz.prog l #[.int .i64 (k : Int), .agg #[.int .i64 s.piece, .int .i64 s.way]] W fun e W' => (e = .returned (.bool true) ∧ J' k s i W') ∨ (e = .returned (.bool false) ∧ Out W'))
  (hJ : ∀ k s i W, J k s i W → k ≤ N ∧ Boxed W C (curL k0 k1 k2 (.slice zq zs.length zc) s i 0)) (hN : N ≤ 100000)
  (hJ' : ∀ k s i W, J' k s i W → k < N ∧ Boxed W C (curL k0 k1 k2 (.slice zq zs.length zc) s i 0) ∧ StepOk n s ∧ ∀ wb, Only (fun k => k = C) W wb → TrkAt 0 wb (.agg #[k0, k1, k2]) n ∧ IntsAt 0 wb zq zs ∧ ∀ b off, zq = some ⟨b, off, none⟩ → b ≠ C)
  (hnext : ∀ k s i W i2 e W', J' k s i W → AheadS n zs s i2 (e, 0) → Only (fun k => k = C) W W' → Boxed W' C (curL k0 k1 k2 (.slice zq zs.length zc) (trn (twd e)) i2 0) → J (k + 1) (trn (twd e)) i2 W') (h0 : J 0 s0 i0 w) :
  CallsIn Fence.wide m Tryz.prog 47 #[.pointer (some ⟨C, 0, none⟩), .func (.yield l) #[] #[]] w fun e w' => (∃ v, e = .returned v) ∧
   (Out w' ∨ AhEnd n zs C k0 k1 k2 (.slice zq zs.length zc) J' w') := by
 have hwd : Fence.wide.depth.isSome = true → 1 ≤ m := fun h => absurd h (by simp [Fence.wide])
 refine callsIn_of_wp Tryz.func47 rfl trivial ?_ rfl
 simp only [Tryz.ntmps47, List.size_toArray, List.length_cons, List.length_nil, Nat.reduceAdd, Nat.reduceSub, Array.replicate_succ, Array.replicate_zero, List.push_toArray, List.append_toArray, List.nil_append, List.cons_append]
 gi_wp2
 gi_loopw [4] (fun z wr => ∃ (k : Nat) (s : St) (i : Int), z = .int .i64 k ∧ J k s i wr) (fun z _ => N + 1 - (intOf z).toNat)
 case atStart => exact ⟨0, s0, i0, rfl, h0⟩
 case round =>
  obtain ⟨k, s, i, rfl, hjs⟩ := hrel
  obtain ⟨hkN, hB⟩ := hJ k s i wr hjs
  obtain ⟨fn, tmps, assign, body, hy, hR⟩ := hY k s i wr hjs
  have c4 := hB.2.1 4 _ rfl
  have c5 := hB.2.1 5 _ rfl
  have hCl := hB.1
  gi_wp2
  refine ⟨hwd, hR.mono ?_⟩
  rintro e W3 (⟨rfl, hJ3⟩ | ⟨rfl, hO⟩)
  ·clear hy hR c4 c5 hB hCl
   obtain ⟨hkN', hB3, hsok, hOn⟩ := hJ' k s i W3 hJ3
   obtain ⟨sp, sy⟩ := s
   have d4 := hB3.2.1 4 _ rfl
   have d5 := hB3.2.1 5 _ rfl
   have hCl := hB3.1
   obtain ⟨i2, q2, hst⟩ := stands_some (hG.hd hsok.1.1 hsok.1.2 sy)
   have hil : i2 < zs.length := by rw [hzl]; exact hst.1
   obtain ⟨r, hr⟩ : ∃ r, OverIs n zs i2 q2 r := ⟨_, hst.1, hil, rfl⟩
   have hah : AheadS n zs ⟨sp, sy⟩ i2 r := ⟨q2, hst, hr⟩
   obtain ⟨hkk, hzz, hzC⟩ := hOn W3 (only_refl _ _)
   obtain ⟨zb, zoff, rfl, hzb, z0⟩ := hzz i2 hil
   have hzbC := hzC zb zoff rfl
   obtain ⟨g1, g2, g3⟩ := hr
   generalize hzi : zs[i2] = z at *
   obtain ⟨⟨rp, rs⟩, rc⟩ := r
   have hfitE : EdFits n.pieces.length (hd sp sy) := stands_fits hG hst
   have HOn := hide hOn
   have HJ3 := hide hJ3
   have HST := hide hst
   have HOV := hide g3
   have HAH := hide hah
   have HB3 := hide hB3
   have HSOK := hide hsok
   have HZL := hide hzl
   clear hzl hOn hJ3 hjs h0 hst g3 hah hzi hsok hzz hkk hzC
   dsimp only at d4 d5
   gi_wp2_with fail
   refine ⟨trivial, hwd, (callsIn_wide.2 (endAhead_v ⟨sp, sy⟩ _)).mono ?_⟩
   rintro e W4 ⟨rfl, hb4⟩
   have hB4 := (unhide HB3).below hb4
   have hzb2 : zb < W4.heap.size := Nat.lt_of_lt_of_le hzb.2 hb4.size
   have zz4 := (hb4.cell hzb.2).trans z0
   have e0 := hB4.2.1 0 _ rfl
   have e1 := hB4.2.1 1 _ rfl
   have e2 := hB4.2.1 2 _ rfl
   have e3 := hB4.2.1 3 _ rfl
   have e6 := hB4.2.1 6 _ rfl
   have ez := hB4.2.2 6
   have hCl4 := hB4.1
   have nC1 : ¬ C = W4.heap.size := by omega
   have nC2 : ¬ W4.heap.size = C := by omega
   obtain ⟨he, hhe⟩ : ∃ he, hd sp sy = he := ⟨_, rfl⟩
   dsimp only
   rw [hhe] at HST hfitE ⊢
   obtain ⟨hp, hq⟩ := he
   have HHE := hide hhe
   clear hhe d4 d5
   dsimp only
   gi_wp2_with fail
   refine wpIn_wide.2 ?_
   go_region_held3 (fun w' => w'.cell? ⟨C, 0, none⟩ = some k0 ∧ w'.cell? ⟨C, 1, none⟩ = some k1 ∧ w'.cell? ⟨C, 2, none⟩ = some k2 ∧ w'.cell? ⟨W4.heap.size, 0, none⟩ = some (.int .i64 hp) ∧ w'.cell? ⟨W4.heap.size, 1, none⟩ = some (.int .i64 hq))
    (((try dsimp only); (repeat' apply And.intro)) <;> (first | (go_keep; done) | (rw [World.cell?_setCell_other _ _ _ _ (by simp)]; go_keep; done)))
    (first
     | (go_at_call 79; refine (jointAt_any _ n ⟨hp, hq⟩ i2 q2 _ (((unhide HOn W4 (only_of_below hb4)).1).below bw0) hG hfitE (unhide HST)).mono ?_; rintro e W5 ⟨rfl, hb5⟩; obtain ⟨hc5, hf5⟩ := bcell hb5; have q0 := hc5 (C) (0) (by first | (simp; done) | (simp; omega) | omega); have q1 := hc5 (C) (1) (by first | (simp; done) | (simp; omega) | omega); have q2 := hc5 (C) (2) (by first | (simp; done) | (simp; omega) | omega); have q3 := hc5 (C) (3) (by first | (simp; done) | (simp; omega) | omega); have q4 := hc5 (C) (4) (by first | (simp; done) | (simp; omega) | omega); have q5 := hc5 (C) (5) (by first | (simp; done) | (simp; omega) | omega); have q6 := hc5 (C) (6) (by first | (simp; done) | (simp; omega) | omega); have q7 := hc5 (C) (7) (by first | (simp; done) | (simp; omega) | omega); have q8 := hc5 (W4.heap.size) (0) (by first | (simp; done) | (simp; omega) | omega); have q9 := hc5 (W4.heap.size) (1) (by first | (simp; done) | (simp; omega) | omega); have qf := hf5 C 6 (by first | omega | (simp; omega))))
   have hb35 : Below W3.heap.size W3 W5 := below_then (below_then hb4 bw0) hb5
   have hO6 : Only (fun k => k = C) W3 (W5.setCell ⟨C, 6, none⟩ (.int .i64 i2)) := (only_of_below hb35).trans (only_setCell (S := fun k => k = C) W5 (p := ⟨C, 6, none⟩) rfl _)
   have hB6 : Boxed (W5.setCell ⟨C, 6, none⟩ (.int .i64 i2)) C (curL k0 k1 k2 (.slice (some ⟨zb, zoff, none⟩) zs.length zc) ⟨sp, sy⟩ i2 0) := (hB4.below (below_then bw0 hb5)).setAt (i := 6) (by simp [curL]) _
   have hE6 : Boxed (W5.setCell ⟨C, 6, none⟩ (.int .i64 i2)) W4.heap.size [.int .i64 hp, .int .i64 hq] := (((boxed_alloc W4 _ _).below (below_then bw0 hb5))).apart (p := ⟨C, 6, none⟩) (show W4.heap.size ≠ C by omega) _
   have zz6 : (W5.setCell ⟨C, 6, none⟩ (.int .i64 i2)).cell? ⟨zb, zoff + i2, none⟩ = some (.int .i64 z) := by
    rw [World.cell?_setCell_other _ _ _ _ (by first | (simp; omega) | simp)]
    exact ((below_then (bw0 : Below W4.heap.size W4 _) hb5).cell hzb2).trans zz4
   have hs46 : W4.heap.size < (W5.setCell ⟨C, 6, none⟩ (.int .i64 i2)).heap.size := hE6.1
   generalize W5.setCell ⟨C, 6, none⟩ (.int .i64 i2) = W6 at *
   have hO6' : Hid (Only (fun k => k = C) W3 W6) := hide hO6
   clear hO6 hb35 q0 q1 q2 q3 q4 q5 q6 q7 q8 q9 qf hc5 hf5 e0 e1 e2 e3 e6 ez hb5 zz4 z0
   have e0 := hB6.2.1 0 _ rfl
   have e1 := hB6.2.1 1 _ rfl
   have e2 := hB6.2.1 2 _ rfl
   have e3 := hB6.2.1 3 _ rfl
   have e6 := hB6.2.1 6 _ rfl
   have f0 := hE6.2.1 0 _ rfl
   have f1 := hE6.2.1 1 _ rfl
   have hC6 := hB6.1
   have nC6 : ¬ C = W6.heap.size := by omega
   have nC7 : ¬ W6.heap.size = C := by omega
   have nE6 : ¬ W4.heap.size = W6.heap.size := by omega
   have nE7 : ¬ W6.heap.size = W4.heap.size := by omega
   have hzb6 : zb < W6.heap.size := by omega
   have nz6 : ¬ zb = W6.heap.size := by omega
   have nz7 : ¬ W6.heap.size = zb := by omega
   have hii : (i2 : Int) < (zs.length : Int) := by omega
   gi_wp2_with fail
   refine wpIn_wide.2 ?_
   go_region_held3 (fun w' => w'.cell? ⟨C, 0, none⟩ = some k0 ∧ w'.cell? ⟨C, 1, none⟩ = some k1 ∧ w'.cell? ⟨C, 2, none⟩ = some k2 ∧ w'.cell? ⟨C, 3, none⟩ = some (.slice (some ⟨zb, zoff, none⟩) zs.length zc) ∧ w'.cell? ⟨C, 6, none⟩ = some (.int .i64 i2) ∧ w'.cell? ⟨W4.heap.size, 0, none⟩ = some (.int .i64 hp) ∧ w'.cell? ⟨W4.heap.size, 1, none⟩ = some (.int .i64 hq) ∧ w'.cell? ⟨zb, zoff + i2, none⟩ = some (.int .i64 z))
    (((try dsimp only); (repeat' apply And.intro)) <;> (go_keep; done))
    (first
     | (go_at_call 81; refine (over_any _ n ⟨hp, hq⟩ i2 q2 z ⟨rp, rs⟩ rc _ (((unhide HOn W6 (unhide hO6')).1).below bw0) hG hfitE (unhide HST) (unhide HOV)).mono ?_; rintro e W7 ⟨rfl, hb7⟩; obtain ⟨hc7, hf7⟩ := bcell hb7; have sz7 := hb7.size; (try simp at sz7); (try have lt7 := Nat.lt_of_succ_le sz7); have ne70 : ¬ W7.heap.size = C := (by omega); have ne71 : ¬ C = W7.heap.size := (by omega); have ne72 : ¬ W7.heap.size = W4.heap.size := (by omega); have ne73 : ¬ W4.heap.size = W7.heap.size := (by omega); have ne74 : ¬ W7.heap.size = zb := (by omega); have ne75 : ¬ zb = W7.heap.size := (by omega); have q0 := hc7 (C) (0) (by first | (simp; done) | (simp; omega) | omega); have q1 := hc7 (C) (1) (by first | (simp; done) | (simp; omega) | omega); have q2 := hc7 (C) (2) (by first | (simp; done) | (simp; omega) | omega); have q3 := hc7 (C) (3) (by first | (simp; done) | (simp; omega) | omega); have q4 := hc7 (C) (4) (by first | (simp; done) | (simp; omega) | omega); have q5 := hc7 (C) (5) (by first | (simp; done) | (simp; omega) | omega); have q6 := hc7 (C) (6) (by first | (simp; done) | (simp; omega) | omega); have q7 := hc7 (C) (7) (by first | (simp; done) | (simp; omega) | omega); have q8 := hc7 (W4.heap.size) (0) (by first | (simp; done) | (simp; omega) | omega); have q9 := hc7 (W4.heap.size) (1) (by first | (simp; done) | (simp; omega) | omega); have qz := hc7 zb (zoff + i2) (by first | omega | (simp; omega))))
   ·have hEx : Boxed (W7.alloc (.cells #[.int .i64 rp, .int .i64 rs] 141)) W7.heap.size [.int .i64 rp, .int .i64 rs] := boxed_alloc _ _ _
    have hbx : Below W6.heap.size W6 (W7.alloc (.cells #[.int .i64 rp, .int .i64 rs] 141)) := below_then (below_then bw0 hb7) bw0
    have hBB : ¬ W7.heap.size = C := ne70
    clear q0 q1 q2 q3 q4 q5 q6 q7 q8 q9 qz hc7 hf7 hb7 sz7 ne70 ne71 ne72 ne73 ne74 ne75
    generalize W7.alloc (.cells #[.int .i64 rp, .int .i64 rs] 141) = Wx at *
    generalize W7.heap.size = B at *
    have hBx := hB6.below hbx
    have hOx : Hid (Only (fun k => k = C) W3 Wx) := hide ((unhide hO6').trans (only_of_below hbx))
    have b0 := hEx.2.1 0 _ rfl
    have b1 := hEx.2.1 1 _ rfl
    have bl := hEx.1
    have cl := hBx.1
    have cz := hBx.2.2
    have c7 := hBx.2.1 7 _ rfl
    have c4 := hBx.2.1 4 _ rfl
    have c5 := hBx.2.1 5 _ rfl
    clear e0 e1 e2 e3 e6 f0 f1 zz6
    by_cases hq0 : rc = 0
    ·subst hq0
     gi_wp2_with fail
     refine ⟨trivial, hwd, (callsIn_wide.2 (toward_any ⟨rp, rs⟩ _)).mono ?_⟩
     rintro e W8 ⟨rfl, hb8⟩
     have hB8 := hBx.below hb8
     gi_wp2_with fail
     refine ⟨trivial, hwd, (callsIn_wide.2 (turned_v (twd ⟨rp, rs⟩) _ (by unfold twd; dsimp only; split <;> simp))).mono ?_⟩
     rintro e W9 ⟨rfl, hb9⟩
     have hB9 := hB8.below hb9
     have hO9 := (unhide hOx).trans (only_of_below (below_then hb8 hb9))
     have c4 := hB9.2.1 4 _ rfl
     have c5 := hB9.2.1 5 _ rfl
     have cz := hB9.2.2
     have cl := hB9.1
     have HB9 := hide ((hB9.setAt (i := 4) (by simp [curL]) (.int .i64 (trn (twd ⟨rp, rs⟩)).piece)).setAt (i := 5) (by simp [curL]) (.int .i64 (trn (twd ⟨rp, rs⟩)).way))
     gi_wp2
     go_roundw
     case rel =>
      refine ⟨k + 1, trn (twd ⟨rp, rs⟩), i2, by go_num, hnext k ⟨sp, sy⟩ i W3 i2 ⟨rp, rs⟩ _ (unhide HJ3) (unhide HAH) ?_ (unhide HB9)⟩
      exact (hO9.trans (only_setCell (S := fun k => k = C) W9 (p := ⟨C, 4, none⟩) rfl _)).trans (only_setCell (S := fun k => k = C) _ (p := ⟨C, 5, none⟩) rfl _)
     case measure => simp [intOf]; omega
    ·have hqb := ne_beq hq0
     have hqn : (rc != 0) = true := by simp [bne, hqb]
     have HQ := hide hq0
     have HBF := hide (hBx.setAt (i := 7) (by simp [curL]) (.int .i64 rc))
     clear hq0
     gi_wp2
     refine bodyPost_ret (results_none rfl _ _ _) rfl ?_
     exact ⟨⟨_, rfl⟩, Or.inr ⟨k, ⟨sp, sy⟩, i, W3, i2, (⟨rp, rs⟩, rc), unhide HJ3, unhide HAH, unhide HQ, (unhide hOx).trans (only_setCell (S := fun k => k = C) Wx (p := ⟨C, 7, none⟩) rfl _), unhide HBF⟩⟩
   ·have hZx : Boxed W7 W6.heap.size [.int .i64 0, .int .i64 0] := (((boxed_alloc W6 _ _).below bw0)).below hb7
    have hEx := hZx.put2 (.int .i64 rp) (.int .i64 rs)
    have hbx : Below W6.heap.size W6 ((W7.setCell ⟨W6.heap.size, 0, none⟩ (.int .i64 rp)).setCell ⟨W6.heap.size, 1, none⟩ (.int .i64 rs)) := by
     have hb67 : Below W6.heap.size W6 W7 := below_then bw0 hb7
     exact (hb67.setCell (p := ⟨W6.heap.size, 0, none⟩) (Nat.le_refl _) _).setCell (p := ⟨W6.heap.size, 1, none⟩) (Nat.le_refl _) _
    clear q0 q1 q2 q3 q4 q5 q6 q7 q8 q9 qz hc7 hf7 hb7 sz7 ne70 ne71 ne72 ne73 ne74 ne75 hZx
    generalize (W7.setCell ⟨W6.heap.size, 0, none⟩ (.int .i64 rp)).setCell ⟨W6.heap.size, 1, none⟩ (.int .i64 rs) = Wx at *
    have hBx := hB6.below hbx
    have hOx : Hid (Only (fun k => k = C) W3 Wx) := hide ((unhide hO6').trans (only_of_below hbx))
    have b0 := hEx.2.1 0 _ rfl
    have b1 := hEx.2.1 1 _ rfl
    have bl := hEx.1
    have cl := hBx.1
    have cz := hBx.2.2
    have c7 := hBx.2.1 7 _ rfl
    have c4 := hBx.2.1 4 _ rfl
    have c5 := hBx.2.1 5 _ rfl
    clear e0 e1 e2 e3 e6 f0 f1 zz6
    by_cases hq0 : rc = 0
    ·subst hq0
     gi_wp2_with fail
     refine ⟨trivial, hwd, (callsIn_wide.2 (toward_any ⟨rp, rs⟩ _)).mono ?_⟩
     rintro e W8 ⟨rfl, hb8⟩
     have hB8 := hBx.below hb8
     gi_wp2_with fail
     refine ⟨trivial, hwd, (callsIn_wide.2 (turned_v (twd ⟨rp, rs⟩) _ (by unfold twd; dsimp only; split <;> simp))).mono ?_⟩
     rintro e W9 ⟨rfl, hb9⟩
     have hB9 := hB8.below hb9
     have hO9 := (unhide hOx).trans (only_of_below (below_then hb8 hb9))
     have c4 := hB9.2.1 4 _ rfl
     have c5 := hB9.2.1 5 _ rfl
     have cz := hB9.2.2
     have cl := hB9.1
     have HB9 := hide ((hB9.setAt (i := 4) (by simp [curL]) (.int .i64 (trn (twd ⟨rp, rs⟩)).piece)).setAt (i := 5) (by simp [curL]) (.int .i64 (trn (twd ⟨rp, rs⟩)).way))
     gi_wp2
     go_roundw
     case rel =>
      refine ⟨k + 1, trn (twd ⟨rp, rs⟩), i2, by go_num, hnext k ⟨sp, sy⟩ i W3 i2 ⟨rp, rs⟩ _ (unhide HJ3) (unhide HAH) ?_ (unhide HB9)⟩
      exact (hO9.trans (only_setCell (S := fun k => k = C) W9 (p := ⟨C, 4, none⟩) rfl _)).trans (only_setCell (S := fun k => k = C) _ (p := ⟨C, 5, none⟩) rfl _)
     case measure => simp [intOf]; omega
    ·have hqb := ne_beq hq0
     have hqn : (rc != 0) = true := by simp [bne, hqb]
     have HQ := hide hq0
     have HBF := hide (hBx.setAt (i := 7) (by simp [curL]) (.int .i64 rc))
     clear hq0
     gi_wp2
     refine bodyPost_ret (results_none rfl _ _ _) rfl ?_
     exact ⟨⟨_, rfl⟩, Or.inr ⟨k, ⟨sp, sy⟩, i, W3, i2, (⟨rp, rs⟩, rc), unhide HJ3, unhide HAH, unhide HQ, (unhide hOx).trans (only_setCell (S := fun k => k = C) Wx (p := ⟨C, 7, none⟩) rfl _), unhide HBF⟩⟩
  ·gi_wp2
   go_end0
   exact ⟨⟨_, rfl⟩, Or.inl hO⟩
end Go.Proofs.YtjacbppeebnjfaaGreat

namespace Go.Proofs.YtjacbppeebnjfaaGreat
open Go.RowKit

theorem only_putObj {S : Nat → Prop} {w : World} {l : Nat} {r : Loop} (h : w.heap[l]? = some (.loop r)) (hS : S l) (o : Obj) : Only S w (w.putObj l o) := by
 refine ⟨rfl, rfl, rfl, by simp, fun k _ hs => World.putObj_heap_other (fun e => hs (e ▸ hS)), fun k c t fr hc => ?_⟩
 have hne : k ≠ l := fun e => by
  rw [e, h] at hc
  cases hc
 exact ⟨c, (World.putObj_heap_other hne).trans hc, rfl⟩

theorem LoopAt.alloc {l D : Nat} {r : Loop} {w : World} (h : LoopAt l D r w) (o : Obj) : LoopAt l D r (w.alloc o) :=
 ⟨(Below.heap_alloc _ _ _ (Array.getElem?_eq_some_iff.1 h.1).1).trans h.1, (Below.heap_alloc _ _ _ (Array.getElem?_eq_some_iff.1 h.2).1).trans h.2⟩

theorem LoopAt.only {S : Nat → Prop} {l D : Nat} {r : Loop} {w w' : World} (h : LoopAt l D r w) (ho : Only S w w') (h1 : ¬ S l) (h2 : ¬ S D) : LoopAt l D r w' :=
 ⟨(ho.block _ (Array.getElem?_eq_some_iff.1 h.1).1 h1).trans h.1, (ho.block _ (Array.getElem?_eq_some_iff.1 h.2).1 h2).trans h.2⟩

theorem LoopAt.below {l D : Nat} {r : Loop} {w w' : World} (h : LoopAt l D r w) (hb : Below w.heap.size w w') : LoopAt l D r w' := h.only (S := fun _ => False) (only_of_below hb) id id
end Go.Proofs.YtjacbppeebnjfaaGreat

