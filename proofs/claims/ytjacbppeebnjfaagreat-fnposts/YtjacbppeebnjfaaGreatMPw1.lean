import Derived.Test.YtjacbppeebnjfaaGreatMPs4
import Derived.Test.YtjacbppeebnjfaaGreatMEq
import Derived.Test.YtjacbppeebnjfaaGreatMRo
import Derived.Test.YtjacbppeebnjfaaGreatMPlain2
import Derived.Test.YtjacbppeebnjfaaGreatMPlain
import Derived.Sort.Grow
import Derived.Deep.RegionHeld3
set_option linter.unusedSimpArgs false
namespace Go.Proofs.YtjacbppeebnjfaaGreat
open Go.RowKit

def cmpI (a b : Int) : Int := if a < b then -1 else if b < a then 1 else 0
def orI (a b : Int) : Int := if a = 0 then b else a
theorem nan_any (a : Int) (w : World) : Calls Tryz.prog 119 #[.int .i64 a] w fun e w' => e = .returned (.bool false) ∧ w' = w := by
 go_enter Tryz.func119, Tryz.ntmps119
 go_wp2_with fail
 go_ret
 exact ⟨rfl, rfl⟩
theorem compare_any (a b : Int) (w : World) : Calls Tryz.prog 89 #[.int .i64 a, .int .i64 b] w fun e w' => e = .returned (.int .i64 (cmpI a b)) ∧ w' = w := by
 unfold cmpI
 go_enter Tryz.func89, Tryz.ntmps89
 go_wp2_with fail
 refine (nan_any _ _).mono ?_
 rintro e w1 ⟨rfl, rfl⟩
 go_wp2_with fail
 refine (nan_any _ _).mono ?_
 rintro e w1 ⟨rfl, rfl⟩
 by_cases h1 : a < b
 ·go_wp2_with fail
  go_ret
  exact ⟨by simp [h1], rfl⟩
 ·by_cases h2 : b < a
  ·go_wp2_with fail
   go_ret
   exact ⟨by simp [h1, h2], rfl⟩
  ·go_wp2_with fail
   go_ret
   exact ⟨by simp [h1, h2], rfl⟩
set_option maxRecDepth 100000 in
theorem or_any (a b : Int) (g : Nat) (w : World) (h0 : w.cell? ⟨g, 0, none⟩ = some (.int .i64 a)) (h1 : w.cell? ⟨g, 1, none⟩ = some (.int .i64 b)) (hl : g < w.heap.size) : Calls Tryz.prog 88 #[.slice (some ⟨g, 0, none⟩) 2 2] w fun e w' => e = .returned (.int .i64 (orI a b)) ∧ w' = w := by
 unfold orI
 go_enter Tryz.func88, Tryz.ntmps88
 go_wp2_with fail
 go_loopw [8] (fun z wr => wr = w ∧ ((z = .int .i64 0) ∨ (z = .int .i64 1 ∧ a = 0) ∨ (z = .int .i64 2 ∧ a = 0 ∧ b = 0))) (fun z _ => 2 - (intOf z).toNat)
 case atStart => exact ⟨rfl, Or.inl rfl⟩
 case round =>
  obtain ⟨rfl, rfl | ⟨rfl, ha⟩ | ⟨rfl, ha, hb⟩⟩ := hrel
  ·by_cases ha : a = 0
   ·have ha' : (a != 0) = false := by simp [ha]
    go_wp2_with fail
    exact ⟨by simp [ha], by simp [intOf]⟩
   ·have ha' : (a != 0) = true := by simp [ha]
    go_wp2_with fail
    go_ret
    exact ⟨by simp [ha], rfl⟩
  ·have HA := hide ha
   clear ha
   by_cases hb : b = 0
   ·have hb' : (b != 0) = false := by simp [hb]
    go_wp2_with fail
    exact ⟨by simp [unhide HA, hb], by simp [intOf]⟩
   ·have hb' : (b != 0) = true := by simp [hb]
    go_wp2_with fail
    go_ret
    exact ⟨by simp [unhide HA], rfl⟩
  ·go_wp2_with fail
   go_ret
   exact ⟨by simp [ha, hb], rfl⟩
def mkF (m : Mrk) : List Value := [.int .i64 m.far, .int .i64 m.post, .int .i64 m.way]
def cmpM (x y : Mrk) : Int := orI (cmpI x.far y.far) (cmpI x.post y.post)

set_option maxRecDepth 100000 in
set_option maxHeartbeats 2000000 in
theorem markCompare_any (x y : Mrk) (w : World) : Calls Tryz.prog 51 #[.agg #[.int .i64 x.far, .int .i64 x.post, .int .i64 x.way], .agg #[.int .i64 y.far, .int .i64 y.post, .int .i64 y.way]] w fun e w' => e = .returned (.int .i64 (cmpM x y)) ∧ ∃ q os, w' = Sort.grow (w.drewN q) os := by
 obtain ⟨xf, xp, xy⟩ := x
 obtain ⟨yf, yp, yy⟩ := y
 dsimp only
 unfold cmpM
 dsimp only
 obtain ⟨c1, hc1⟩ : ∃ c, cmpI xf yf = c := ⟨_, rfl⟩
 obtain ⟨c2, hc2⟩ : ∃ c, cmpI xp yp = c := ⟨_, rfl⟩
 have H1 : ∀ W : World, Calls Tryz.prog 89 #[.int .i64 xf, .int .i64 yf] W fun e w' => e = .returned (.int .i64 c1) ∧ w' = W := fun W => hc1 ▸ compare_any xf yf W
 have H2 : ∀ W : World, Calls Tryz.prog 89 #[.int .i64 xp, .int .i64 yp] W fun e w' => e = .returned (.int .i64 c2) ∧ w' = W := fun W => hc2 ▸ compare_any xp yp W
 rw [hc1, hc2]
 have H1' := hide H1
 have H2' := hide H2
 clear hc1 hc2 H1 H2
 go_enter Tryz.func51, Tryz.ntmps51
 go_upto_region 1 with fail
 have e1 : ¬ w.heap.size + 1 = w.heap.size := by omega
 have e2 : ¬ w.heap.size = w.heap.size + 1 := by omega
 go_region_held3 (fun w' => w'.cell? ⟨w.heap.size, 0, none⟩ = some (.int .i64 xf) ∧ w'.cell? ⟨w.heap.size, 1, none⟩ = some (.int .i64 xp) ∧ w'.cell? ⟨w.heap.size + 1, 0, none⟩ = some (.int .i64 yf) ∧ w'.cell? ⟨w.heap.size + 1, 1, none⟩ = some (.int .i64 yp))
  (((try dsimp only); (repeat' apply And.intro)) <;> (go_keep; done))
  (first
   | (go_at_call_of 89 (Value.int IntKind.i64 xf); refine (unhide H1' _).mono ?_; rintro e w1 ⟨rfl, rfl⟩)
   | (go_at_call_of 89 (Value.int IntKind.i64 xp); refine (unhide H2' _).mono ?_; rintro e w1 ⟨rfl, rfl⟩)
   | (go_at_call 88; refine (or_any c1 c2 _ _ ?o1 ?o2 ?o3).mono ?_; (case o1 => exact ((boxedN _ _ _ (by simp)).drew).2.1 0 _ rfl); (case o2 => exact ((boxedN _ _ _ (by simp)).drew).2.1 1 _ rfl); (case o3 => exact ((boxedN _ _ _ (by simp)).drew).1); rintro e w1 ⟨rfl, rfl⟩))
 go_wp2_with fail
 go_ret
 exact ⟨rfl, 1, #[.cells #[.int .i64 xf, .int .i64 xp, .int .i64 xy] 121, .cells #[.int .i64 yf, .int .i64 yp, .int .i64 yy] 121, .cells #[.int .i64 c1, .int .i64 c2] 3], by rw [Sort.alloc_eq_grow, Sort.alloc_eq_grow, Sort.alloc_eq_grow, Sort.grow_grow, Sort.grow_grow]; rfl⟩

theorem compareFar_any (x : Mrk) (f : Int) (w : World) : Calls Tryz.prog 53 #[.agg #[.int .i64 x.far, .int .i64 x.post, .int .i64 x.way], .int .i64 f] w fun e w' => e = .returned (.int .i64 (cmpI x.far f)) ∧ Below w.heap.size w w' := by
 obtain ⟨c1, hc1⟩ : ∃ c, cmpI x.far f = c := ⟨_, rfl⟩
 have H1 : ∀ W : World, Calls Tryz.prog 89 #[.int .i64 x.far, .int .i64 f] W fun e w' => e = .returned (.int .i64 c1) ∧ w' = W := fun W => hc1 ▸ compare_any x.far f W
 rw [hc1]
 have H1' := hide H1
 clear hc1 H1
 go_enter Tryz.func53, Tryz.ntmps53
 go_wp2_with fail
 refine (unhide H1' _).mono ?_
 rintro e w1 ⟨rfl, rfl⟩
 go_wp2_with fail
 go_ret
 exact ⟨rfl, bw0⟩

def MksAt (w : World) (a : Option Addr) (ms : List Mrk) : Prop := ∀ j (h : j < ms.length), ∃ b off, a = some ⟨b, off, none⟩ ∧ b < w.heap.size ∧ w.cell? ⟨b, off + j * 3, none⟩ = some (.int .i64 ms[j].far) ∧ w.cell? ⟨b, off + j * 3 + 1, none⟩ = some (.int .i64 ms[j].post) ∧ w.cell? ⟨b, off + j * 3 + 2, none⟩ = some (.int .i64 ms[j].way)
theorem MksAt.same {w w' : World} {a : Option Addr} {ms : List Mrk} (h : MksAt w a ms) (hs : w.heap.size ≤ w'.heap.size) (hb : ∀ b off, a = some ⟨b, off, none⟩ → b < w.heap.size → w'.heap[b]? = w.heap[b]?) : MksAt w' a ms := fun j hj => by
 obtain ⟨b, off, e, hl, h1, h2, h3⟩ := h j hj
 have hk := hb b off e hl
 have hc : ∀ o, w'.cell? ⟨b, o, none⟩ = w.cell? ⟨b, o, none⟩ := fun o => World.cell?_of_block (w := w) (a := ⟨b, o, none⟩) hk
 exact ⟨b, off, e, Nat.lt_of_lt_of_le hl hs, (hc _).trans h1, (hc _).trans h2, (hc _).trans h3⟩
theorem MksAt.below {w w' : World} {a : Option Addr} {ms : List Mrk} (h : MksAt w a ms) (hb : Below w.heap.size w w') : MksAt w' a ms := h.same hb.size fun b _ _ hl => hb.block b hl
def MkFit (m : Mrk) : Prop := -200000 ≤ m.far ∧ m.far ≤ 200000
def WhFit (v : Wh) : Prop := (0 ≤ v.axle ∧ v.axle ≤ 1000) ∧ (0 ≤ v.back ∧ v.back ≤ 200000) ∧ v.ms ≠ [] ∧ ∀ m ∈ v.ms, MkFit m
set_option maxRecDepth 100000 in
theorem next_any' (v : Wh) (a : Option Addr) (cap : Nat) (w : World) (hm : MksAt w a v.ms) (hf : WhFit v) : Calls Tryz.prog 92 #[.agg #[.int .i64 v.axle, .int .i64 v.back, .slice a v.ms.length cap]] w fun e w' => e = .returned (.int .i64 v.next) ∧ Below w.heap.size w w' := by
 obtain ⟨ax, bk, ms⟩ := v
 obtain ⟨_, ⟨hb0, hb1⟩, hne, hfit⟩ := hf
 cases ms with
 | nil => exact absurd rfl hne
 | cons m r =>
  have hmf : MkFit m := hfit m List.mem_cons_self
  unfold MkFit at hmf
  obtain ⟨b, off, rfl, hl, h1, _, _⟩ := hm 0 (by simp)
  simp only [List.getElem_cons_zero, Nat.zero_mul, Nat.add_zero] at h1
  dsimp only at hb0 hb1
  have e1 : IntKind.i64.wrap (m.far + bk) = m.far + bk := wrap_small (by omega) (by omega)
  have hlt : b < w.heap.size := hl
  have hne1 : ¬ b = w.heap.size := by omega
  have hlen : (0 : Int) < ((m :: r).length : Int) := by rw [List.length_cons]; omega
  obtain ⟨N, hN⟩ : ∃ N, (m :: r).length = N := ⟨_, rfl⟩
  have hnx : Wh.next ⟨ax, bk, m :: r⟩ = m.far + bk := rfl
  rw [hnx]
  dsimp only
  rw [hN] at hlen ⊢
  have hN0 : 0 < N := by omega
  clear hN hm hfit hne
  go_enter Tryz.func92, Tryz.ntmps92
  go_wp2_with fail
  go_quiet (fail)
  go_wp2_with fail
  go_ret
  exact ⟨rfl, bw0⟩

end Go.Proofs.YtjacbppeebnjfaaGreat

set_option linter.unusedSimpArgs false
namespace Go.Proofs.YtjacbppeebnjfaaGreat
open Go.RowKit

instance (v u : Wh) : Decidable (bef v u) := by unfold bef; infer_instance
theorem bef_cmp (v u : Wh) : decide (orI (cmpI v.next u.next) (cmpI v.axle u.axle) < 0) = decide (bef v u) := by
 unfold orI cmpI bef
 by_cases h1 : v.next < u.next
 ·simp [h1]
 ·by_cases h2 : u.next < v.next
  ·have : ¬ v.next = u.next := by omega
   simp [h1, h2, this]
  ·have e : v.next = u.next := by omega
   by_cases h3 : v.axle < u.axle
   ·simp [e, h3]
   ·by_cases h4 : u.axle < v.axle <;> simp [e, h3, h4]
set_option maxRecDepth 100000 in
set_option maxHeartbeats 4000000 in
theorem before_any (v u : Wh) (a b : Option Addr) (k l : Nat) (w : World) (hm : MksAt w a v.ms) (hn : MksAt w b u.ms) (hf : WhFit v) (hg : WhFit u) : Calls Tryz.prog 155 #[.agg #[.int .i64 v.axle, .int .i64 v.back, .slice a v.ms.length k], .agg #[.int .i64 u.axle, .int .i64 u.back, .slice b u.ms.length l]] w fun e w' => e = .returned (.bool (decide (bef v u))) ∧ Below w.heap.size w w' := by
 rw [← bef_cmp]
 obtain ⟨c1, hc1⟩ : ∃ c, cmpI v.next u.next = c := ⟨_, rfl⟩
 obtain ⟨c2, hc2⟩ : ∃ c, cmpI v.axle u.axle = c := ⟨_, rfl⟩
 have H1 : ∀ W : World, Below w.heap.size w W → Calls Tryz.prog 92 #[.agg #[.int .i64 v.axle, .int .i64 v.back, .slice a v.ms.length k]] W fun e w' => e = .returned (.int .i64 v.next) ∧ Below W.heap.size W w' := fun W hb => next_any' v a k W (hm.below hb) hf
 have H2 : ∀ W : World, Below w.heap.size w W → Calls Tryz.prog 92 #[.agg #[.int .i64 u.axle, .int .i64 u.back, .slice b u.ms.length l]] W fun e w' => e = .returned (.int .i64 u.next) ∧ Below W.heap.size W w' := fun W hb => next_any' u b l W (hn.below hb) hg
 have H3 : ∀ W : World, Calls Tryz.prog 89 #[.int .i64 v.next, .int .i64 u.next] W fun e w' => e = .returned (.int .i64 c1) ∧ w' = W := fun W => hc1 ▸ compare_any v.next u.next W
 have H4 : ∀ W : World, Calls Tryz.prog 89 #[.int .i64 v.axle, .int .i64 u.axle] W fun e w' => e = .returned (.int .i64 c2) ∧ w' = W := fun W => hc2 ▸ compare_any v.axle u.axle W
 rw [hc1, hc2]
 generalize v.next = vn at *
 generalize u.next = un at *
 generalize v.axle = va at *
 generalize u.axle = ua at *
 generalize v.back = vb at *
 generalize u.back = ub at *
 generalize v.ms.length = vl at *
 generalize u.ms.length = ul at *
 have H1' := hide H1
 have H2' := hide H2
 have H3' := hide H3
 have H4' := hide H4
 clear hc1 hc2 H1 H2 H3 H4 hm hn hf hg
 go_enter Tryz.func155, Tryz.ntmps155
 go_upto_region 1 with fail
 have e1 : ¬ w.heap.size + 1 = w.heap.size := by omega
 have e2 : ¬ w.heap.size = w.heap.size + 1 := by omega
 go_region_held3 (fun w' => w'.cell? ⟨w.heap.size, 0, none⟩ = some (.int .i64 va) ∧ w'.cell? ⟨w.heap.size, 1, none⟩ = some (.int .i64 vb) ∧ w'.cell? ⟨w.heap.size, 2, none⟩ = some (.slice a vl k) ∧ w'.cell? ⟨w.heap.size + 1, 0, none⟩ = some (.int .i64 ua) ∧ w'.cell? ⟨w.heap.size + 1, 1, none⟩ = some (.int .i64 ub) ∧ w'.cell? ⟨w.heap.size + 1, 2, none⟩ = some (.slice b ul l))
  (((try dsimp only); (repeat' apply And.intro)) <;> (go_keep; done))
  (first
   | (go_at_call_of 92 (Value.agg #[Value.int IntKind.i64 va, Value.int IntKind.i64 vb, Value.slice a vl k]); refine (unhide H1' _ bw0).mono ?_; rintro e w1 ⟨rfl, hb1⟩; obtain ⟨hc1, hf1⟩ := bcell hb1; have sz1 := hb1.size; (try simp at sz1); have q0 := hc1 (w.heap.size) (0) (by first | (simp; done) | (simp; omega) | omega); have q1 := hc1 (w.heap.size) (1) (by first | (simp; done) | (simp; omega) | omega); have q2 := hc1 (w.heap.size) (2) (by first | (simp; done) | (simp; omega) | omega); have q3 := hc1 (w.heap.size+1) (0) (by first | (simp; done) | (simp; omega) | omega); have q4 := hc1 (w.heap.size+1) (1) (by first | (simp; done) | (simp; omega) | omega); have q5 := hc1 (w.heap.size+1) (2) (by first | (simp; done) | (simp; omega) | omega))
   | (go_at_call_of 92 (Value.agg #[Value.int IntKind.i64 ua, Value.int IntKind.i64 ub, Value.slice b ul l]); refine (unhide H2' _ (below_then bw0 hb1)).mono ?_; rintro e w2 ⟨rfl, hb2⟩; obtain ⟨hc2, hf2⟩ := bcell hb2; have sz2 := hb2.size; (try simp at sz2); have r0 := hc2 (w.heap.size) (0) (by first | (have := hb1.size; omega) | (have := hb1.size; simp at this ⊢; omega) | (simp; omega)); have r1 := hc2 (w.heap.size) (1) (by first | (have := hb1.size; omega) | (have := hb1.size; simp at this ⊢; omega) | (simp; omega)); have r2 := hc2 (w.heap.size) (2) (by first | (have := hb1.size; omega) | (have := hb1.size; simp at this ⊢; omega) | (simp; omega)); have r3 := hc2 (w.heap.size+1) (0) (by first | (have := hb1.size; omega) | (have := hb1.size; simp at this ⊢; omega) | (simp; omega)); have r4 := hc2 (w.heap.size+1) (1) (by first | (have := hb1.size; omega) | (have := hb1.size; simp at this ⊢; omega) | (simp; omega)); have r5 := hc2 (w.heap.size+1) (2) (by first | (have := hb1.size; omega) | (have := hb1.size; simp at this ⊢; omega) | (simp; omega)))
   | (go_at_call_of 89 (Value.int IntKind.i64 vn); refine (unhide H3' _).mono ?_; rintro e w3 ⟨rfl, rfl⟩)
   | (go_at_call_of 89 (Value.int IntKind.i64 va); refine (unhide H4' _).mono ?_; rintro e w4 ⟨rfl, rfl⟩)
   | (go_at_call 88; refine (or_any c1 c2 _ _ ?o1 ?o2 ?o3).mono ?_; (case o1 => first | exact (boxedN _ _ _ (by simp)).2.1 0 _ rfl | exact ((boxedN _ _ _ (by simp)).drew).2.1 0 _ rfl); (case o2 => first | exact (boxedN _ _ _ (by simp)).2.1 1 _ rfl | exact ((boxedN _ _ _ (by simp)).drew).2.1 1 _ rfl); (case o3 => first | exact (boxedN _ _ _ (by simp)).1 | exact ((boxedN _ _ _ (by simp)).drew).1); rintro e w5 ⟨rfl, rfl⟩))
 all_goals go_wp2_with fail
 all_goals go_ret
 all_goals exact ⟨rfl, below_then (below_then (below_then bw0 hb1) hb2) bw0⟩
def befName : String := String.ofList ([108, 111, 111, 112, 46, 101, 120, 97, 109, 112, 108, 101, 47, 102, 111, 111, 116, 112, 108, 97, 116, 101, 47, 105, 109, 112, 108, 46, 98, 101, 102, 111, 114, 101].map Char.ofNat)
def nmAt (l : List Oper) (k : Nat) : String :=
 match l[k]? with
 | some o => (match o.op with | .call c => (match c.callee with | .invoke _ s => s | _ => default) | _ => default)
 | none => default
def MethBef (nm : String) : Prop := ∀ (x y : Int) (s : Option Addr) (m c : Nat) (W : World), (method 355 133 (.agg #[.int .i64 x, .int .i64 y, .slice s m c]) nm).run Tryz.prog W = .ok (155, .agg #[.int .i64 x, .int .i64 y, .slice s m c]) W
theorem meth_bef : MethBef befName := by
 intro x y s m c W
 kernel_rfl
theorem region_named {P : Program} {id : Nat} {Q : Exit → Act → World → Prop} {a : Act} {w : World} {l : List Oper} (k : Nat) (hn : nmAt l k = befName) (h : MethBef (nmAt l k) → (Code.region id l.toArray true).wp P Q a w) : (Code.region id l.toArray true).wp P Q a w := h (by rw [hn]; exact meth_bef)

end Go.Proofs.YtjacbppeebnjfaaGreat

