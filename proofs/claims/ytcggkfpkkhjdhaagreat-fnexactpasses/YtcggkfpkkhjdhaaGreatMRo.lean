import Derived.Test.YtcggkfpkkhjdhaaGreatMPlain
import Derived.Deep.RegionHeld
import Derived.Test.YtcggkfpkkhjdhaaGreatPs4
import Derived.Test.YtcggkfpkkhjdhaaGreatMEq
import Derived.Test.YtcggkfpkkhjdhaaGreatMPlain2
import Derived.Sort.Grow
import Derived.Deep.RegionHeld3
namespace Go.Proofs.YtcggkfpkkhjdhaaGreat
open Go

/-! ### A region whose last operation stores into a field that the region loads -/

/-- Whatever order is picked; as long as number l has not come up, S holds. -/
def wpAnyL (P : Program) (md : Region.Mode) (ops : Array Oper) (Q : Exit → Act → World → Prop) (S : World → Prop) (l : Nat) : Nat → Array Bool → Act → World → Prop
  | 0, listed, a, w => Region.ready md ops listed = [] ∧ Q .normal a w
  | fuel + 1, listed, a, w => (Region.ready md ops listed = [] → Q .normal a w) ∧ ∀ i ∈ Region.ready md ops listed, wpOp P ops Q i (fun a' w' => (i ≠ l → S w') ∧ wpAnyL P md ops Q S l fuel (listed.setIfInBounds i true) a' w') a w

section
variable {P : Program} {ops : Array Oper} {Q : Exit → Act → World → Prop} {md : Region.Mode} {S : World → Prop} {l : Nat}

theorem wpAny_of_l : ∀ (fuel : Nat) (listed : Array Bool) (a : Act) (w : World), wpAnyL P md ops Q S l fuel listed a w → wpAny P md ops Q fuel listed a w
  | 0, _, _, _, h => h
  | fuel + 1, _, _, _, h => ⟨h.1, fun i hi => wpOp_mono (fun a' w' h' => wpAny_of_l fuel _ a' w' h'.2) (h.2 i hi)⟩

/-- Whoever has come up came up behind what it waits for. -/
def closedB (md : Region.Mode) (ops : Array Oper) (listed : Array Bool) : Bool :=
  (List.range ops.size).all fun k => !listed.getD k false || match ops[k]? with
    | some o => o.after.all fun e => !Region.binds md e || listed.getD e.on false
    | none => true
def Closed (md : Region.Mode) (ops : Array Oper) (listed : Array Bool) : Prop :=
  ∀ (k : Nat) (o : Oper), ops[k]? = some o → listed.getD k false = true → ∀ e ∈ o.after, Region.binds md e = true → listed.getD e.on false = true
theorem closed_of {listed : Array Bool} (h : closedB md ops listed = true) : Closed md ops listed := by
  intro k o ho hl e he hb
  unfold closedB at h
  have h1 := List.all_eq_true.1 h k (List.mem_range.2 (Array.getElem?_eq_some_iff.1 ho).1)
  rw [ho, hl] at h1
  simp only [Bool.not_true, Bool.false_or] at h1
  have h2 := Array.all_eq_true_iff_forall_mem.1 h1 e he
  rw [hb] at h2
  simpa using h2
theorem Closed.set {listed : Array Bool} {j : Nat} (h : Closed md ops listed) (hj : j ∈ Region.ready md ops listed) : Closed md ops (listed.setIfInBounds j true) := by
  intro k o ho hl e he hb
  by_cases hjk : j = k
  · subst hjk
    obtain ⟨_, o', ho', hall⟩ := mem_ready.1 hj
    rw [ho] at ho'
    cases ho'
    exact getD_set_true (hall e he hb)
  · rw [getD_set_ne false hjk] at hl
    exact getD_set_true (h k o ho hl e he hb)
/-- Each of the path waits for the one before it. -/
def chainB (md : Region.Mode) (ops : Array Oper) : List Nat → Bool
  | [] => true
  | [_] => true
  | i :: k :: r => (match ops[k]? with | some o => o.after.any (fun e => Region.binds md e && e.on == i) | none => false) && chainB md ops (k :: r)
theorem chain_listed {listed : Array Bool} (hc : Closed md ops listed) (hl : l ∈ Region.ready md ops listed) : ∀ (r : List Nat) (i : Nat), chainB md ops (i :: r) = true → (i :: r).getLast? = some l → r ≠ [] → listed.getD i false = true := by
  intro r
  induction r with
  | nil => intro i _ _ h; exact absurd rfl h
  | cons k r ih =>
    intro i hch hlast _
    simp only [chainB, Bool.and_eq_true] at hch
    obtain ⟨h1, h2⟩ := hch
    have hk : ∀ o, ops[k]? = some o → ∀ e ∈ o.after, Region.binds md e = true → listed.getD e.on false = true := by
      intro o ho
      by_cases hr : r = []
      · subst hr
        simp at hlast
        subst hlast
        obtain ⟨_, o', ho', hall⟩ := mem_ready.1 hl
        rw [ho] at ho'
        cases ho'
        exact hall
      · exact hc k o ho (ih k h2 (by rw [← hlast]; simp) hr)
    cases ho : ops[k]? with
    | none => rw [ho] at h1; simp at h1
    | some o =>
      rw [ho] at h1
      simp only [Array.any_eq_true', Bool.and_eq_true, beq_iff_eq] at h1
      obtain ⟨e, he, h3⟩ := h1
      have := hk o ho e he h3.1
      rw [h3.2] at this
      exact this

theorem wpAnyL_first {i : Nat} {oi : Oper} {v : Value} {path : List Nat} (hi : ops[i]? = some oi) (hsel : ∀ (j : Nat) (o : Oper) cs b, ops[j]? = some o → o.op ≠ .select cs b)
    (hQ : ∀ c a w, Q (.panic c) (a.put oi.dst v) w → Q (.panic c) a w) (hch : chainB md ops (i :: path) = true) (hlast : (i :: path).getLast? = some l) (hpath : path ≠ []) :
    ∀ (fuel : Nat) (listed : Array Bool) (a : Act) (w : World), Closed md ops listed →
      (∀ j oj, ops[j]? = some oj → j ≠ i → listed.getD j true = false → (∀ e ∈ oj.after, Region.binds md e = true → e.on ≠ i) → oi.apart ops oj = true) →
      i ∈ Region.ready md ops listed → YieldsIf P ops S oi v a → S w →
      wpAnyL P md ops Q S l fuel (listed.setIfInBounds i true) (a.put oi.dst v) w → wpAnyL P md ops Q S l (fuel + 1) listed a w := by
  intro fuel
  induction fuel with
  | zero =>
    intro listed a w _ _ hr hy hS H
    refine ⟨fun h => (by rw [h] at hr; cases hr), fun j hj => ?_⟩
    by_cases hji : j = i
    · subst hji; exact hy.wpOp hi hS ⟨fun _ => hS, H⟩
    · have := ready_mono hj hji
      rw [H.1] at this
      cases this
  | succ fuel ih =>
    intro listed a w hcl hfree hr hy hS H
    refine ⟨fun h => (by rw [h] at hr; cases hr), fun j hj => ?_⟩
    by_cases hji : j = i
    · subst hji; exact hy.wpOp hi hS ⟨fun _ => hS, H⟩
    · have hun := (mem_ready.1 hr).1
      have hjl : j ≠ l := fun e => by
        subst e
        have h1 := chain_listed hcl hj path i hch hlast hpath
        rcases Nat.lt_or_ge i listed.size with h' | h'
        · simp [h'] at hun h1; rw [hun] at h1; cases h1
        · simp [Array.getElem?_eq_none h'] at h1
      have h1 := H.2 j (ready_mono hj hji)
      obtain ⟨hjun, oj, hoj, hall⟩ := mem_ready.1 hj
      have hnot : ∀ e ∈ oj.after, Region.binds md e = true → e.on ≠ i := fun e he hb heq => by
        have h1 := hall e he hb
        rw [heq] at h1
        rcases Nat.lt_or_ge i listed.size with h' | h'
        · simp [h'] at hun h1; rw [hun] at h1; cases h1
        · simp [Array.getElem?_eq_none h'] at h1
      have h2 := wpOp_putIf hoj (hfree j oj hoj hji hjun hnot) (fun cs b => hsel i oi cs b hi) (fun cs b => hsel j oj cs b hoj) hQ hy h1
      have hfree' : ∀ k ok, ops[k]? = some ok → k ≠ i → (listed.setIfInBounds j true).getD k true = false →
          (∀ e ∈ ok.after, Region.binds md e = true → e.on ≠ i) → oi.apart ops ok = true := fun k ok hk hki hun hno => by
        refine hfree k ok hk hki ?_ hno
        by_cases hjk : j = k
        · subst hjk; exact hjun
        · rw [getD_set_ne true hjk] at hun; exact hun
      refine wpOp_mono (fun a' w' h3 => ⟨h3.2.1, ih (listed.setIfInBounds j true) a' w' (hcl.set hj) hfree' (ready_mono hr (Ne.symm hji)) h3.1 (h3.2.1 hjl) ?_⟩) h2
      rw [Array.setIfInBounds_comm _ _ hji]
      exact h3.2.2

/-- Take number i first: the path leads from it to the last. -/
theorem wpAnyL_take {i : Nat} (path : List Nat) {oi : Oper} {v : Value} {fuel : Nat} {listed : Array Bool} {a : Act} {w : World} (hi : ops[i]? = some oi)
    (hs : (Region.noSelect ops && Region.free md ops listed i && (Region.ready md ops listed).contains i && closedB md ops listed && chainB md ops (i :: path)) = true) (hlast : (i :: path).getLast? = some l) (hpath : path ≠ [])
    (hQ : ∀ c a w, Q (.panic c) (a.put oi.dst v) w → Q (.panic c) a w) (hy : YieldsIf P ops S oi v a) (hS : S w)
    (h : wpAnyL P md ops Q S l fuel (listed.setIfInBounds i true) (a.put oi.dst v) w) : wpAnyL P md ops Q S l (fuel + 1) listed a w := by
  simp only [Bool.and_eq_true] at hs
  obtain ⟨⟨⟨⟨h1, h2⟩, h3⟩, h4⟩, h5⟩ := hs
  exact wpAnyL_first hi (Region.noSelect_spec h1) hQ h5 hlast hpath fuel listed a w (closed_of h4) (Region.free_spec hi h2) (by simpa using h3) hy hS h
theorem wpAnyL_done {listed : Array Bool} {a : Act} {w : World} (hr : Region.ready md ops listed = []) (h : Q .normal a w) : ∀ fuel, wpAnyL P md ops Q S l fuel listed a w
  | 0 => ⟨hr, h⟩
  | _ + 1 => ⟨fun _ => h, by rw [hr]; simp⟩
def AllReadyL (P : Program) (md : Region.Mode) (ops : Array Oper) (Q : Exit → Act → World → Prop) (S : World → Prop) (l : Nat) (fuel : Nat) (listed : Array Bool) (a : Act) (w : World) (rs : List Nat) : Prop :=
  ∀ i ∈ rs, wpOp P ops Q i (fun a' w' => (i ≠ l → S w') ∧ wpAnyL P md ops Q S l fuel (listed.setIfInBounds i true) a' w') a w
theorem AllReadyL.nil {fuel : Nat} {listed : Array Bool} {a : Act} {w : World} : AllReadyL P md ops Q S l fuel listed a w [] := fun _ h => by cases h
theorem AllReadyL.cons {fuel : Nat} {listed : Array Bool} {a : Act} {w : World} {i : Nat} {o : Oper} {rs : List Nat} (ho : ops[i]? = some o)
    (h : ∀ K' : Act → World → Prop, Shut (∀ a w, (i ≠ l → S w) → ((i ≠ l → S w) → wpAnyL P md ops Q S l fuel (listed.setIfInBounds i true) a w) → K' a w) → if Region.wanted o (yielded ops a.tmps) = true then Oper.wp P o a w K' Q else K' (a.put o.dst undef) w)
    (hs : AllReadyL P md ops Q S l fuel listed a w rs) : AllReadyL P md ops Q S l fuel listed a w (i :: rs) := fun j hj => by
  rcases List.mem_cons.1 hj with rfl | hj
  · exact wpOp_step ho (fun K' hK => h K' (fun a w hS hW => hK a w ⟨hS, hW hS⟩))
  · exact hs j hj
theorem wpAnyL_ready {rs : List Nat} {fuel : Nat} {listed : Array Bool} {a : Act} {w : World} (hr : Region.ready md ops listed = rs) (hne : rs ≠ [])
    (h : AllReadyL P md ops Q S l fuel listed a w rs) : wpAnyL P md ops Q S l (fuel + 1) listed a w := ⟨fun h0 => absurd (hr ▸ h0) hne, hr ▸ h⟩
theorem wp_region_last {id : Nat} {a : Act} {w : World} (l : Nat) (hm : P.follows .mixedOrders = true) (hS : S w.drew)
    (h : S w.drew → wpAnyL P .any ops Q S l ops.size (Array.replicate ops.size false) a w.drew) : (Code.region id ops true).wp P Q a w :=
  wp_region_any hm (wpAny_of_l _ _ _ _ (h hS))
end
end Go.Proofs.YtcggkfpkkhjdhaaGreat

namespace Go.Proofs.YtcggkfpkkhjdhaaGreat
open Go

/-! ### Taking an operation of a region first: all but the number is found by itself -/

theorem tkH {P : Program} {md : Region.Mode} {ops : Array Oper} {Q : Exit → Act → World → Prop} {S : World → Prop} (i : Nat) {oi : Oper} {v : Value} {fuel : Nat} {listed : Array Bool} {a a' : Act} {w : World} (h : wpAnyH P md ops Q S fuel (listed.setIfInBounds i true) a' w)
    (hi : ops[i]? = some oi := by rfl) (hs : (Region.noSelect ops && Region.free md ops listed i && (Region.ready md ops listed).contains i) = true := by kernel_rfl) (hQ : ∀ c a w, Q (.panic c) (a.put oi.dst v) w → Q (.panic c) a w := by exact fun _ _ _ h => h)
    (hg : Region.wanted oi (yielded ops a.tmps) = true := by rfl) (hy : ∀ w, S w → (execOp a.eval oi).run P w = .ok (.value v) w := by (intro w0 hSw; (try dsimp only at hSw); go_simp; (try with_reducible rfl))) (hS : S w := by assumption)
    (ha : a.put oi.dst v = a' := by (simp only [Act.put, List.getElem_toArray, List.getElem_cons_zero, List.getElem_cons_succ, List.setIfInBounds_toArray, List.set_cons_zero, List.set_cons_succ]; rfl)) : wpAnyH P md ops Q S (fuel + 1) listed a w := by
  simp only [Bool.and_eq_true] at hs
  obtain ⟨⟨h1, h2⟩, h3⟩ := hs
  exact wpAnyH_take hi h1 h2 h3 hQ (Or.inl ⟨hg, hy⟩) hS (ha ▸ h)
theorem tkL {P : Program} {md : Region.Mode} {ops : Array Oper} {Q : Exit → Act → World → Prop} {S : World → Prop} {l : Nat} (i : Nat) (path : List Nat) {oi : Oper} {v : Value} {fuel : Nat} {listed : Array Bool} {a a' : Act} {w : World} (h : wpAnyL P md ops Q S l fuel (listed.setIfInBounds i true) a' w)
    (hi : ops[i]? = some oi := by rfl) (hs : (Region.noSelect ops && Region.free md ops listed i && (Region.ready md ops listed).contains i && closedB md ops listed && chainB md ops (i :: path)) = true := by kernel_rfl) (hl : (i :: path).getLast? = some l := by rfl) (hp : path ≠ [] := by simp) (hQ : ∀ c a w, Q (.panic c) (a.put oi.dst v) w → Q (.panic c) a w := by exact fun _ _ _ h => h)
    (hg : Region.wanted oi (yielded ops a.tmps) = true := by rfl) (hy : ∀ w, S w → (execOp a.eval oi).run P w = .ok (.value v) w := by (intro w0 hSw; (try dsimp only at hSw); go_simp; (try with_reducible rfl))) (hS : S w := by assumption)
    (ha : a.put oi.dst v = a' := by (simp only [Act.put, List.getElem_toArray, List.getElem_cons_zero, List.getElem_cons_succ, List.setIfInBounds_toArray, List.set_cons_zero, List.set_cons_succ]; rfl)) : wpAnyL P md ops Q S l (fuel + 1) listed a w :=
  wpAnyL_take path hi hs hl hp hQ (Or.inl ⟨hg, hy⟩) hS (ha ▸ h)
/-- An operation whose guard says no. -/
theorem tkU {P : Program} {md : Region.Mode} {ops : Array Oper} {Q : Exit → Act → World → Prop} {S : World → Prop} (i : Nat) {oi : Oper} {fuel : Nat} {listed : Array Bool} {a a' : Act} {w : World} (h : wpAnyH P md ops Q S fuel (listed.setIfInBounds i true) a' w)
    (hi : ops[i]? = some oi := by rfl) (hs : (Region.noSelect ops && Region.free md ops listed i && (Region.ready md ops listed).contains i) = true := by kernel_rfl) (hQ : ∀ c a w, Q (.panic c) (a.put oi.dst undef) w → Q (.panic c) a w := by exact fun _ _ _ h => h)
    (hg : Region.wanted oi (yielded ops a.tmps) = false := by rfl) (hS : S w := by assumption)
    (ha : a.put oi.dst undef = a' := by (simp only [Act.put, List.getElem_toArray, List.getElem_cons_zero, List.getElem_cons_succ, List.setIfInBounds_toArray, List.set_cons_zero, List.set_cons_succ]; rfl)) : wpAnyH P md ops Q S (fuel + 1) listed a w := by
  simp only [Bool.and_eq_true] at hs
  obtain ⟨⟨h1, h2⟩, h3⟩ := hs
  exact wpAnyH_take hi h1 h2 h3 hQ (Or.inr ⟨hg, rfl⟩) hS (ha ▸ h)

/-- What a frame is behind a value put into a slot: rules for simp. -/
theorem sA : (∀ (a : Act) (d : Tmp) (v : Value), a.put (some d) v = { a with tmps := a.tmps.setIfInBounds d v }) ∧ (∀ (a : Act) (v : Value), a.put none v = a) ∧ (∀ (l : List Value) (i : Nat) (v : Value), l.toArray.setIfInBounds i v = (l.set i v).toArray) ∧ (∀ (x y : Value) (l : List Value), (x :: l).set 0 y = y :: l) ∧ ∀ (x y : Value) (l : List Value) (i : Nat), (x :: l).set (i + 1) y = x :: l.set i y :=
  ⟨fun _ _ _ => rfl, fun _ _ => rfl, fun l i v => by simp, fun _ _ _ => rfl, fun _ _ _ _ => rfl⟩

end Go.Proofs.YtcggkfpkkhjdhaaGreat

set_option linter.unusedSimpArgs false
namespace Go.Proofs.YtcggkfpkkhjdhaaGreat
open Go.RowKit

/-! ### Comparing -/

def cmpI (a b : Int) : Int := if a < b then -1 else if b < a then 1 else 0
def orI (a b : Int) : Int := if a = 0 then b else a
theorem nan_any (a : Int) (w : World) : Calls Tryz.prog 144 #[.int .i64 a] w fun e w' => e = .returned (.bool false) ∧ w' = w := by
  go_enter Tryz.func144, Tryz.ntmps144
  go_wp2_with fail
  go_ret
  exact ⟨rfl, rfl⟩
theorem compare_any (a b : Int) (w : World) : Calls Tryz.prog 117 #[.int .i64 a, .int .i64 b] w fun e w' => e = .returned (.int .i64 (cmpI a b)) ∧ w' = w := by
  unfold cmpI
  go_enter Tryz.func117, Tryz.ntmps117
  go_wp2_with fail
  refine (nan_any _ _).mono ?_
  rintro e w1 ⟨rfl, rfl⟩
  go_wp2_with fail
  refine (nan_any _ _).mono ?_
  rintro e w1 ⟨rfl, rfl⟩
  by_cases h1 : a < b
  · go_wp2_with fail
    go_ret
    exact ⟨by simp [h1], rfl⟩
  · by_cases h2 : b < a
    · go_wp2_with fail
      go_ret
      exact ⟨by simp [h1, h2], rfl⟩
    · go_wp2_with fail
      go_ret
      exact ⟨by simp [h1, h2], rfl⟩
set_option maxRecDepth 100000 in
theorem or_any (a b : Int) (g : Nat) (w : World) (h0 : w.cell? ⟨g, 0, none⟩ = some (.int .i64 a)) (h1 : w.cell? ⟨g, 1, none⟩ = some (.int .i64 b)) (hl : g < w.heap.size) : Calls Tryz.prog 116 #[.slice (some ⟨g, 0, none⟩) 2 2] w fun e w' => e = .returned (.int .i64 (orI a b)) ∧ w' = w := by
  unfold orI
  go_enter Tryz.func116, Tryz.ntmps116
  go_wp2_with fail
  go_loopw [8] (fun z wr => wr = w ∧ ((z = .int .i64 0) ∨ (z = .int .i64 1 ∧ a = 0) ∨ (z = .int .i64 2 ∧ a = 0 ∧ b = 0))) (fun z _ => 2 - (intOf z).toNat)
  case atStart => exact ⟨rfl, Or.inl rfl⟩
  case round =>
    obtain ⟨rfl, rfl | ⟨rfl, ha⟩ | ⟨rfl, ha, hb⟩⟩ := hrel
    · by_cases ha : a = 0
      · have ha' : (a != 0) = false := by simp [ha]
        go_wp2_with fail
        exact ⟨by simp [ha], by simp [intOf]⟩
      · have ha' : (a != 0) = true := by simp [ha]
        go_wp2_with fail
        go_ret
        exact ⟨by simp [ha], rfl⟩
    · have HA := hide ha
      clear ha
      by_cases hb : b = 0
      · have hb' : (b != 0) = false := by simp [hb]
        go_wp2_with fail
        exact ⟨by simp [unhide HA, hb], by simp [intOf]⟩
      · have hb' : (b != 0) = true := by simp [hb]
        go_wp2_with fail
        go_ret
        exact ⟨by simp [unhide HA], rfl⟩
    · go_wp2_with fail
      go_ret
      exact ⟨by simp [ha, hb], rfl⟩
def mkF (m : Mrk) : List Value := [.int .i64 m.far, .int .i64 m.post, .int .i64 m.way]
def cmpM (x y : Mrk) : Int := orI (cmpI x.far y.far) (cmpI x.post y.post)

theorem below_grow (w : World) (k : Nat) (os : Array Obj) : Below w.heap.size w (Sort.grow (w.drewN k) os) :=
  ⟨rfl, rfl, rfl, by simp [Sort.grow, World.drewN], fun i hi => by simp [Sort.grow, World.drewN, Array.getElem?_append, hi]⟩
set_option maxRecDepth 100000 in
set_option maxHeartbeats 2000000 in
theorem markCompare_any (x y : Mrk) (w : World) : Calls Tryz.prog 82 #[.agg #[.int .i64 x.far, .int .i64 x.post, .int .i64 x.way], .agg #[.int .i64 y.far, .int .i64 y.post, .int .i64 y.way]] w fun e w' => e = .returned (.int .i64 (cmpM x y)) ∧ ∃ q os, w' = Sort.grow (w.drewN q) os := by
  obtain ⟨xf, xp, xy⟩ := x
  obtain ⟨yf, yp, yy⟩ := y
  dsimp only
  unfold cmpM
  dsimp only
  obtain ⟨c1, hc1⟩ : ∃ c, cmpI xf yf = c := ⟨_, rfl⟩
  obtain ⟨c2, hc2⟩ : ∃ c, cmpI xp yp = c := ⟨_, rfl⟩
  have H1 : ∀ W : World, Calls Tryz.prog 117 #[.int .i64 xf, .int .i64 yf] W fun e w' => e = .returned (.int .i64 c1) ∧ w' = W := fun W => hc1 ▸ compare_any xf yf W
  have H2 : ∀ W : World, Calls Tryz.prog 117 #[.int .i64 xp, .int .i64 yp] W fun e w' => e = .returned (.int .i64 c2) ∧ w' = W := fun W => hc2 ▸ compare_any xp yp W
  rw [hc1, hc2]
  have H1' := hide H1
  have H2' := hide H2
  clear hc1 hc2 H1 H2
  go_enter Tryz.func82, Tryz.ntmps82
  go_upto_region 1 with fail
  have e1 : ¬ w.heap.size + 1 = w.heap.size := by omega
  have e2 : ¬ w.heap.size = w.heap.size + 1 := by omega
  go_region_held3 (fun w' => w'.cell? ⟨w.heap.size, 0, none⟩ = some (.int .i64 xf) ∧ w'.cell? ⟨w.heap.size, 1, none⟩ = some (.int .i64 xp) ∧ w'.cell? ⟨w.heap.size + 1, 0, none⟩ = some (.int .i64 yf) ∧ w'.cell? ⟨w.heap.size + 1, 1, none⟩ = some (.int .i64 yp))
    (((try dsimp only); (repeat' apply And.intro)) <;> (go_keep; done))
    (first
      | (go_at_call_of 117 (Value.int IntKind.i64 xf); refine (unhide H1' _).mono ?_; rintro e w1 ⟨rfl, rfl⟩)
      | (go_at_call_of 117 (Value.int IntKind.i64 xp); refine (unhide H2' _).mono ?_; rintro e w1 ⟨rfl, rfl⟩)
      | (go_at_call 116; refine (or_any c1 c2 _ _ ?o1 ?o2 ?o3).mono ?_; (case o1 => exact ((boxedN _ _ _ (by simp)).drew).2.1 0 _ rfl); (case o2 => exact ((boxedN _ _ _ (by simp)).drew).2.1 1 _ rfl); (case o3 => exact ((boxedN _ _ _ (by simp)).drew).1); rintro e w1 ⟨rfl, rfl⟩))
  go_wp2_with fail
  go_ret
  exact ⟨rfl, 1, #[.cells #[.int .i64 xf, .int .i64 xp, .int .i64 xy] 167, .cells #[.int .i64 yf, .int .i64 yp, .int .i64 yy] 167, .cells #[.int .i64 c1, .int .i64 c2] 3], by rw [Sort.alloc_eq_grow, Sort.alloc_eq_grow, Sort.alloc_eq_grow, Sort.grow_grow, Sort.grow_grow]; rfl⟩

theorem compareFar_any (x : Mrk) (f : Int) (w : World) : Calls Tryz.prog 84 #[.agg #[.int .i64 x.far, .int .i64 x.post, .int .i64 x.way], .int .i64 f] w fun e w' => e = .returned (.int .i64 (cmpI x.far f)) ∧ Below w.heap.size w w' := by
  obtain ⟨c1, hc1⟩ : ∃ c, cmpI x.far f = c := ⟨_, rfl⟩
  have H1 : ∀ W : World, Calls Tryz.prog 117 #[.int .i64 x.far, .int .i64 f] W fun e w' => e = .returned (.int .i64 c1) ∧ w' = W := fun W => hc1 ▸ compare_any x.far f W
  rw [hc1]
  have H1' := hide H1
  clear hc1 H1
  go_enter Tryz.func84, Tryz.ntmps84
  go_wp2_with fail
  refine (unhide H1' _).mono ?_
  rintro e w1 ⟨rfl, rfl⟩
  go_wp2_with fail
  go_ret
  exact ⟨rfl, bw0⟩

/-! ### Wheels in memory -/

def MksAt (w : World) (a : Option Addr) (ms : List Mrk) : Prop := ∀ j (h : j < ms.length), ∃ b off, a = some ⟨b, off, none⟩ ∧ b < w.heap.size ∧ w.cell? ⟨b, off + j * 3, none⟩ = some (.int .i64 ms[j].far) ∧ w.cell? ⟨b, off + j * 3 + 1, none⟩ = some (.int .i64 ms[j].post) ∧ w.cell? ⟨b, off + j * 3 + 2, none⟩ = some (.int .i64 ms[j].way)
theorem MksAt.same {w w' : World} {a : Option Addr} {ms : List Mrk} (h : MksAt w a ms) (hs : w.heap.size ≤ w'.heap.size) (hb : ∀ b off, a = some ⟨b, off, none⟩ → b < w.heap.size → w'.heap[b]? = w.heap[b]?) : MksAt w' a ms := fun j hj => by
  obtain ⟨b, off, e, hl, h1, h2, h3⟩ := h j hj
  have hk := hb b off e hl
  have hc : ∀ o, w'.cell? ⟨b, o, none⟩ = w.cell? ⟨b, o, none⟩ := fun o => World.cell?_of_block (w := w) (a := ⟨b, o, none⟩) hk
  exact ⟨b, off, e, Nat.lt_of_lt_of_le hl hs, (hc _).trans h1, (hc _).trans h2, (hc _).trans h3⟩
theorem MksAt.below {w w' : World} {a : Option Addr} {ms : List Mrk} (h : MksAt w a ms) (hb : Below w.heap.size w w') : MksAt w' a ms := h.same hb.size fun b _ _ hl => hb.block b hl
/-- Not too far. -/
def MkFit (m : Mrk) : Prop := -200000 ≤ m.far ∧ m.far ≤ 200000
def WhFit (v : Wh) : Prop := (0 ≤ v.axle ∧ v.axle ≤ 1000) ∧ (0 ≤ v.back ∧ v.back ≤ 200000) ∧ v.ms ≠ [] ∧ ∀ m ∈ v.ms, MkFit m
set_option maxRecDepth 100000 in
theorem next_any' (v : Wh) (a : Option Addr) (cap : Nat) (w : World) (hm : MksAt w a v.ms) (hf : WhFit v) : Calls Tryz.prog 120 #[.agg #[.int .i64 v.axle, .int .i64 v.back, .slice a v.ms.length cap]] w fun e w' => e = .returned (.int .i64 v.next) ∧ Below w.heap.size w w' := by
  obtain ⟨ax, bk, ms⟩ := v
  obtain ⟨_, ⟨hb0, hb1⟩, hne, hfit⟩ := hf
  cases ms with
  | nil => exact absurd rfl hne
  | cons m r =>
    have hmf : MkFit m := hfit m List.mem_cons_self
    unfold MkFit at hmf
    obtain ⟨b, off, rfl, hl, h1, _, _⟩ := hm 0 (by simp)
    simp only [List.getElem_cons_zero, Nat.zero_mul, Nat.add_zero] at h1
    dsimp only at hb0 hb1
    have e1 : IntKind.i64.wrap (m.far + bk) = m.far + bk := wrap_small (by omega) (by omega)
    have hlt : b < w.heap.size := hl
    have hne1 : ¬ b = w.heap.size := by omega
    have hlen : (0 : Int) < ((m :: r).length : Int) := by rw [List.length_cons]; omega
    obtain ⟨N, hN⟩ : ∃ N, (m :: r).length = N := ⟨_, rfl⟩
    have hnx : Wh.next ⟨ax, bk, m :: r⟩ = m.far + bk := rfl
    rw [hnx]
    dsimp only
    rw [hN] at hlen ⊢
    have hN0 : 0 < N := by omega
    clear hN hm hfit hne
    go_enter Tryz.func120, Tryz.ntmps120
    go_wp2_with fail
    go_quiet (fail)
    go_wp2_with fail
    go_ret
    exact ⟨rfl, bw0⟩

end Go.Proofs.YtcggkfpkkhjdhaaGreat

