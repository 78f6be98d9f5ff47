import Derived.Test.YtjacbppeebnjfaaGreatMPlain
import Derived.Deep.RegionHeld
import Derived.Test.YtjacbppeebnjfaaGreatMDr1
import Derived.Deep.AppendLies
namespace Go.Proofs.YtjacbppeebnjfaaGreat
open Go

def wpAnyL (P : Program) (md : Region.Mode) (ops : Array Oper) (Q : Exit → Act → World → Prop) (S : World → Prop) (l : Nat) : Nat → Array Bool → Act → World → Prop
 | 0, listed, a, w => Region.ready md ops listed = [] ∧ Q .normal a w
 | fuel + 1, listed, a, w => (Region.ready md ops listed = [] → Q .normal a w) ∧ ∀ i ∈ Region.ready md ops listed, wpOp P ops Q i (fun a' w' => (i ≠ l → S w') ∧ wpAnyL P md ops Q S l fuel (listed.setIfInBounds i true) a' w') a w

section
variable {P : Program} {ops : Array Oper} {Q : Exit → Act → World → Prop} {md : Region.Mode} {S : World → Prop} {l : Nat}

theorem wpAny_of_l : ∀ (fuel : Nat) (listed : Array Bool) (a : Act) (w : World), wpAnyL P md ops Q S l fuel listed a w → wpAny P md ops Q fuel listed a w
 | 0, _, _, _, h => h
 | fuel + 1, _, _, _, h => ⟨h.1, fun i hi => wpOp_mono (fun a' w' h' => wpAny_of_l fuel _ a' w' h'.2) (h.2 i hi)⟩

def closedB (md : Region.Mode) (ops : Array Oper) (listed : Array Bool) : Bool :=
 (List.range ops.size).all fun k => !listed.getD k false || match ops[k]? with
  | some o => o.after.all fun e => !Region.binds md e || listed.getD e.on false
  | none => true
def Closed (md : Region.Mode) (ops : Array Oper) (listed : Array Bool) : Prop :=
 ∀ (k : Nat) (o : Oper), ops[k]? = some o → listed.getD k false = true → ∀ e ∈ o.after, Region.binds md e = true → listed.getD e.on false = true
theorem closed_of {listed : Array Bool} (h : closedB md ops listed = true) : Closed md ops listed := by
 intro k o ho hl e he hb
 unfold closedB at h
 have h1 := List.all_eq_true.1 h k (List.mem_range.2 (Array.getElem?_eq_some_iff.1 ho).1)
 rw [ho, hl] at h1
 simp only [Bool.not_true, Bool.false_or] at h1
 have h2 := Array.all_eq_true_iff_forall_mem.1 h1 e he
 rw [hb] at h2
 simpa using h2
theorem Closed.set {listed : Array Bool} {j : Nat} (h : Closed md ops listed) (hj : j ∈ Region.ready md ops listed) : Closed md ops (listed.setIfInBounds j true) := by
 intro k o ho hl e he hb
 by_cases hjk : j = k
 ·subst hjk
  obtain ⟨_, o', ho', hall⟩ := mem_ready.1 hj
  rw [ho] at ho'
  cases ho'
  exact getD_set_true (hall e he hb)
 ·rw [getD_set_ne false hjk] at hl
  exact getD_set_true (h k o ho hl e he hb)
def chainB (md : Region.Mode) (ops : Array Oper) : List Nat → Bool
 | [] => true
 | [_] => true
 | i :: k :: r => (match ops[k]? with | some o => o.after.any (fun e => Region.binds md e && e.on == i) | none => false) && chainB md ops (k :: r)
theorem chain_listed {listed : Array Bool} (hc : Closed md ops listed) (hl : l ∈ Region.ready md ops listed) : ∀ (r : List Nat) (i : Nat), chainB md ops (i :: r) = true → (i :: r).getLast? = some l → r ≠ [] → listed.getD i false = true := by
 intro r
 induction r with
 | nil => intro i _ _ h; exact absurd rfl h
 | cons k r ih =>
  intro i hch hlast _
  simp only [chainB, Bool.and_eq_true] at hch
  obtain ⟨h1, h2⟩ := hch
  have hk : ∀ o, ops[k]? = some o → ∀ e ∈ o.after, Region.binds md e = true → listed.getD e.on false = true := by
   intro o ho
   by_cases hr : r = []
   ·subst hr
    simp at hlast
    subst hlast
    obtain ⟨_, o', ho', hall⟩ := mem_ready.1 hl
    rw [ho] at ho'
    cases ho'
    exact hall
   ·exact hc k o ho (ih k h2 (by rw [← hlast]; simp) hr)
  cases ho : ops[k]? with
  | none => rw [ho] at h1; simp at h1
  | some o =>
   rw [ho] at h1
   simp only [Array.any_eq_true', Bool.and_eq_true, beq_iff_eq] at h1
   obtain ⟨e, he, h3⟩ := h1
   have := hk o ho e he h3.1
   rw [h3.2] at this
   exact this

theorem wpAnyL_first {i : Nat} {oi : Oper} {v : Value} {path : List Nat} (hi : ops[i]? = some oi) (hsel : ∀ (j : Nat) (o : Oper) cs b, ops[j]? = some o → o.op ≠ .select cs b)
  (hQ : ∀ c a w, Q (.panic c) (a.put oi.dst v) w → Q (.panic c) a w) (hch : chainB md ops (i :: path) = true) (hlast : (i :: path).getLast? = some l) (hpath : path ≠ []) :
  ∀ (fuel : Nat) (listed : Array Bool) (a : Act) (w : World), Closed md ops listed →
   (∀ j oj, ops[j]? = some oj → j ≠ i → listed.getD j true = false → (∀ e ∈ oj.after, Region.binds md e = true → e.on ≠ i) → oi.apart ops oj = true) →
   i ∈ Region.ready md ops listed → YieldsIf P ops S oi v a → S w →
   wpAnyL P md ops Q S l fuel (listed.setIfInBounds i true) (a.put oi.dst v) w → wpAnyL P md ops Q S l (fuel + 1) listed a w := by
 intro fuel
 induction fuel with
 | zero =>
  intro listed a w _ _ hr hy hS H
  refine ⟨fun h => (by rw [h] at hr; cases hr), fun j hj => ?_⟩
  by_cases hji : j = i
  ·subst hji; exact hy.wpOp hi hS ⟨fun _ => hS, H⟩
  ·have := ready_mono hj hji
   rw [H.1] at this
   cases this
 | succ fuel ih =>
  intro listed a w hcl hfree hr hy hS H
  refine ⟨fun h => (by rw [h] at hr; cases hr), fun j hj => ?_⟩
  by_cases hji : j = i
  ·subst hji; exact hy.wpOp hi hS ⟨fun _ => hS, H⟩
  ·have hun := (mem_ready.1 hr).1
   have hjl : j ≠ l := fun e => by
    subst e
    have h1 := chain_listed hcl hj path i hch hlast hpath
    rcases Nat.lt_or_ge i listed.size with h' | h'
    ·simp [h'] at hun h1; rw [hun] at h1; cases h1
    ·simp [Array.getElem?_eq_none h'] at h1
   have h1 := H.2 j (ready_mono hj hji)
   obtain ⟨hjun, oj, hoj, hall⟩ := mem_ready.1 hj
   have hnot : ∀ e ∈ oj.after, Region.binds md e = true → e.on ≠ i := fun e he hb heq => by
    have h1 := hall e he hb
    rw [heq] at h1
    rcases Nat.lt_or_ge i listed.size with h' | h'
    ·simp [h'] at hun h1; rw [hun] at h1; cases h1
    ·simp [Array.getElem?_eq_none h'] at h1
   have h2 := wpOp_putIf hoj (hfree j oj hoj hji hjun hnot) (fun cs b => hsel i oi cs b hi) (fun cs b => hsel j oj cs b hoj) hQ hy h1
   have hfree' : ∀ k ok, ops[k]? = some ok → k ≠ i → (listed.setIfInBounds j true).getD k true = false →
     (∀ e ∈ ok.after, Region.binds md e = true → e.on ≠ i) → oi.apart ops ok = true := fun k ok hk hki hun hno => by
    refine hfree k ok hk hki ?_ hno
    by_cases hjk : j = k
    ·subst hjk; exact hjun
    ·rw [getD_set_ne true hjk] at hun; exact hun
   refine wpOp_mono (fun a' w' h3 => ⟨h3.2.1, ih (listed.setIfInBounds j true) a' w' (hcl.set hj) hfree' (ready_mono hr (Ne.symm hji)) h3.1 (h3.2.1 hjl) ?_⟩) h2
   rw [Array.setIfInBounds_comm _ _ hji]
   exact h3.2.2

theorem wpAnyL_take {i : Nat} (path : List Nat) {oi : Oper} {v : Value} {fuel : Nat} {listed : Array Bool} {a : Act} {w : World} (hi : ops[i]? = some oi)
  (hs : (Region.noSelect ops && Region.free md ops listed i && (Region.ready md ops listed).contains i && closedB md ops listed && chainB md ops (i :: path)) = true) (hlast : (i :: path).getLast? = some l) (hpath : path ≠ [])
  (hQ : ∀ c a w, Q (.panic c) (a.put oi.dst v) w → Q (.panic c) a w) (hy : YieldsIf P ops S oi v a) (hS : S w)
  (h : wpAnyL P md ops Q S l fuel (listed.setIfInBounds i true) (a.put oi.dst v) w) : wpAnyL P md ops Q S l (fuel + 1) listed a w := by
 simp only [Bool.and_eq_true] at hs
 obtain ⟨⟨⟨⟨h1, h2⟩, h3⟩, h4⟩, h5⟩ := hs
 exact wpAnyL_first hi (Region.noSelect_spec h1) hQ h5 hlast hpath fuel listed a w (closed_of h4) (Region.free_spec hi h2) (by simpa using h3) hy hS h
theorem wpAnyL_done {listed : Array Bool} {a : Act} {w : World} (hr : Region.ready md ops listed = []) (h : Q .normal a w) : ∀ fuel, wpAnyL P md ops Q S l fuel listed a w
 | 0 => ⟨hr, h⟩
 | _ + 1 => ⟨fun _ => h, by rw [hr]; simp⟩
def AllReadyL (P : Program) (md : Region.Mode) (ops : Array Oper) (Q : Exit → Act → World → Prop) (S : World → Prop) (l : Nat) (fuel : Nat) (listed : Array Bool) (a : Act) (w : World) (rs : List Nat) : Prop :=
 ∀ i ∈ rs, wpOp P ops Q i (fun a' w' => (i ≠ l → S w') ∧ wpAnyL P md ops Q S l fuel (listed.setIfInBounds i true) a' w') a w
theorem AllReadyL.nil {fuel : Nat} {listed : Array Bool} {a : Act} {w : World} : AllReadyL P md ops Q S l fuel listed a w [] := fun _ h => by cases h
theorem AllReadyL.cons {fuel : Nat} {listed : Array Bool} {a : Act} {w : World} {i : Nat} {o : Oper} {rs : List Nat} (ho : ops[i]? = some o)
  (h : ∀ K' : Act → World → Prop, Shut (∀ a w, (i ≠ l → S w) → ((i ≠ l → S w) → wpAnyL P md ops Q S l fuel (listed.setIfInBounds i true) a w) → K' a w) → if Region.wanted o (yielded ops a.tmps) = true then Oper.wp P o a w K' Q else K' (a.put o.dst undef) w)
  (hs : AllReadyL P md ops Q S l fuel listed a w rs) : AllReadyL P md ops Q S l fuel listed a w (i :: rs) := fun j hj => by
 rcases List.mem_cons.1 hj with rfl | hj
 ·exact wpOp_step ho (fun K' hK => h K' (fun a w hS hW => hK a w ⟨hS, hW hS⟩))
 ·exact hs j hj
theorem wpAnyL_ready {rs : List Nat} {fuel : Nat} {listed : Array Bool} {a : Act} {w : World} (hr : Region.ready md ops listed = rs) (hne : rs ≠ [])
  (h : AllReadyL P md ops Q S l fuel listed a w rs) : wpAnyL P md ops Q S l (fuel + 1) listed a w := ⟨fun h0 => absurd (hr ▸ h0) hne, hr ▸ h⟩
theorem wp_region_last {id : Nat} {a : Act} {w : World} (l : Nat) (hm : P.follows .mixedOrders = true) (hS : S w.drew)
  (h : S w.drew → wpAnyL P .any ops Q S l ops.size (Array.replicate ops.size false) a w.drew) : (Code.region id ops true).wp P Q a w :=
 wp_region_any hm (wpAny_of_l _ _ _ _ (h hS))
end
end Go.Proofs.YtjacbppeebnjfaaGreat

namespace Go.Proofs.YtjacbppeebnjfaaGreat
open Go

theorem tkH {P : Program} {md : Region.Mode} {ops : Array Oper} {Q : Exit → Act → World → Prop} {S : World → Prop} (i : Nat) {oi : Oper} {v : Value} {fuel : Nat} {listed : Array Bool} {a a' : Act} {w : World} (h : wpAnyH P md ops Q S fuel (listed.setIfInBounds i true) a' w)
  (hi : ops[i]? = some oi := by rfl) (hs : (Region.noSelect ops && Region.free md ops listed i && (Region.ready md ops listed).contains i) = true := by kernel_rfl) (hQ : ∀ c a w, Q (.panic c) (a.put oi.dst v) w → Q (.panic c) a w := by exact fun _ _ _ h => h)
  (hg : Region.wanted oi (yielded ops a.tmps) = true := by rfl) (hy : ∀ w, S w → (execOp a.eval oi).run P w = .ok (.value v) w := by (intro w0 hSw; (try dsimp only at hSw); go_simp; (try with_reducible rfl))) (hS : S w := by assumption)
  (ha : a.put oi.dst v = a' := by (simp only [Act.put, List.getElem_toArray, List.getElem_cons_zero, List.getElem_cons_succ, List.setIfInBounds_toArray, List.set_cons_zero, List.set_cons_succ]; rfl)) : wpAnyH P md ops Q S (fuel + 1) listed a w := by
 simp only [Bool.and_eq_true] at hs
 obtain ⟨⟨h1, h2⟩, h3⟩ := hs
 exact wpAnyH_take hi h1 h2 h3 hQ (Or.inl ⟨hg, hy⟩) hS (ha ▸ h)
theorem tkL {P : Program} {md : Region.Mode} {ops : Array Oper} {Q : Exit → Act → World → Prop} {S : World → Prop} {l : Nat} (i : Nat) (path : List Nat) {oi : Oper} {v : Value} {fuel : Nat} {listed : Array Bool} {a a' : Act} {w : World} (h : wpAnyL P md ops Q S l fuel (listed.setIfInBounds i true) a' w)
  (hi : ops[i]? = some oi := by rfl) (hs : (Region.noSelect ops && Region.free md ops listed i && (Region.ready md ops listed).contains i && closedB md ops listed && chainB md ops (i :: path)) = true := by kernel_rfl) (hl : (i :: path).getLast? = some l := by rfl) (hp : path ≠ [] := by simp) (hQ : ∀ c a w, Q (.panic c) (a.put oi.dst v) w → Q (.panic c) a w := by exact fun _ _ _ h => h)
  (hg : Region.wanted oi (yielded ops a.tmps) = true := by rfl) (hy : ∀ w, S w → (execOp a.eval oi).run P w = .ok (.value v) w := by (intro w0 hSw; (try dsimp only at hSw); go_simp; (try with_reducible rfl))) (hS : S w := by assumption)
  (ha : a.put oi.dst v = a' := by (simp only [Act.put, List.getElem_toArray, List.getElem_cons_zero, List.getElem_cons_succ, List.setIfInBounds_toArray, List.set_cons_zero, List.set_cons_succ]; rfl)) : wpAnyL P md ops Q S l (fuel + 1) listed a w :=
 wpAnyL_take path hi hs hl hp hQ (Or.inl ⟨hg, hy⟩) hS (ha ▸ h)
theorem tkU {P : Program} {md : Region.Mode} {ops : Array Oper} {Q : Exit → Act → World → Prop} {S : World → Prop} (i : Nat) {oi : Oper} {fuel : Nat} {listed : Array Bool} {a a' : Act} {w : World} (h : wpAnyH P md ops Q S fuel (listed.setIfInBounds i true) a' w)
  (hi : ops[i]? = some oi := by rfl) (hs : (Region.noSelect ops && Region.free md ops listed i && (Region.ready md ops listed).contains i) = true := by kernel_rfl) (hQ : ∀ c a w, Q (.panic c) (a.put oi.dst undef) w → Q (.panic c) a w := by exact fun _ _ _ h => h)
  (hg : Region.wanted oi (yielded ops a.tmps) = false := by rfl) (hS : S w := by assumption)
  (ha : a.put oi.dst undef = a' := by (simp only [Act.put, List.getElem_toArray, List.getElem_cons_zero, List.getElem_cons_succ, List.setIfInBounds_toArray, List.set_cons_zero, List.set_cons_succ]; rfl)) : wpAnyH P md ops Q S (fuel + 1) listed a w := by
 simp only [Bool.and_eq_true] at hs
 obtain ⟨⟨h1, h2⟩, h3⟩ := hs
 exact wpAnyH_take hi h1 h2 h3 hQ (Or.inr ⟨hg, rfl⟩) hS (ha ▸ h)

theorem sA : (∀ (a : Act) (d : Tmp) (v : Value), a.put (some d) v = { a with tmps := a.tmps.setIfInBounds d v }) ∧ (∀ (a : Act) (v : Value), a.put none v = a) ∧ (∀ (l : List Value) (i : Nat) (v : Value), l.toArray.setIfInBounds i v = (l.set i v).toArray) ∧ (∀ (x y : Value) (l : List Value), (x :: l).set 0 y = y :: l) ∧ ∀ (x y : Value) (l : List Value) (i : Nat), (x :: l).set (i + 1) y = x :: l.set i y :=
 ⟨fun _ _ _ => rfl, fun _ _ => rfl, fun l i v => by simp, fun _ _ _ => rfl, fun _ _ _ _ => rfl⟩

end Go.Proofs.YtjacbppeebnjfaaGreat

set_option linter.unusedSimpArgs false
namespace Go.Proofs.YtjacbppeebnjfaaGreat
open Go.RowKit

def NetP (w : World) (X base : Nat) (u v : Value) (n : Nt) : Prop := Boxed w X [u, v] ∧ PcRow w base u n.pieces ∧ JtRow w base v n.joints
theorem NetP.lt {w : World} {X base : Nat} {u v : Value} {n : Nt} (h : NetP w X base u v n) : X < w.heap.size := h.1.1
theorem NetP.in_ {w : World} {X base : Nat} {u v : Value} {n : Nt} (h : NetP w X base u v n) : NetIn w X base n := ⟨u, v, h⟩
theorem NetP.blocks {w w' : World} {X base : Nat} {u v : Value} {n : Nt} (h : NetP w X base u v n) (hs : w.heap.size ≤ w'.heap.size) (hX : w'.heap[X]? = w.heap[X]?) (hb : ∀ k, base ≤ k → k < w.heap.size → w'.heap[k]? = w.heap[k]?) : NetP w' X base u v n :=
 ⟨h.1.blk hs hX, h.2.1.block fun k hk => hb k (h.2.1.lt k hk).1 (h.2.1.lt k hk).2, h.2.2.blocks hb⟩
theorem NetP.below {w w' : World} {X base : Nat} {u v : Value} {n : Nt} (h : NetP w X base u v n) (hb : Below w.heap.size w w') : NetP w' X base u v n :=
 h.blocks hb.size (hb.block X h.lt) fun k _ hk => hb.block k hk
theorem NetP.only {C : Nat} {w w' : World} {X base : Nat} {u v : Value} {n : Nt} (h : NetP w X base u v n) (ho : Only (fun k => k = C) w w') (hX : X ≠ C) (hC : C < base) : NetP w' X base u v n :=
 h.blocks ho.size (ho.block X h.lt hX) fun k hk hk' => ho.block k hk' (show ¬ k = C by omega)
theorem NetP.alloc {w : World} {X base : Nat} {u v : Value} {n : Nt} (h : NetP w X base u v n) (o : Obj) : NetP (w.alloc o) X base u v n := h.below (Below.alloc (Below.refl _ _) (Nat.le_refl _) _)
theorem Boxed.setI {w : World} {N : Nat} {vs : List Value} (h : Boxed w N vs) {i : Nat} (hi : i < vs.length) (x : Value) : Boxed (w.setCell ⟨N, i, none⟩ x) N (vs.set i x) := by
 refine ⟨by simpa [World.setCell] using h.1, fun j v hj => ?_, fun j => by simpa using h.2.2 j⟩
 by_cases e : j = i
 ·subst e
  rw [World.cell?_setCell_same _ _ _ (h.2.1 j _ (List.getElem?_eq_getElem hi))]
  simpa [hi] using hj
 ·rw [World.cell?_setCell_other _ _ _ _ (by first | (simp; done) | (simp; omega))]
  rw [List.getElem?_set_ne (by omega)] at hj
  exact h.2.1 j v hj
theorem pc_news {W : World} {N : Nat} {x : Pc} (h : Boxed W N (pcF x)) : ∀ j u, (pcF x)[j]? = some u → W.cell? ((⟨N, 0, none⟩ : Addr).add j) = some u := by
 intro j u hj
 have hadd : (⟨N, 0, none⟩ : Addr).add j = ⟨N, j, none⟩ := by unfold Addr.add; split <;> simp_all
 rw [hadd]
 exact h.2.1 j u hj
theorem pc_one (x : Pc) : ∀ u ∈ pcF x, u.oneCell' = true := by
 intro u hu
 simp [pcF] at hu
 rcases hu with rfl | rfl | rfl | rfl <;> rfl
theorem NetP.addPiece {w w2 : World} {X base : Nat} {u v : Value} {n : Nt} {p : Pc} (h : NetP w X base u v n) (hX : X < base) {v' : Value} (hg : w.grownBy w2 u.ownBlock) (hown : PcRow w2 base v' (n.pieces ++ [p])) : NetP (w2.setCell ⟨X, 0, none⟩ v') X base v' v ⟨n.pieces ++ [p], n.joints⟩ := by
 have hb := h.1.grownE hg (fun hc => by have := (h.2.1.lt _ hc).1; omega)
 have hj : JtRow w2 base v n.joints := h.2.2.kept hg (fun k t cur hk hh => by
   obtain ⟨_, ⟨rfl, _⟩ | ⟨g, cap, cur', rfl, _, hh', _⟩⟩ := h.2.1
   ·simp [Value.ownBlock] at hk
   ·simp [Value.ownBlock] at hk
    subst hk
    rw [hh] at hh'
    simp at hh'
    rw [hh'.2]
    decide) (fun k hk => by
   obtain ⟨_, ⟨rfl, _⟩ | ⟨g, cap, cur', rfl, _, hh', _⟩⟩ := h.2.1
   ·simp [Value.ownBlock] at hk
   ·simp [Value.ownBlock] at hk
    subst hk
    exact ⟨_, _, hh'⟩)
 exact ⟨hb.setI (i := 0) (by simp) v', hown.setCell (p := ⟨X, 0, none⟩) hX v', hj.blocks fun k hk _ => Below.heap_setCell w2 ⟨X, 0, none⟩ v' k (show k ≠ X by omega)⟩

def pieceC (bs : List Int) (c : Cu) (n : Nt) : Nt × Cu := (⟨n.pieces ++ [⟨nameC n.pieces.length, 20 + (wideC bs c 300).1, 100, 20⟩], n.joints⟩, (wideC bs c 300).2)

set_option maxRecDepth 100000 in
set_option maxHeartbeats 4000000 in
theorem piece_any (C P X base : Nat) (bs : List Int) (c : Cu) (n : Nt) (w : World) (hcu : CurAt w C bs c) (hbs : BytesIn bs) (ha : c.at_ ≤ 100000000) (hP : Boxed w P [.pointer (some ⟨C, 0, none⟩)]) (hn : NetIn w X base n) (hl : n.pieces.length ≤ 1000) (hC : C < base) (hPb : P < base) (hX : X < base) (hCX : C < X) (hPC : P ≠ C) (hbase : base ≤ w.heap.size) :
  Calls Tryz.prog 68 #[.pointer (some ⟨P, 0, none⟩), .pointer (some ⟨X, 0, none⟩)] w fun e w' => e = .returned (.int .i64 n.pieces.length) ∧ CurAt w' C bs (pieceC bs c n).2 ∧ NetIn w' X base (pieceC bs c n).1 ∧ But (fun k => k = C ∨ k = X) base w w' := by
 obtain ⟨u, v, hN⟩ := hn
 have hN : NetP w X base u v n := hN
 obtain ⟨ua, ucap, hue, _⟩ := hN.2.1.shape pcF_len
 subst hue
 obtain ⟨i0, hi, hz0, hz1, hz2⟩ := info_parts info_Piece
 have HCU := hide hcu
 have HN := hide hN
 have HPB := hide hP
 have x0 := hN.1.2.1 0 _ rfl
 have xz := hN.1.2.2
 have xl := hN.1.1
 have p0 := hP.2.1 0 _ rfl
 have pl := hP.1
 clear hcu hN hP
 have hwi := wideC_in bs c (show (0 : Int) < 300 by omega)
 have HPD : Hid (pieceC bs c n = (⟨n.pieces ++ [⟨nameC n.pieces.length, 20 + (wideC bs c 300).1, 100, 20⟩], n.joints⟩, (wideC bs c 300).2)) := rfl
 obtain ⟨r, hr⟩ : ∃ r, (wideC bs c 300).1 = r := ⟨_, rfl⟩
 obtain ⟨c2, hc2⟩ : ∃ c2, (wideC bs c 300).2 = c2 := ⟨_, rfl⟩
 rw [hr] at hwi HPD
 rw [hc2] at HPD
 have hwr : IntKind.i64.wrap (20 + r) = 20 + r := wrap_small (by omega) (by omega)
 have HR := hide hr
 have HC2 := hide hc2
 clear hr hc2
 go_enter Tryz.func68, Tryz.ntmps68
 go_wp2_with fail
 refine wp_region_last (S := fun w' => w'.cell? ⟨X, 0, none⟩ = some (.slice ua n.pieces.length ucap) ∧ w'.cell? ⟨P, 0, none⟩ = some (.pointer (some ⟨C, 0, none⟩))) 22 (by kernel_rfl) ?_ (fun hHeld => ?_)
 ·exact ⟨by simpa using x0, by simpa using p0⟩
 refine tkL 0 [20, 21, 22] ?_
 refine tkL 1 [2, 3, 4, 19, 20, 21, 22] ?_
 refine tkL 2 [3, 4, 19, 20, 21, 22] ?_
 refine tkL 3 [4, 19, 20, 21, 22] ?_
 refine tkL 4 [19, 20, 21, 22] ?_
 refine tkL 5 [6, 7, 8, 10, 15, 16, 17, 18, 19, 20, 21, 22] ?_
 refine tkL 6 [7, 8, 10, 15, 16, 17, 18, 19, 20, 21, 22] ?_
 refine tkL 7 [8, 10, 15, 16, 17, 18, 19, 20, 21, 22] ?_
 refine tkL 8 [10, 15, 16, 17, 18, 19, 20, 21, 22] ?_
 refine tkL 9 [10, 15, 16, 17, 18, 19, 20, 21, 22] ?_
 refine tkL 11 [12, 13, 14, 15, 16, 17, 18, 19, 20, 21, 22] ?_
 refine tkL 12 [13, 14, 15, 16, 17, 18, 19, 20, 21, 22] ?_
 refine tkL 13 [14, 15, 16, 17, 18, 19, 20, 21, 22] ?_
 refine tkL 14 [15, 16, 17, 18, 19, 20, 21, 22] ?_
 refine wpAnyL_ready (rs := [10]) (by kernel_rfl) (by simp) ?_
 refine (AllReadyL.cons rfl (fun K hK => ?_) AllReadyL.nil)
 go_simp
 refine (name_any _ n.pieces.length _ (by omega)).mono ?_
 rintro e w1 ⟨rfl, hb1⟩
 dsimp only
 have hB1 : Below w.heap.size w w1 := below_then bw0 hb1
 have HCU1 := hide ((unhide HCU).below hB1)
 have HN1 := hide ((unhide HN).below hB1)
 have HPB1 := hide ((unhide HPB).below hB1)
 have hHeld1 := And.intro ((unhide HN1).1.2.1 0 _ rfl) ((unhide HPB1).2.1 0 _ rfl)
 have xl1 := (unhide HN1).1.1
 have pl1 := (unhide HPB1).1
 have hs1 := hB1.size
 refine hK.out _ _ (fun _ => hHeld1) (fun _ => ?_)
 clear hK K
 (try simp only [sA])
 refine wpAnyL_ready (rs := [15]) (by kernel_rfl) (by simp) ?_
 refine (AllReadyL.cons rfl (fun K hK => ?_) AllReadyL.nil)
 go_simp
 refine (wide_any C bs c 300 _ (unhide HCU1) hbs ha ⟨by omega, by omega⟩).mono ?_
 rw [unhide HR, unhide HC2]
 rintro e w2 ⟨rfl, hcu2, ho2⟩
 dsimp only
 have HCU2 := hide hcu2
 have HN2 := hide ((unhide HN1).only ho2 (by omega) hC)
 have HPB2 := hide ((unhide HPB1).onlyS ho2 hPC)
 have HBU2 : Hid (But (fun k => k = C ∨ k = X) base w w2) := (but_below hB1 hbase).trans (but_only ho2 (fun k _ h => Or.inl h) (by omega))
 have hHeld2 := And.intro ((unhide HN2).1.2.1 0 _ rfl) ((unhide HPB2).2.1 0 _ rfl)
 have xl2 := (unhide HN2).1.1
 have pl2 := (unhide HPB2).1
 have hs2 := ho2.size
 clear hcu2
 refine hK.out _ _ (fun _ => hHeld2) (fun _ => ?_)
 clear hK K
 (try simp only [sA])
 refine tkL 16 [17, 18, 19, 20, 21, 22] ?_
 refine tkL 17 [18, 19, 20, 21, 22] ?_
 refine wpAnyL_ready (rs := [18]) (by kernel_rfl) (by simp) ?_
 refine (AllReadyL.cons rfl (fun K hK => ?_) AllReadyL.nil)
 go_simp
 have HN3 := hide ((unhide HN2).alloc (.cells #[.string (nameC n.pieces.length), .int .i64 (20 + r), .int .i64 100, .int .i64 20] 96))
 have HPB3 := hide ((unhide HPB2).alloc (.cells #[.string (nameC n.pieces.length), .int .i64 (20 + r), .int .i64 100, .int .i64 20] 96))
 have hHeld3 := And.intro ((unhide HN3).1.2.1 0 _ rfl) ((unhide HPB3).2.1 0 _ rfl)
 refine hK.out _ _ (fun _ => hHeld3) (fun _ => ?_)
 clear hK K
 (try simp only [sA])
 refine wpAnyL_ready (rs := [19]) (by kernel_rfl) (by simp) ?_
 refine (AllReadyL.cons rfl (fun K hK => ?_) AllReadyL.nil)
 refine step_append_lies _ rfl (.tmp 15) (.tmp 29) 23 rfl base 96 i0 (.agg #[.string ⟨#[]⟩, .int .i64 0, .int .i64 0, .int .i64 0]) 4 40 Tryz.underlying23 hi hz0 hz1 hz2 rfl (by decide) (.slice ua n.pieces.length ucap) n.pieces.length (n.pieces.flatMap pcF) (by simp [Act.eval]) (unhide HN3).2.1 _ 1 1 (pcF ⟨nameC n.pieces.length, 20 + r, 100, 20⟩) (by simp [Act.eval]) rfl (pc_news (x := ⟨nameC n.pieces.length, 20 + r, 100, 20⟩) (boxed_alloc _ _ _)) (pc_one _) (by omega) (by unfold maxLen; omega) (by omega) (by simp; omega) _ rfl ?_
 intro g gcap w3 hown3 hgrow hat3 hlt3
 have hrow3 : PcRow w3 base (.slice (some ⟨g, 0, none⟩) (n.pieces.length + 1) gcap) (n.pieces ++ [⟨nameC n.pieces.length, 20 + r, 100, 20⟩]) := Row.snoc (f := pcF) hown3
 have HN4 := hide ((unhide HN3).addPiece hX hgrow hrow3)
 have hne : ∀ k, (Value.slice ua n.pieces.length ucap).ownBlock = some k → base ≤ k := fun k hk => ((unhide HN3).2.1.lt k hk).1
 have hX3 := (unhide HN3).1.grownE hgrow (fun hc => by have := hne _ hc; omega)
 have hP3 := (unhide HPB3).grownE hgrow (fun hc => by have := hne _ hc; omega)
 have HBU3 : Hid (But (fun k => k = C ∨ k = X) base w w3) := ((unhide HBU2).trans (but_below bw0 (show base ≤ w2.heap.size by omega))).grown hgrow (by simp; omega) hne
 have HCU3 : Hid (CurAt w3 C bs c2) := (unhide HCU2).of_below (U := base) (Below.grown bw0 hgrow (by simp; omega) hne) hC
 have hHeld4 := And.intro (hX3.2.1 0 _ rfl) (hP3.2.1 0 _ rfl)
 have x3 := hX3.2.1 0 _ rfl
 have xz3 := hX3.2.2
 have xl3 := hX3.1
 refine hK.out _ _ (fun _ => hHeld4) (fun _ => ?_)
 clear hK K
 (try simp only [sA])
 refine tkL 20 [21, 22] ?_
 refine tkL 21 [22] ?_
 refine wpAnyL_ready (rs := [22]) (by kernel_rfl) (by simp) ?_
 refine (AllReadyL.cons rfl (fun K hK => ?_) AllReadyL.nil)
 go_simp
 refine hK.out _ _ (fun h => absurd rfl h) (fun _ => ?_)
 clear hK K
 (try simp only [sA])
 refine wpAnyL_done (by kernel_rfl) ?_ _

 go_wp2_with fail
 go_ret
 rw [unhide HPD]
 exact ⟨rfl, (unhide HCU3).of_below (U := C + 1) bw0 (by omega), (unhide HN4).in_, (unhide HBU3).trans (but_setCell _ (Or.inl (Or.inr rfl)) _)⟩
end Go.Proofs.YtjacbppeebnjfaaGreat

