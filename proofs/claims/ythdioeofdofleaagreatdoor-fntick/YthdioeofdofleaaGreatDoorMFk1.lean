import Derived.Test.YthdioeofdofleaaGreatDoorMTk7
import Derived.Test.YthdioeofdofleaaGreatDoorMKw1
import Derived.Test.YthdioeofdofleaaGreatDoorMPlain
import Derived.Deep.RegionHeld
import Derived.Test.YthdioeofdofleaaGreatDoorMDr1
import Derived.Deep.AppendLies
set_option linter.unusedSimpArgs false
namespace Go.Proofs.YthdioeofdofleaaGreatDoor
open Go.RowKit
theorem strL_mem {i k : Nat} {ks : List Nat} (h : k ∈ ks) (hne : k ≠ i) : ((i : Int), (k : Int)) ∈ xk i ks := by
 unfold xk;exact List.mem_map.2 ⟨k, List.mem_filter.2 ⟨h, by simpa using hne⟩, rfl⟩
theorem hits_app {ps qs cs : List Pt} (h : yx ps cs = true) : yx (ps ++ qs) cs = true := by
 unfold yx at h ⊢;rw [List.any_append, h, Bool.true_or]
theorem hits_of {ps qs : List Pt} (h : YR ps qs) : yx ps qs = true := by
 obtain ⟨i, j, hi, hj, ht⟩ := h;unfold yx;rw [List.any_eq_true];refine ⟨ps[i], List.getElem_mem hi, ?_⟩;rw [List.any_eq_true];exact ⟨qs[j], List.getElem_mem hj, decide_eq_true ⟨ht.1.symm, ht.2.2, ht.2.1⟩⟩
theorem tick_struck {n : Nt} {zs : List Int} {ts : List Tr} {vs : List Int} (hg : yv n zs ts vs) {j : Nat} {b : TkS} (h : Ya n zs ts vs j b) : ∀ i k, k < i -> i < j -> yx (zi n (ZS b.ts i)) (zi n (ZS b.ts k)) = true -> ((i : Int), (k : Int)) ∈ b.strikes := by
 induction h with
 | zero => intro i k _ hi; omega
 | @succ j a b h1 hj hs ih =>
  obtain ⟨m, code, joint, hrun, rfl⟩ := hs;have hok := h1.ok hg
  have hja : j < a.ts.length := by rw [hok.len]; exact hj
  intro i k hki hi hm;dsimp only at hm ⊢
  by_cases e : i = j
  ·subst e;refine List.mem_append.2 (Or.inr (strL_mem ?_ (by omega)));refine List.mem_filter.2 ⟨List.mem_range.2 (by rw [List.length_set]; omega), hits_app hm⟩
  ·refine List.mem_append.2 (Or.inl (ih i k hki (by omega) ?_));rw [YZ hja, YZ hja, if_neg e, if_neg (by omega)] at hm;exact hm

def YH (P : Program) (md : Region.Mode) (ops : Array Oper) (Q : Exit -> Act -> World -> Prop) (S : World -> Prop) (l : Nat) : Nat -> Array Bool -> Act -> World -> Prop
 | 0, listed, a, w => Region.ready md ops listed = [] /\ Q .normal a w
 | fuel + 1, listed, a, w => (Region.ready md ops listed = [] -> Q .normal a w) /\ ∀ i ∈ Region.ready md ops listed, wpOp P ops Q i (fun a' w' => (i ≠ l -> S w') /\ YH P md ops Q S l fuel (listed.setIfInBounds i true) a' w') a w

section
variable {P : Program} {ops : Array Oper} {Q : Exit -> Act -> World -> Prop} {md : Region.Mode} {S : World -> Prop} {l : Nat}

theorem UE : ∀ (fuel : Nat) (listed : Array Bool) (a : Act) (w : World), YH P md ops Q S l fuel listed a w -> wpAny P md ops Q fuel listed a w
 | 0, _, _, _, h => h
 | fuel + 1, _, _, _, h => ⟨h.1, fun i hi => wpOp_mono (fun a' w' h' => UE fuel _ a' w' h'.2) (h.2 i hi)⟩

def Uz (md : Region.Mode) (ops : Array Oper) (listed : Array Bool) : Bool :=
 (List.range ops.size).all fun k => !listed.getD k false || match ops[k]? with
  | some o => o.after.all fun e => !Region.binds md e || listed.getD e.on false
  | none => true
def uS (md : Region.Mode) (ops : Array Oper) (listed : Array Bool) : Prop :=
 ∀ (k : Nat) (o : Oper), ops[k]? = some o -> listed.getD k false = true -> ∀ e ∈ o.after, Region.binds md e = true -> listed.getD e.on false = true
theorem closed_of {listed : Array Bool} (h : Uz md ops listed = true) : uS md ops listed := by
 intro k o ho hl e he hb;unfold Uz at h;have h1 := List.all_eq_true.1 h k (List.mem_range.2 (Array.getElem?_eq_some_iff.1 ho).1);rw [ho, hl] at h1;simp only [Bool.not_true, Bool.false_or] at h1;have h2 := Array.all_eq_true_iff_forall_mem.1 h1 e he;rw [hb] at h2
 simpa using h2
theorem uS.set {listed : Array Bool} {j : Nat} (h : uS md ops listed) (hj : j ∈ Region.ready md ops listed) : uS md ops (listed.setIfInBounds j true) := by
 intro k o ho hl e he hb
 by_cases hjk : j = k
 ·subst hjk;obtain ⟨_, o', ho', hall⟩ := mem_ready.1 hj;rw [ho] at ho'
  cases ho'
  exact getD_set_true (hall e he hb)
 ·rw [getD_set_ne false hjk] at hl;exact getD_set_true (h k o ho hl e he hb)
def uN (md : Region.Mode) (ops : Array Oper) : List Nat -> Bool
 | [] => true
 | [_] => true
 | i :: k :: r => (match ops[k]? with | some o => o.after.any (fun e => Region.binds md e && e.on == i) | none => false) && uN md ops (k :: r)
theorem chain_listed {listed : Array Bool} (hc : uS md ops listed) (hl : l ∈ Region.ready md ops listed) : ∀ (r : List Nat) (i : Nat), uN md ops (i :: r) = true -> (i :: r).getLast? = some l -> r ≠ [] -> listed.getD i false = true := by
 intro r
 induction r with
 | nil => intro i _ _ h; exact absurd rfl h
 | cons k r ih =>
  intro i hch hlast _;simp only [uN, Bool.and_eq_true] at hch;obtain ⟨h1, h2⟩ := hch
  have hk : ∀ o, ops[k]? = some o -> ∀ e ∈ o.after, Region.binds md e = true -> listed.getD e.on false = true := by
   intro o ho
   by_cases hr : r = []
   ·subst hr
    simp at hlast
    subst hlast;obtain ⟨_, o', ho', hall⟩ := mem_ready.1 hl;rw [ho] at ho'
    cases ho'
    exact hall
   ·exact hc k o ho (ih k h2 (by rw [← hlast]; simp) hr)
  cases ho : ops[k]? with
  | none => rw [ho] at h1; simp at h1
  | some o =>
   rw [ho] at h1;simp only [Array.any_eq_true', Bool.and_eq_true, beq_iff_eq] at h1;obtain ⟨e, he, h3⟩ := h1;have := hk o ho e he h3.1;rw [h3.2] at this;exact this

theorem wpAnyL_first {i : Nat} {oi : Oper} {v : Value} {path : List Nat} (hi : ops[i]? = some oi) (hsel : ∀ (j : Nat) (o : Oper) cs b, ops[j]? = some o -> o.op ≠ .select cs b)
  (hQ : ∀ c a w, Q (.panic c) (a.put oi.dst v) w -> Q (.panic c) a w) (hch : uN md ops (i :: path) = true) (hlast : (i :: path).getLast? = some l) (hpath : path ≠ []) :
  ∀ (fuel : Nat) (listed : Array Bool) (a : Act) (w : World), uS md ops listed →
   (∀ j oj, ops[j]? = some oj -> j ≠ i -> listed.getD j true = false -> (∀ e ∈ oj.after, Region.binds md e = true -> e.on ≠ i) -> oi.apart ops oj = true) →
   i ∈ Region.ready md ops listed -> YieldsIf P ops S oi v a -> S w →
   YH P md ops Q S l fuel (listed.setIfInBounds i true) (a.put oi.dst v) w -> YH P md ops Q S l (fuel + 1) listed a w := by
 intro fuel
 induction fuel with
 | zero =>
  intro listed a w _ _ hr hy hS H;refine ⟨fun h => (by rw [h] at hr; cases hr), fun j hj => ?_⟩
  by_cases hji : j = i
  ·subst hji; exact hy.wpOp hi hS ⟨fun _ => hS, H⟩
  ·have := ready_mono hj hji;rw [H.1] at this
   cases this
 | succ fuel ih =>
  intro listed a w hcl hfree hr hy hS H;refine ⟨fun h => (by rw [h] at hr; cases hr), fun j hj => ?_⟩
  by_cases hji : j = i
  ·subst hji; exact hy.wpOp hi hS ⟨fun _ => hS, H⟩
  ·have hun := (mem_ready.1 hr).1
   have hjl : j ≠ l := fun e => by
    subst e;have h1 := chain_listed hcl hj path i hch hlast hpath
    rcases Nat.lt_or_ge i listed.size with h' | h'
    ·simp [h'] at hun h1; rw [hun] at h1; cases h1
    ·simp [Array.getElem?_eq_none h'] at h1
   have h1 := H.2 j (ready_mono hj hji);obtain ⟨hjun, oj, hoj, hall⟩ := mem_ready.1 hj
   have hnot : ∀ e ∈ oj.after, Region.binds md e = true -> e.on ≠ i := fun e he hb heq => by
    have h1 := hall e he hb;rw [heq] at h1
    rcases Nat.lt_or_ge i listed.size with h' | h'
    ·simp [h'] at hun h1; rw [hun] at h1; cases h1
    ·simp [Array.getElem?_eq_none h'] at h1
   have h2 := wpOp_putIf hoj (hfree j oj hoj hji hjun hnot) (fun cs b => hsel i oi cs b hi) (fun cs b => hsel j oj cs b hoj) hQ hy h1
   have hfree' : ∀ k ok, ops[k]? = some ok -> k ≠ i -> (listed.setIfInBounds j true).getD k true = false →
     (∀ e ∈ ok.after, Region.binds md e = true -> e.on ≠ i) -> oi.apart ops ok = true := fun k ok hk hki hun hno => by
    refine hfree k ok hk hki ?_ hno
    by_cases hjk : j = k
    ·subst hjk; exact hjun
    ·rw [getD_set_ne true hjk] at hun; exact hun
   refine wpOp_mono (fun a' w' h3 => ⟨h3.2.1, ih (listed.setIfInBounds j true) a' w' (hcl.set hj) hfree' (ready_mono hr (Ne.symm hji)) h3.1 (h3.2.1 hjl) ?_⟩) h2;rw [Array.setIfInBounds_comm _ _ hji];exact h3.2.2

theorem wpAnyL_take {i : Nat} (path : List Nat) {oi : Oper} {v : Value} {fuel : Nat} {listed : Array Bool} {a : Act} {w : World} (hi : ops[i]? = some oi)
  (hs : (Region.noSelect ops && Region.free md ops listed i && (Region.ready md ops listed).contains i && Uz md ops listed && uN md ops (i :: path)) = true) (hlast : (i :: path).getLast? = some l) (hpath : path ≠ [])
  (hQ : ∀ c a w, Q (.panic c) (a.put oi.dst v) w -> Q (.panic c) a w) (hy : YieldsIf P ops S oi v a) (hS : S w)
  (h : YH P md ops Q S l fuel (listed.setIfInBounds i true) (a.put oi.dst v) w) : YH P md ops Q S l (fuel + 1) listed a w := by
 simp only [Bool.and_eq_true] at hs;obtain ⟨⟨⟨⟨h1, h2⟩, h3⟩, h4⟩, h5⟩ := hs;exact wpAnyL_first hi (Region.noSelect_spec h1) hQ h5 hlast hpath fuel listed a w (closed_of h4) (Region.free_spec hi h2) (by simpa using h3) hy hS h
theorem ZK {listed : Array Bool} {a : Act} {w : World} (hr : Region.ready md ops listed = []) (h : Q .normal a w) : ∀ fuel, YH P md ops Q S l fuel listed a w
 | 0 => ⟨hr, h⟩
 | _ + 1 => ⟨fun _ => h, by rw [hr]; simp⟩
def zh (P : Program) (md : Region.Mode) (ops : Array Oper) (Q : Exit -> Act -> World -> Prop) (S : World -> Prop) (l : Nat) (fuel : Nat) (listed : Array Bool) (a : Act) (w : World) (rs : List Nat) : Prop :=
 ∀ i ∈ rs, wpOp P ops Q i (fun a' w' => (i ≠ l -> S w') /\ YH P md ops Q S l fuel (listed.setIfInBounds i true) a' w') a w
theorem zh.nil {fuel : Nat} {listed : Array Bool} {a : Act} {w : World} : zh P md ops Q S l fuel listed a w [] := fun _ h => by cases h
theorem zh.cons {fuel : Nat} {listed : Array Bool} {a : Act} {w : World} {i : Nat} {o : Oper} {rs : List Nat} (ho : ops[i]? = some o)
  (h : ∀ K' : Act -> World -> Prop, Shut (∀ a w, (i ≠ l -> S w) -> ((i ≠ l -> S w) -> YH P md ops Q S l fuel (listed.setIfInBounds i true) a w) -> K' a w) -> if Region.wanted o (yielded ops a.tmps) = true then Oper.wp P o a w K' Q else K' (a.put o.dst undef) w)
  (hs : zh P md ops Q S l fuel listed a w rs) : zh P md ops Q S l fuel listed a w (i :: rs) := fun j hj => by
 rcases List.mem_cons.1 hj with rfl | hj
 ·exact wpOp_step ho (fun K' hK => h K' (fun a w hS hW => hK a w ⟨hS, hW hS⟩))
 ·exact hs j hj
theorem zo {rs : List Nat} {fuel : Nat} {listed : Array Bool} {a : Act} {w : World} (hr : Region.ready md ops listed = rs) (hne : rs ≠ [])
  (h : zh P md ops Q S l fuel listed a w rs) : YH P md ops Q S l (fuel + 1) listed a w := ⟨fun h0 => absurd (hr ▸ h0) hne, hr ▸ h⟩
theorem yA {id : Nat} {a : Act} {w : World} (l : Nat) (hm : P.follows .mixedOrders = true) (hS : S w.drew)
  (h : S w.drew -> YH P .any ops Q S l ops.size (Array.replicate ops.size false) a w.drew) : (Code.region id ops true).wp P Q a w :=
 wp_region_any hm (UE _ _ _ _ (h hS))
end

theorem zS {P : Program} {md : Region.Mode} {ops : Array Oper} {Q : Exit -> Act -> World -> Prop} {S : World -> Prop} (i : Nat) {oi : Oper} {v : Value} {fuel : Nat} {listed : Array Bool} {a a' : Act} {w : World} (h : wpAnyH P md ops Q S fuel (listed.setIfInBounds i true) a' w)
  (hi : ops[i]? = some oi := by rfl) (hs : (Region.noSelect ops && Region.free md ops listed i && (Region.ready md ops listed).contains i) = true := by kernel_rfl) (hQ : ∀ c a w, Q (.panic c) (a.put oi.dst v) w -> Q (.panic c) a w := by exact fun _ _ _ h => h)
  (hg : Region.wanted oi (yielded ops a.tmps) = true := by rfl) (hy : ∀ w, S w -> (execOp a.eval oi).run P w = .ok (.value v) w := by (intro w0 hSw; (try dsimp only at hSw); go_simp; (try with_reducible rfl))) (hS : S w := by assumption)
  (ha : a.put oi.dst v = a' := by (simp only [Act.put, List.getElem_toArray, List.getElem_cons_zero, List.getElem_cons_succ, List.setIfInBounds_toArray, List.set_cons_zero, List.set_cons_succ]; rfl)) : wpAnyH P md ops Q S (fuel + 1) listed a w := by
 simp only [Bool.and_eq_true] at hs;obtain ⟨⟨h1, h2⟩, h3⟩ := hs;exact wpAnyH_take hi h1 h2 h3 hQ (Or.inl ⟨hg, hy⟩) hS (ha ▸ h)
theorem yj {P : Program} {md : Region.Mode} {ops : Array Oper} {Q : Exit -> Act -> World -> Prop} {S : World -> Prop} {l : Nat} (i : Nat) (path : List Nat) {oi : Oper} {v : Value} {fuel : Nat} {listed : Array Bool} {a a' : Act} {w : World} (h : YH P md ops Q S l fuel (listed.setIfInBounds i true) a' w)
  (hi : ops[i]? = some oi := by rfl) (hs : (Region.noSelect ops && Region.free md ops listed i && (Region.ready md ops listed).contains i && Uz md ops listed && uN md ops (i :: path)) = true := by kernel_rfl) (hl : (i :: path).getLast? = some l := by rfl) (hp : path ≠ [] := by simp) (hQ : ∀ c a w, Q (.panic c) (a.put oi.dst v) w -> Q (.panic c) a w := by exact fun _ _ _ h => h)
  (hg : Region.wanted oi (yielded ops a.tmps) = true := by rfl) (hy : ∀ w, S w -> (execOp a.eval oi).run P w = .ok (.value v) w := by (intro w0 hSw; (try dsimp only at hSw); go_simp; (try with_reducible rfl))) (hS : S w := by assumption)
  (ha : a.put oi.dst v = a' := by (simp only [Act.put, List.getElem_toArray, List.getElem_cons_zero, List.getElem_cons_succ, List.setIfInBounds_toArray, List.set_cons_zero, List.set_cons_succ]; rfl)) : YH P md ops Q S l (fuel + 1) listed a w :=
 wpAnyL_take path hi hs hl hp hQ (Or.inl ⟨hg, hy⟩) hS (ha ▸ h)
theorem XK {P : Program} {md : Region.Mode} {ops : Array Oper} {Q : Exit -> Act -> World -> Prop} {S : World -> Prop} (i : Nat) {oi : Oper} {fuel : Nat} {listed : Array Bool} {a a' : Act} {w : World} (h : wpAnyH P md ops Q S fuel (listed.setIfInBounds i true) a' w)
  (hi : ops[i]? = some oi := by rfl) (hs : (Region.noSelect ops && Region.free md ops listed i && (Region.ready md ops listed).contains i) = true := by kernel_rfl) (hQ : ∀ c a w, Q (.panic c) (a.put oi.dst undef) w -> Q (.panic c) a w := by exact fun _ _ _ h => h)
  (hg : Region.wanted oi (yielded ops a.tmps) = false := by rfl) (hS : S w := by assumption)
  (ha : a.put oi.dst undef = a' := by (simp only [Act.put, List.getElem_toArray, List.getElem_cons_zero, List.getElem_cons_succ, List.setIfInBounds_toArray, List.set_cons_zero, List.set_cons_succ]; rfl)) : wpAnyH P md ops Q S (fuel + 1) listed a w := by
 simp only [Bool.and_eq_true] at hs;obtain ⟨⟨h1, h2⟩, h3⟩ := hs;exact wpAnyH_take hi h1 h2 h3 hQ (Or.inr ⟨hg, rfl⟩) hS (ha ▸ h)

theorem sA : (∀ (a : Act) (d : Tmp) (v : Value), a.put (some d) v = { a with tmps := a.tmps.setIfInBounds d v }) /\ (∀ (a : Act) (v : Value), a.put none v = a) /\ (∀ (l : List Value) (i : Nat) (v : Value), l.toArray.setIfInBounds i v = (l.set i v).toArray) /\ (∀ (x y : Value) (l : List Value), (x :: l).set 0 y = y :: l) /\ ∀ (x y : Value) (l : List Value) (i : Nat), (x :: l).set (i + 1) y = x :: l.set i y :=
 ⟨fun _ _ _ => rfl, fun _ _ => rfl, fun l i v => by simp, fun _ _ _ => rfl, fun _ _ _ _ => rfl⟩

def Yw (w : World) (X base : Nat) (u v : Value) (n : Nt) : Prop := zg w X [u, v] /\ Vr w base u n.pieces /\ XZ w base v n.joints
theorem Yw.lt {w : World} {X base : Nat} {u v : Value} {n : Nt} (h : Yw w X base u v n) : X < w.heap.size := h.1.1
theorem Yw.in_ {w : World} {X base : Nat} {u v : Value} {n : Nt} (h : Yw w X base u v n) : xi w X base n := ⟨u, v, h⟩
theorem Yw.blocks {w w' : World} {X base : Nat} {u v : Value} {n : Nt} (h : Yw w X base u v n) (hs : w.heap.size <= w'.heap.size) (hX : w'.heap[X]? = w.heap[X]?) (hb : ∀ k, base <= k -> k < w.heap.size -> w'.heap[k]? = w.heap[k]?) : Yw w' X base u v n :=
 ⟨h.1.blk hs hX, h.2.1.block fun k hk => hb k (h.2.1.lt k hk).1 (h.2.1.lt k hk).2, h.2.2.blocks hb⟩
theorem Yw.below {w w' : World} {X base : Nat} {u v : Value} {n : Nt} (h : Yw w X base u v n) (hb : Below w.heap.size w w') : Yw w' X base u v n :=
 h.blocks hb.size (hb.block X h.lt) fun k _ hk => hb.block k hk
theorem Yw.only {C : Nat} {w w' : World} {X base : Nat} {u v : Value} {n : Nt} (h : Yw w X base u v n) (ho : zP (fun k => k = C) w w') (hX : X ≠ C) (hC : C < base) : Yw w' X base u v n :=
 h.blocks ho.size (ho.block X h.lt hX) fun k hk hk' => ho.block k hk' (show ¬ k = C by omega)
theorem Yw.alloc {w : World} {X base : Nat} {u v : Value} {n : Nt} (h : Yw w X base u v n) (o : Obj) : Yw (w.alloc o) X base u v n := h.below (Below.alloc (Below.refl _ _) (Nat.le_refl _) _)
theorem zg.setI {w : World} {N : Nat} {vs : List Value} (h : zg w N vs) {i : Nat} (hi : i < vs.length) (x : Value) : zg (w.setCell ⟨N, i, none⟩ x) N (vs.set i x) := by
 refine ⟨by simpa [World.setCell] using h.1, fun j v hj => ?_, fun j => by simpa using h.2.2 j⟩
 by_cases e : j = i
 ·subst e;rw [World.cell?_setCell_same _ _ _ (h.2.1 j _ (List.getElem?_eq_getElem hi))]
  simpa [hi] using hj
 ·rw [World.cell?_setCell_other _ _ _ _ (by first | (simp; done) | (simp; omega))];rw [List.getElem?_set_ne (by omega)] at hj;exact h.2.1 j v hj
theorem pc_news {W : World} {N : Nat} {x : Pc} (h : zg W N (pcF x)) : ∀ j u, (pcF x)[j]? = some u -> W.cell? ((⟨N, 0, none⟩ : Addr).add j) = some u := by
 intro j u hj
 have hadd : (⟨N, 0, none⟩ : Addr).add j = ⟨N, j, none⟩ := by unfold Addr.add; split <;> simp_all
 rw [hadd];exact h.2.1 j u hj
theorem pc_one (x : Pc) : ∀ u ∈ pcF x, u.oneCell' = true := by
 intro u hu
 simp [pcF] at hu
 rcases hu with rfl | rfl | rfl | rfl <;> rfl
theorem Yw.addPiece {w w2 : World} {X base : Nat} {u v : Value} {n : Nt} {p : Pc} (h : Yw w X base u v n) (hX : X < base) {v' : Value} (hg : w.grownBy w2 u.ownBlock) (hown : Vr w2 base v' (n.pieces ++ [p])) : Yw (w2.setCell ⟨X, 0, none⟩ v') X base v' v ⟨n.pieces ++ [p], n.joints⟩ := by
 have hb := h.1.grownE hg (fun hc => by have := (h.2.1.lt _ hc).1; omega)
 have hj : XZ w2 base v n.joints := h.2.2.kept hg (fun k t cur hk hh => by
   obtain ⟨_, ⟨rfl, _⟩ | ⟨g, cap, cur', rfl, _, hh', _⟩⟩ := h.2.1
   ·simp [Value.ownBlock] at hk
   ·simp [Value.ownBlock] at hk
    subst hk;rw [hh] at hh'
    simp at hh'
    rw [hh'.2]
    decide) (fun k hk => by
   obtain ⟨_, ⟨rfl, _⟩ | ⟨g, cap, cur', rfl, _, hh', _⟩⟩ := h.2.1
   ·simp [Value.ownBlock] at hk
   ·simp [Value.ownBlock] at hk
    subst hk
    exact ⟨_, _, hh'⟩)
 exact ⟨hb.setI (i := 0) (by simp) v', hown.setCell (p := ⟨X, 0, none⟩) hX v', hj.blocks fun k hk _ => Below.heap_setCell w2 ⟨X, 0, none⟩ v' k (show k ≠ X by omega)⟩

def zI (bs : List Int) (c : Cu) (n : Nt) : Nt × Cu := (⟨n.pieces ++ [⟨ZX n.pieces.length, 20 + (Zj bs c 300).1, 100, 20⟩], n.joints⟩, (Zj bs c 300).2)

set_option maxRecDepth 100000 in
set_option maxHeartbeats 4000000 in
theorem vV (C P X base : Nat) (bs : List Int) (c : Cu) (n : Nt) (w : World) (hcu : Za w C bs c) (hbs : yy bs) (ha : c.at_ <= 100000000) (hP : zg w P [.pointer (some ⟨C, 0, none⟩)]) (hn : xi w X base n) (hl : n.pieces.length <= 1000) (hC : C < base) (hPb : P < base) (hX : X < base) (hCX : C < X) (hPC : P ≠ C) (hbase : base <= w.heap.size) :
  Calls Tryz.prog 84 #[.pointer (some ⟨P, 0, none⟩), .pointer (some ⟨X, 0, none⟩)] w fun e w' => e = .returned (.int .i64 n.pieces.length) /\ Za w' C bs (zI bs c n).2 /\ xi w' X base (zI bs c n).1 /\ Yi (fun k => k = C \/ k = X) base w w' := by
 obtain ⟨u, v, hN⟩ := hn;have hN : Yw w X base u v n := hN;obtain ⟨ua, ucap, hue, _⟩ := hN.2.1.shape Uv;subst hue;obtain ⟨i0, hi, hz0, hz1, hz2⟩ := info_parts qu;have HCU := zd hcu;have HN := zd hN;have HPB := zd hP;have x0 := hN.1.2.1 0 _ rfl;have xz := hN.1.2.2;have xl := hN.1.1;have p0 := hP.2.1 0 _ rfl;have pl := hP.1;clear hcu hN hP;have hwi := xB bs c (show (0 : Int) < 300 by omega);have HPD : Hid (zI bs c n = (⟨n.pieces ++ [⟨ZX n.pieces.length, 20 + (Zj bs c 300).1, 100, 20⟩], n.joints⟩, (Zj bs c 300).2)) := rfl;obtain ⟨r, hr⟩ : ∃ r, (Zj bs c 300).1 = r := ⟨_, rfl⟩;obtain ⟨c2, hc2⟩ : ∃ c2, (Zj bs c 300).2 = c2 := ⟨_, rfl⟩;rw [hr] at hwi HPD;rw [hc2] at HPD;have hwr : IntKind.i64.wrap (20 + r) = 20 + r := zj (by omega) (by omega);have HR := zd hr;have HC2 := zd hc2;clear hr hc2;go_enter Tryz.func84, Tryz.ntmps84;go_wp2_with fail;refine yA (S := fun w' => w'.cell? ⟨X, 0, none⟩ = some (.slice ua n.pieces.length ucap) /\ w'.cell? ⟨P, 0, none⟩ = some (.pointer (some ⟨C, 0, none⟩))) 22 (by kernel_rfl) ?_ (fun hHeld => ?_)
 ·exact ⟨by simpa using x0, by simpa using p0⟩
 refine yj 0 [20, 21, 22] ?_;refine yj 1 [2, 3, 4, 19, 20, 21, 22] ?_;refine yj 2 [3, 4, 19, 20, 21, 22] ?_;refine yj 3 [4, 19, 20, 21, 22] ?_;refine yj 4 [19, 20, 21, 22] ?_;refine yj 5 [6, 7, 8, 10, 15, 16, 17, 18, 19, 20, 21, 22] ?_;refine yj 6 [7, 8, 10, 15, 16, 17, 18, 19, 20, 21, 22] ?_;refine yj 7 [8, 10, 15, 16, 17, 18, 19, 20, 21, 22] ?_;refine yj 8 [10, 15, 16, 17, 18, 19, 20, 21, 22] ?_;refine yj 9 [10, 15, 16, 17, 18, 19, 20, 21, 22] ?_;refine yj 11 [12, 13, 14, 15, 16, 17, 18, 19, 20, 21, 22] ?_;refine yj 12 [13, 14, 15, 16, 17, 18, 19, 20, 21, 22] ?_;refine yj 13 [14, 15, 16, 17, 18, 19, 20, 21, 22] ?_;refine yj 14 [15, 16, 17, 18, 19, 20, 21, 22] ?_;refine zo (rs := [10]) (by kernel_rfl) (by simp) ?_;refine (zh.cons rfl (fun K hK => ?_) zh.nil);go_simp;refine (xI _ n.pieces.length _ (by omega)).mono ?_;rintro e w1 ⟨rfl, hb1⟩;dsimp only;have hB1 : Below w.heap.size w w1 := below_then bw0 hb1;have HCU1 := zd ((za HCU).below hB1);have HN1 := zd ((za HN).below hB1);have HPB1 := zd ((za HPB).below hB1);have hHeld1 := And.intro ((za HN1).1.2.1 0 _ rfl) ((za HPB1).2.1 0 _ rfl);have xl1 := (za HN1).1.1;have pl1 := (za HPB1).1;have hs1 := hB1.size;refine hK.out _ _ (fun _ => hHeld1) (fun _ => ?_);clear hK K
 (try simp only [sA])
 refine zo (rs := [15]) (by kernel_rfl) (by simp) ?_;refine (zh.cons rfl (fun K hK => ?_) zh.nil);go_simp;refine (xA C bs c 300 _ (za HCU1) hbs ha ⟨by omega, by omega⟩).mono ?_;rw [za HR, za HC2];rintro e w2 ⟨rfl, hcu2, ho2⟩;dsimp only;have HCU2 := zd hcu2;have HN2 := zd ((za HN1).only ho2 (by omega) hC);have HPB2 := zd ((za HPB1).onlyS ho2 hPC);have HBU2 : Hid (Yi (fun k => k = C \/ k = X) base w w2) := (ZC hB1 hbase).trans (yr ho2 (fun k _ h => Or.inl h) (by omega));have hHeld2 := And.intro ((za HN2).1.2.1 0 _ rfl) ((za HPB2).2.1 0 _ rfl);have xl2 := (za HN2).1.1;have pl2 := (za HPB2).1;have hs2 := ho2.size;clear hcu2;refine hK.out _ _ (fun _ => hHeld2) (fun _ => ?_);clear hK K
 (try simp only [sA])
 refine yj 16 [17, 18, 19, 20, 21, 22] ?_;refine yj 17 [18, 19, 20, 21, 22] ?_;refine zo (rs := [18]) (by kernel_rfl) (by simp) ?_;refine (zh.cons rfl (fun K hK => ?_) zh.nil);go_simp;have HN3 := zd ((za HN2).alloc (.cells #[.string (ZX n.pieces.length), .int .i64 (20 + r), .int .i64 100, .int .i64 20] 121));have HPB3 := zd ((za HPB2).alloc (.cells #[.string (ZX n.pieces.length), .int .i64 (20 + r), .int .i64 100, .int .i64 20] 121));have hHeld3 := And.intro ((za HN3).1.2.1 0 _ rfl) ((za HPB3).2.1 0 _ rfl);refine hK.out _ _ (fun _ => hHeld3) (fun _ => ?_);clear hK K
 (try simp only [sA])
 refine zo (rs := [19]) (by kernel_rfl) (by simp) ?_;refine (zh.cons rfl (fun K hK => ?_) zh.nil);refine step_append_lies _ rfl (.tmp 15) (.tmp 29) 23 rfl base 121 i0 (.agg #[.string ⟨#[]⟩, .int .i64 0, .int .i64 0, .int .i64 0]) 4 40 Tryz.underlying23 hi hz0 hz1 hz2 rfl (by decide) (.slice ua n.pieces.length ucap) n.pieces.length (n.pieces.flatMap pcF) (by simp [Act.eval]) (za HN3).2.1 _ 1 1 (pcF ⟨ZX n.pieces.length, 20 + r, 100, 20⟩) (by simp [Act.eval]) rfl (pc_news (x := ⟨ZX n.pieces.length, 20 + r, 100, 20⟩) (zf _ _ _)) (pc_one _) (by omega) (by unfold maxLen; omega) (by omega) (by simp; omega) _ rfl ?_;intro g gcap w3 hown3 hgrow hat3 hlt3;have hrow3 : Vr w3 base (.slice (some ⟨g, 0, none⟩) (n.pieces.length + 1) gcap) (n.pieces ++ [⟨ZX n.pieces.length, 20 + r, 100, 20⟩]) := zV.snoc (f := pcF) hown3;have HN4 := zd ((za HN3).addPiece hX hgrow hrow3)
 have hne : ∀ k, (Value.slice ua n.pieces.length ucap).ownBlock = some k -> base <= k := fun k hk => ((za HN3).2.1.lt k hk).1
 have hX3 := (za HN3).1.grownE hgrow (fun hc => by have := hne _ hc; omega);have hP3 := (za HPB3).grownE hgrow (fun hc => by have := hne _ hc; omega);have HBU3 : Hid (Yi (fun k => k = C \/ k = X) base w w3) := ((za HBU2).trans (ZC bw0 (show base <= w2.heap.size by omega))).grown hgrow (by simp; omega) hne;have HCU3 : Hid (Za w3 C bs c2) := (za HCU2).of_below (U := base) (Below.grown bw0 hgrow (by simp; omega) hne) hC;have hHeld4 := And.intro (hX3.2.1 0 _ rfl) (hP3.2.1 0 _ rfl);have x3 := hX3.2.1 0 _ rfl;have xz3 := hX3.2.2;have xl3 := hX3.1;refine hK.out _ _ (fun _ => hHeld4) (fun _ => ?_);clear hK K
 (try simp only [sA])
 refine yj 20 [21, 22] ?_;refine yj 21 [22] ?_;refine zo (rs := [22]) (by kernel_rfl) (by simp) ?_;refine (zh.cons rfl (fun K hK => ?_) zh.nil);go_simp;refine hK.out _ _ (fun h => absurd rfl h) (fun _ => ?_);clear hK K
 (try simp only [sA])
 refine ZK (by kernel_rfl) ?_ _

 go_wp2_with fail;go_ret;rw [za HPD];exact ⟨rfl, (za HCU3).of_below (U := C + 1) bw0 (by omega), (za HN4).in_, (za HBU3).trans (zY _ (Or.inl (Or.inr rfl)) _)⟩
end Go.Proofs.YthdioeofdofleaaGreatDoor
