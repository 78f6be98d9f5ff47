import Derived.Test.YthdioeofdofleaaGreatDoorMKw5
import Derived.Laws.Tables
import Derived.Test.YthdioeofdofleaaGreatDoorMKt9
import Derived.Test.YthdioeofdofleaaGreatDoorMKt1
namespace Go.Proofs.YthdioeofdofleaaGreatDoor
open Go.RowKit Go.Maps
variable {P : Program} {a : Act} {w w' wr : World} {ts : List Tr} {ms : List Nat} {p : Int} {i M base Mp N W kca kcsh kcst : Nat} {k0 k1 k2 mvv v' : Value} {n : Nt} {t : Tr} {ka ksh kst : Option Addr}
theorem fold_set (xs : List Value) : ∀ (cs : Array Value) (off : Nat), off + xs.length <= cs.size -> (xs.zipIdx 0).foldl (fun (c : Array Value) (p : Value × Nat) => c.setIfInBounds (off + p.2) p.1) cs = (cs.toList.take off ++ xs ++ cs.toList.drop (off + xs.length)).toArray := by
 have key : ∀ (xs : List Value) (cs : Array Value) (off m : Nat), off + m + xs.length <= cs.size -> (xs.zipIdx m).foldl (fun (c : Array Value) (p : Value × Nat) => c.setIfInBounds (off + p.2) p.1) cs = (cs.toList.take (off + m) ++ xs ++ cs.toList.drop (off + m + xs.length)).toArray := by
  intro xs
  induction xs with
  | nil => intro cs off m _; simp
  | cons x r ih =>
   intro cs off m h;simp only [List.length_cons] at h;rw [List.zipIdx_cons, List.foldl_cons];rw [ih (cs.setIfInBounds (off + m) x) off (m + 1) (by simp; omega)];apply congrArg List.toArray;rw [Array.toList_setIfInBounds]
   have h1 : (cs.toList.set (off + m) x).take (off + (m + 1)) = cs.toList.take (off + m) ++ [x] := by
    rw [show off + (m + 1) = (off + m) + 1 by omega, List.take_succ_eq_append_getElem (by simp; omega)];rw [List.take_set_of_le (Nat.le_refl _)]
    simp
   have h2 : (cs.toList.set (off + m) x).drop (off + (m + 1) + r.length) = cs.toList.drop (off + m + (r.length + 1)) := by
    rw [List.drop_set_of_lt (by omega)]
    congr 1
    omega
   rw [h1, h2]
   simp
 intro cs off h
 simpa using key xs cs off 0 (by omega)

theorem fill_two (Z : Array Value) (L : List Value) (v : Value) (hZ : Z.size = L.length + 2) (hv : v.cells = #[v]) :
  Instr.fill (fun i => (#[(0, L.length), (L.length, 1), (L.length + 1, 1)] : Array (Nat × Nat))[i]?) Z [(0, .agg L.toArray), (1, v)] = some (L ++ [v] ++ Z.toList.drop (L.length + 1)).toArray := by
 have e1 : (Value.agg L.toArray).cells = L.toArray := rfl;have h1 := fold_set L Z 0 (by omega)
 have hf1 : (L.toArray.zipIdx.foldl (fun (cs : Array Value) (x : Value × Nat) => match x with | (c, j) => cs.setIfInBounds (0 + j) c) Z) = (L ++ Z.toList.drop L.length).toArray := by
  rw [← Array.foldl_toList, Array.toList_zipIdx]
  simpa using h1
 have hs1 : (L ++ Z.toList.drop L.length).toArray.size = L.length + 2 := by simp; omega
 have h2 := fold_set [v] (L ++ Z.toList.drop L.length).toArray L.length (by rw [hs1]; simp)
 have hf2 : ((#[v] : Array Value).zipIdx.foldl (fun (cs : Array Value) (x : Value × Nat) => match x with | (c, j) => cs.setIfInBounds (L.length + j) c) (L ++ Z.toList.drop L.length).toArray) = (L ++ [v] ++ Z.toList.drop (L.length + 1)).toArray := by
  rw [← Array.foldl_toList, Array.toList_zipIdx]
  have h3 : (L ++ Z.toList.drop L.length).drop (L.length + 1) = Z.toList.drop (L.length + 1) := by
   rw [List.drop_append, List.drop_of_length_le (by omega), List.nil_append, show L.length + 1 - L.length = 1 by omega, List.drop_drop]
  simpa [h3] using h2
 unfold Instr.fill;simp only [e1];rw [show ((#[(0, L.length), (L.length, 1), (L.length + 1, 1)] : Array (Nat × Nat))[0]?) = some (0, L.length) from rfl];dsimp only;rw [if_neg (by simp; omega), hf1];unfold Instr.fill;rw [show ((#[(0, L.length), (L.length, 1), (L.length + 1, 1)] : Array (Nat × Nat))[1]?) = some (L.length, 1) from rfl];dsimp only;rw [hv, if_neg (by simp; omega), hf2];rfl

theorem mv_zero : Tryz.zeroCells95.toList.drop 413 = [.slice none 0 0] := by kernel_rfl
theorem mv_zsize : Tryz.zeroCells95.size = 414 := by kernel_rfl
theorem mv_built (L : List Value) (v : Value) : Tryz.prog.built 95 [(0, .agg L.toArray), (1, v)] = Instr.fill (fun i => (#[(0, 412), (412, 1), (413, 1)] : Array (Nat × Nat))[i]?) Tryz.zeroCells95 [(0, .agg L.toArray), (1, v)] := by kernel_rfl

def mvL (L : List Value) (k : Int) : List Value := L ++ [Value.int .i64 k, Value.slice none 0 0]
theorem mv_build (L : List Value) (hL : L.length = 412) (k : Int) (W : World) : (Instr.build 95 #[(0, .agg L.toArray), (1, .int .i64 k)]).run Tryz.prog W = .ok (.agg (mvL L k).toArray) W := by
 refine run_build W _ _ _ ?_;have h1 := mv_built L (.int .i64 k);have h2 := fill_two Tryz.zeroCells95 L (.int .i64 k) (by rw [mv_zsize, hL]) rfl;rw [hL] at h2;simp only [Nat.reduceAdd] at h2;rw [mv_zero] at h2
 show Tryz.prog.built 95 [(0, .agg L.toArray), (1, .int .i64 k)] = _
 rw [h1, h2]
 simp [mvL]
theorem mv_box (L : List Value) (W : World) : (Instr.box 95 (.agg L.toArray)).run Tryz.prog W = .ok (.pointer (some ⟨W.heap.size, 0, none⟩)) (W.alloc (.cells L.toArray 95)) := by kernel_rfl

theorem wp_build_of {o : Oper} {K : Act -> World -> Prop} {Q : Exit -> Act -> World -> Prop} (t : TypeId) (parts : Array (Nat × Operand)) (ho : o.op = .build t parts) (ps : Array (Nat × Value)) (v : Value)
  (hps : (parts.map fun (i, x) => (i, a.eval x)) = ps) (hrun : (Instr.build t ps).run P w = .ok v w) (h : K (a.put o.dst v) w) : o.wp P a w K Q := by
 unfold Oper.wp execOp;simp only [ho, Sem.run_bind, hps, hrun, Result.andThen_ok];exact h
theorem wp_box_of {o : Oper} {K : Act -> World -> Prop} {Q : Exit -> Act -> World -> Prop} (t : TypeId) (x : Operand) (ho : o.op = .box t x) (u v : Value) (hx : a.eval x = u) (hrun : (Instr.box t u).run P w = .ok v w') (h : K (a.put o.dst v) w') : o.wp P a w K Q := by
 unfold Oper.wp execOp;simp only [ho, Sem.run_bind, hx, hrun, Result.andThen_ok];exact h

def noTr' : Tr := ⟨⟨0, 0, 0⟩, 0, []⟩
def XW (L : Nat) (w : World) (a : Option Addr) (ts : List Tr) : Prop :=
 ∀ i (h : i < ts.length), ∃ b off ba bc, a = some ⟨b, off, none⟩ /\ (L <= b /\ b < w.heap.size) /\ w.cell? ⟨b, off + i * 5, none⟩ = some (.int .i64 ts[i].front.piece) /\ w.cell? ⟨b, off + i * 5 + 1, none⟩ = some (.int .i64 ts[i].front.at_)
  /\ w.cell? ⟨b, off + i * 5 + 2, none⟩ = some (.int .i64 ts[i].front.way) /\ w.cell? ⟨b, off + i * 5 + 3, none⟩ = some (.int .i64 ts[i].long) /\ w.cell? ⟨b, off + i * 5 + 4, none⟩ = some (.slice ba ts[i].back.length bc) /\ yw L w ba ts[i].back /\ ts[i].back.length <= bc
theorem XW.below {L : Nat} {a : Option Addr} (h : XW L w a ts) (hb : Below w.heap.size w w') : XW L w' a ts := by
 intro i hi;obtain ⟨b, off, ba, bc, ha, hlt, c0, c1, c2, c3, c4, hs, hc⟩ := h i hi;exact ⟨b, off, ba, bc, ha, ⟨hlt.1, Nat.lt_of_lt_of_le hlt.2 hb.size⟩, (hb.cell hlt.2).trans c0, (hb.cell hlt.2).trans c1, (hb.cell hlt.2).trans c2, (hb.cell hlt.2).trans c3, (hb.cell hlt.2).trans c4, hs.below hb, hc⟩

def xU (ms : List Nat) (cv : Nat -> List Pt) (p : Int) : List Nat := ((List.range ms.length).filter fun i => (cv i).any fun x => decide (x.piece = p)).map fun i => ms.getD i 0
theorem UY {cv : Nat -> List Pt} : ∀ q ∈ xU ms cv p, q ∈ ms := by
 intro q hq;obtain ⟨i, hi, rfl⟩ := List.mem_map.1 hq
 have h1 : i < ms.length := by simpa using (List.mem_filter.1 hi).1
 simp [List.getElem?_eq_getElem h1]
theorem lsOf_len {cv : Nat -> List Pt} : (xU ms cv p).length <= ms.length := by
 unfold xU;rw [List.length_map];exact Nat.le_trans (List.length_filter_le _ _) (by simp)
theorem lsOf_has {cv : Nat -> List Pt} (hi : i < ms.length) {x : Pt} (hx : x ∈ cv i) : ms[i] ∈ xU ms cv x.piece := by
 refine List.mem_map.2 ⟨i, List.mem_filter.2 ⟨by simpa using hi, ?_⟩, by simp [List.getElem?_eq_getElem hi]⟩;simp only [List.any_eq_true, decide_eq_true_eq];exact ⟨x, hx, rfl⟩
theorem lsOf_snoc {cv : Nat -> List Pt} {ps : List Pt} (hM : M ∉ ms) (hcv : cv ms.length = ps) : laid (xU ms cv) M ps = xU (ms ++ [M]) cv := by
 funext p
 have h1 : ¬ M ∈ xU ms cv p := fun h => hM (UY _ h)
 unfold laid;simp only [h1, decide_false, Bool.not_false, Bool.and_true]
 have h2 : xU (ms ++ [M]) cv p = xU ms cv p ++ (if (ps.any fun x => decide (x.piece = p)) = true then [M] else []) := by
  unfold xU;rw [List.length_append, List.length_singleton, List.range_succ, List.filter_append, List.map_append]
  congr 1
  ·apply List.map_congr_left;intro i hi
   have h3 : i < ms.length := by simpa using (List.mem_filter.1 hi).1
   simp [List.getElem?_append_left h3]
  ·rw [List.filter_cons, hcv]
   split <;> simp
 rw [h2]
 split <;> simp

structure MvAt (w : World) (base : Nat) (n : Nt) (k0 k1 k2 : Value) (M i : Nat) (t : Tr) : Prop where
 lo : base <= M
 ty : zx w M 95
 body : Zi w M 0 412 (zC k0 k1 k2 t.front t.long (zW n t) t.back)
 num : w.cell? ⟨M, 412, none⟩ = some (.int .i64 i)
 cov : ∃ v, w.cell? ⟨M, 413, none⟩ = some v /\ ZM w base v (zi n t)
 free : ∀ j, w.frozen? ⟨M, j, none⟩ = false

structure Vp (w : World) (base W : Nat) (n : Nt) (ka ksh kst : Option Addr) (kca kcsh kcst Mp N : Nat) (mvv : Value) (ms : List Nat) (ts : List Tr) : Prop where
 lo : base <= W /\ base <= Mp
 ty : zx w W 74
 c0 : w.cell? ⟨W, 0, none⟩ = some (.slice ka n.pieces.length kca)
 c1 : w.cell? ⟨W, 1, none⟩ = some (.slice ksh n.joints.length kcsh)
 c2 : w.cell? ⟨W, 2, none⟩ = some (.slice kst n.pieces.length kcst)
 c3 : w.cell? ⟨W, 3, none⟩ = some mvv
 c4 : w.cell? ⟨W, 4, none⟩ = some (.map (some Mp))
 free : ∀ j, w.frozen? ⟨W, j, none⟩ = false
 row : YE w base mvv ms
 len : ms.length = ts.length
 nodup : ms.Nodup
 mvs : ∀ i (h : i < ms.length), MvAt w base n (.slice ka n.pieces.length kca) (.slice ksh n.joints.length kcsh) (.slice kst n.pieces.length kcst) ms[i] i (ts.getD i noTr')
 lying : zZ w base Mp N (xU ms fun i => zi n (ts.getD i noTr')) (fun k => mvv.ownBlock = some k)

theorem GB.same {B : Nat} {s : Sp} {long sp : Int} {xs : List St} (h : GB w B k0 k1 k2 s long sp xs) (hb : w'.heap[B]? = w.heap[B]?) (hs : w.heap.size <= w'.heap.size) : GB w' B k0 k1 k2 s long sp xs := by
 obtain ⟨f, fs, ho, hi⟩ := h;exact ⟨f, fs, ho.of_block hb hs, hi⟩
theorem MvAt.kept (h : MvAt w base n k0 k1 k2 M i t) (hM : w'.heap[M]? = w.heap[M]?) (hs : w.heap.size <= w'.heap.size) (hC : ∀ k, zx w k 103 -> w'.heap[k]? = w.heap[k]?) : MvAt w' base n k0 k1 k2 M i t := by
 obtain ⟨h1, h2, h3, h4, ⟨v, h5, h6⟩, h7⟩ := h;exact ⟨h1, h2.same hM, h3.of_block hM hs, (World.cell?_of_block (w := w) (a := ⟨M, 412, none⟩) hM).trans h4, ⟨v, (World.cell?_of_block (w := w) (a := ⟨M, 413, none⟩) hM).trans h5, h6.block fun k hk => hC k (h6.ty hk)⟩, fun j => (World.frozen?_of_block (w := w) (a := ⟨M, j, none⟩) hM).trans (h7 j)⟩
theorem zZ.cv {ls ls' : Int -> List Nat} {av : Nat -> Prop} (h : zZ w base Mp N ls av) (e : ls = ls') : zZ w base Mp N ls' av := e ▸ h

theorem lsOf_congr {cv cv' : Nat -> List Pt} (h : ∀ i, i < ms.length -> cv i = cv' i) : xU ms cv = xU ms cv' := by
 funext p
 unfold xU
 congr 1
 apply List.filter_congr;intro i hi;rw [h i (by simpa using hi)]

theorem wld_append {W1 w5 : World} {o : Obj}
  (h : Vp wr base W n ka ksh kst kca kcsh kcst Mp N mvv ms ts) (hb1 : Below wr.heap.size wr W1) (hgrow : (W1.alloc o).grownBy w5 mvv.ownBlock) (hown : YE w5 base v' (ms ++ [M])) (hat : v'.ownBlock = mvv.ownBlock \/ ∃ g, v'.ownBlock = some g /\ wr.heap.size <= g) :
  (∀ k, k < wr.heap.size -> k ≠ W -> some k ≠ mvv.ownBlock -> (w5.setCell ⟨W, 3, none⟩ v').heap[k]? = wr.heap[k]?) /\ zx (w5.setCell ⟨W, 3, none⟩ v') W 74
  /\ (∀ j, j ≠ 3 -> (w5.setCell ⟨W, 3, none⟩ v').cell? ⟨W, j, none⟩ = wr.cell? ⟨W, j, none⟩) /\ (w5.setCell ⟨W, 3, none⟩ v').cell? ⟨W, 3, none⟩ = some v' /\ (∀ j, (w5.setCell ⟨W, 3, none⟩ v').frozen? ⟨W, j, none⟩ = false)
  /\ YE (w5.setCell ⟨W, 3, none⟩ v') base v' (ms ++ [M]) /\ zZ (w5.setCell ⟨W, 3, none⟩ v') base Mp N (xU ms fun i => zi n (ts.getD i noTr')) (fun k => v'.ownBlock = some k)
  /\ wr.heap.size <= (w5.setCell ⟨W, 3, none⟩ v').heap.size := by
 have hWl := h.ty.lt;have hs1 := hb1.size;have hg := hgrow.size;rw [World.size_alloc] at hg
 have hnW : some W ≠ mvv.ownBlock := fun e => absurd ((h.row.ty e.symm).unique h.ty) (by decide)
 have hblk : ∀ k, k < wr.heap.size -> some k ≠ mvv.ownBlock -> w5.heap[k]? = wr.heap[k]? := fun k hk hne => by
  rw [hgrow.block k (by rw [World.size_alloc]; omega) hne, ((Below.refl W1.heap.size W1).alloc (Nat.le_refl _) o).block k (by omega)];exact hb1.block k hk
 have hWb := hblk W hWl hnW
 have hset : ∀ k, k ≠ W -> (w5.setCell ⟨W, 3, none⟩ v').heap[k]? = w5.heap[k]? := fun k hk => Below.heap_setCell w5 ⟨W, 3, none⟩ v' k hk
 have hall : ∀ k, k < wr.heap.size -> k ≠ W -> some k ≠ mvv.ownBlock -> (w5.setCell ⟨W, 3, none⟩ v').heap[k]? = wr.heap[k]? := fun k hk h1 h2 => (hset k h1).trans (hblk k hk h2)
 have hMpl := h.lying.lt;refine ⟨hall, Zq (h.ty.same hWb) _ _, fun j hj => ?_, ?_, fun j => ?_, ?_, ?_, by simp [World.setCell]; omega⟩
 ·rw [World.cell?_setCell_other _ _ _ _ (by simp; try exact hj)];exact World.cell?_of_block (w := wr) (a := ⟨W, j, none⟩) hWb
 ·exact World.cell?_setCell_same _ _ _ ((World.cell?_of_block (w := wr) (a := ⟨W, 3, none⟩) hWb).trans h.c3)
 ·rw [World.frozen?_setCell];exact (World.frozen?_of_block (w := wr) (a := ⟨W, j, none⟩) hWb).trans (h.free j)
 ·exact hown.block fun k hk => hset k (fun e => by subst e; exact absurd ((hown.ty hk).unique (h.ty.same hWb)) (by decide))
 ·have hMpW : Mp ≠ W := fun e => h.lying.notCells h.ty.cells e.symm
  have hMpv : some Mp ≠ mvv.ownBlock := fun e => h.lying.notCells (h.row.ty e.symm).cells rfl
  have h1 : zZ (w5.setCell ⟨W, 3, none⟩ v') base Mp N (xU ms fun i => zi n (ts.getD i noTr')) (fun k => mvv.ownBlock = some k) :=
   h.lying.kept (hall Mp hMpl hMpW hMpv) fun k hk hne => hall k hk.lt (fun e => by subst e; exact absurd (hk.unique h.ty) (by decide)) (fun e => hne e.symm)
  obtain ⟨f, f1, f2, f3, f4⟩ := h.lying;obtain ⟨g, g1, g2, g3, g4⟩ := h1
  rcases hat with e | ⟨g0, e, hge⟩
  ·exact ⟨g, g1, g2, g3, fun p k hk ha => g4 p k hk (by rw [← e]; exact ha)⟩
  ·have hlt : ∀ p k, (f p).ownBlock = some k -> k < wr.heap.size := fun p k hk => ((f2 p).lt k hk).2
   have hM' : yU (w5.setCell ⟨W, 3, none⟩ v') Mp N f := f1.of_block (hall Mp hMpl hMpW hMpv);refine ⟨f, hM', fun p => (f2 p).block fun k hk => hall k (hlt p k hk) (fun e => by subst e; exact absurd (((f2 p).ty hk).unique h.ty) (by decide)) (fun e => f4 p k hk e.symm), f3, fun p k hk ha => ?_⟩;rw [e] at ha;have := hlt p k hk
   have : g0 = k := by simpa using ha
   omega

theorem wld_lay {w6 w7 : World} {N' : Nat} 
  (h : Vp wr base W n ka ksh kst kca kcsh kcst Mp N mvv ms ts) (hall : ∀ k, k < wr.heap.size -> k ≠ W -> some k ≠ mvv.ownBlock -> w6.heap[k]? = wr.heap[k]?) (hty : zx w6 W 74)
  (hcs : ∀ j, j ≠ 3 -> w6.cell? ⟨W, j, none⟩ = wr.cell? ⟨W, j, none⟩) (hc3 : w6.cell? ⟨W, 3, none⟩ = some v') (hfr : ∀ j, w6.frozen? ⟨W, j, none⟩ = false) (hrow : YE w6 base v' (ms ++ [M])) (hs6 : wr.heap.size <= w6.heap.size)
  (hM : wr.heap.size <= M) (hMty : zx w6 M 95) (hL6 : Mp < wr.heap.size) (hT : ZR (fun k => k = M \/ k = Mp \/ (base <= k /\ ¬ v'.ownBlock = some k /\ zx w6 k 77)) w6 w7)
  (hL7 : zZ w7 base Mp N' (laid (xU ms fun i => zi n (ts.getD i noTr')) M (zi n t)) (fun k => v'.ownBlock = some k)) (hMv : MvAt w7 base n (.slice ka n.pieces.length kca) (.slice ksh n.joints.length kcsh) (.slice kst n.pieces.length kcst) M ms.length t) :
  Vp w7 base W n ka ksh kst kca kcsh kcst Mp N' v' (ms ++ [M]) (ts ++ [t]) := by
 have hWl := h.ty.lt
 have hMpW : Mp ≠ W := fun e => h.lying.notCells h.ty.cells e.symm
 have hMp6 : w6.heap[Mp]? = wr.heap[Mp]? := hall Mp hL6 hMpW (fun e => h.lying.notCells (h.row.ty e.symm).cells rfl)
 have notMp : ∀ {k T}, zx w6 k T -> k ≠ Mp := fun {k T} hk e => by
  subst e;obtain ⟨c, hk⟩ := hk;rw [hMp6] at hk;exact h.lying.notCells ⟨c, T, hk⟩ rfl
 have hother : ∀ {k T}, zx w6 k T -> k ≠ M -> T ≠ 77 -> w7.heap[k]? = w6.heap[k]? := fun {k T} hk hne hTT => hT.block k hk.lt (by
  rintro (e | e | ⟨_, _, e⟩)
  ·exact hne e
  ·exact notMp hk e
  ·exact hTT (hk.unique e))
 have hW7 := hother hty (by omega) (by decide)
 have hmi : ∀ i (hi : i < ms.length), ms[i] < wr.heap.size := fun i hi => (h.mvs i hi).ty.lt
 have hMms : M ∉ ms := fun hm => by
  obtain ⟨i, hi, e⟩ := List.getElem_of_mem hm;have := hmi i hi;omega
 have hold : ∀ {k T}, zx wr k T -> T ≠ 77 -> T ≠ 74 -> w7.heap[k]? = wr.heap[k]? := fun {k T} hk h1 h2 => by
  have e6 := hall k hk.lt (fun e => by subst e; exact h2 (hk.unique h.ty)) (fun e => h1 (hk.unique (h.row.ty e.symm)));rw [hother (hk.same e6) (by have := hk.lt; omega) h1, e6]
 have hs7 := hT.size
 have hgd : ∀ i, i < ms.length -> (ts ++ [t]).getD i noTr' = ts.getD i noTr' := fun i hi => by
  have := h.len
  simp [List.getElem?_append_left (show i < ts.length by omega)]
 have hgl : (ts ++ [t]).getD ms.length noTr' = t := by
  rw [h.len]
  simp
 refine ⟨h.lo, hty.same hW7, ?_, ?_, ?_, ?_, ?_, fun j => ?_, ?_, by simp [h.len], ?_, fun i hi => ?_, ?_⟩
 ·exact ((World.cell?_of_block (w := w6) (a := ⟨W, 0, none⟩) hW7).trans (hcs 0 (by omega))).trans h.c0
 ·exact ((World.cell?_of_block (w := w6) (a := ⟨W, 1, none⟩) hW7).trans (hcs 1 (by omega))).trans h.c1
 ·exact ((World.cell?_of_block (w := w6) (a := ⟨W, 2, none⟩) hW7).trans (hcs 2 (by omega))).trans h.c2
 ·exact (World.cell?_of_block (w := w6) (a := ⟨W, 3, none⟩) hW7).trans hc3
 ·exact ((World.cell?_of_block (w := w6) (a := ⟨W, 4, none⟩) hW7).trans (hcs 4 (by omega))).trans h.c4
 ·exact (World.frozen?_of_block (w := w6) (a := ⟨W, j, none⟩) hW7).trans (hfr j)
 ·refine hrow.block fun k hk => hT.block k (hrow.lt k hk).2 ?_
  rintro (e | e | ⟨_, e, _⟩)
  ·subst e; exact absurd ((hrow.ty hk).unique hMty) (by decide)
  ·exact notMp (hrow.ty hk) e
  ·exact e hk
 ·rw [List.nodup_append];refine ⟨h.nodup, by simp, fun a ha b hb e => ?_⟩
  have hbM : b = M := by simpa using hb
  exact hMms (by rw [← hbM, ← e]; exact ha)
 ·by_cases e : i < ms.length
  ·rw [List.getElem_append_left e, hgd i e];have hm := h.mvs i e
   refine hm.kept (hold hm.ty (by decide) (by decide)) (by omega) fun k hk => hold hk (by decide) (by decide)
  ·have ei : i = ms.length := by simp at hi; omega
   subst ei;rw [hgl]
   simpa using hMv
 ·refine hL7.cv ?_;rw [lsOf_congr (cv' := fun i => zi n ((ts ++ [t]).getD i noTr')) (fun i hi => by rw [hgd i hi])];exact lsOf_snoc hMms (by rw [hgl])
end Go.Proofs.YthdioeofdofleaaGreatDoor
