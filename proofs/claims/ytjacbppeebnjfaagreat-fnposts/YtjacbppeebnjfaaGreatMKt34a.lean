import Derived.Test.YtjacbppeebnjfaaGreatMRf
import Derived.Test.YtjacbppeebnjfaaGreatMPlain7
import Derived.Test.YtjacbppeebnjfaaGreatMPlain2
import Derived.Test.YtjacbppeebnjfaaGreatMKt17
import Derived.Test.YtjacbppeebnjfaaGreatMPs1
namespace Go.Proofs.YtjacbppeebnjfaaGreat
open Go.RowKit

theorem Only.step {S T : Nat → Prop} {a b c : World} (h : Only S a b) (k : Only T b c) (hT : ∀ i, i < a.heap.size → T i → S i) : Only S a c := by
 refine ⟨k.os.trans h.os, k.tape.trans h.tape, k.output.trans h.output, Nat.le_trans h.size k.size, fun i hi hs => (k.block i (Nat.lt_of_lt_of_le hi h.size) (fun ht => hs (hT i hi ht))).trans (h.block i hi hs), fun i c t fr hc => ?_⟩
 obtain ⟨c1, h1, e1⟩ := h.shape i c t fr hc
 obtain ⟨c2, h2, e2⟩ := k.shape i c1 t fr h1
 exact ⟨c2, h2, e2.trans e1⟩

theorem GB.onlyS {S : Nat → Prop} {w w' : World} {B : Nat} {k0 k1 k2 : Value} {s : Sp} {long sp : Int} {xs : List St} (h : GB w B k0 k1 k2 s long sp xs) (ho : Only S w w') (hB : ¬ S B) : GB w' B k0 k1 k2 s long sp xs := by
 obtain ⟨f, fs, h1, h2⟩ := h
 exact ⟨f, fs, h1.of_block (ho.block B h1.1 hB) ho.size, h2⟩

structure RunAt (w0 : World) (n : Nt) (zs : List Int) (long F : Int) (m0 : Mv) (B base : Nat) (k0 k1 k2 : Value) (m : Mv) (ov : Value) (sx : List Sx) (W : World) : Prop where
 goes : Goes n zs long F m0 m
 gb : GB W B k0 k1 k2 m.s long (spareOf n long m.s m.xs) m.xs
 x0 : Boxed W w0.heap.size [.pointer (some ⟨B, 0, none⟩)]
 x1 : Boxed W (w0.heap.size + 1) [.int .i64 F]
 x2 : Boxed W (w0.heap.size + 1 + 1) [.slice none 0 0, .int .i64 0]
 x3 : Boxed W (w0.heap.size + 1 + 1 + 1) [.nilIface]
 x4 : Boxed W (w0.heap.size + 1 + 1 + 1 + 1) [ov, .int .i64 m.far]
 row : SxRow W base ov sx
 over : OvS n zs long m0 m sx
 oks : ∀ x ∈ sx, SxOk n x
 only : OnB B w0 W

theorem RunAt.keep {w0 : World} {n : Nt} {zs : List Int} {long F : Int} {m0 : Mv} {B base : Nat} {k0 k1 k2 : Value} {m : Mv} {ov : Value} {sx : List Sx} {W W' : World} {T : Nat → Prop}
  (h : RunAt w0 n zs long F m0 B base k0 k1 k2 m ov sx W) (ho : Only T W W') (hB : B < w0.heap.size) (hT : ∀ k, T k → w0.heap.size + 5 ≤ k ∧ k < base) : RunAt w0 n zs long F m0 B base k0 k1 k2 m ov sx W' := by
 have hn : ∀ k, k < w0.heap.size + 5 → ¬ T k := fun k hk ht => by have := (hT k ht).1; omega
 exact ⟨h.goes, h.gb.onlyS ho (hn B (by omega)), h.x0.onlyS ho (hn _ (by omega)), h.x1.onlyS ho (hn _ (by omega)), h.x2.onlyS ho (hn _ (by omega)), h.x3.onlyS ho (hn _ (by omega)), h.x4.onlyS ho (hn _ (by omega)),
  h.row.only ho (fun k hk ht => by have h1 := (h.row.lt k hk).1; have h2 := (hT k ht).2; omega), h.over, h.oks, h.only.step ho (fun i hi ht => absurd ht (hn i (by omega)))⟩

theorem RunAt.below {w0 : World} {n : Nt} {zs : List Int} {long F : Int} {m0 : Mv} {B base : Nat} {k0 k1 k2 : Value} {m : Mv} {ov : Value} {sx : List Sx} {W W' : World}
  (h : RunAt w0 n zs long F m0 B base k0 k1 k2 m ov sx W) (ho : Below W.heap.size W W') (hB : B < w0.heap.size) : RunAt w0 n zs long F m0 B base k0 k1 k2 m ov sx W' :=
 h.keep (T := fun _ => False) (only_of_below ho) hB (fun _ h => h.elim)

def RunIs (n : Nt) (zs : List Int) (long F : Int) (m0 : Mv) (m : Mv) (code joint : Int) : Prop :=
 (SitsAll n zs m0.s m0.xs ∧ Goes n zs long F m0 m ∧ MEnd n zs F m code joint) ∨ (¬ SitsAll n zs m0.s m0.xs ∧ m = m0 ∧ code = 4 ∧ joint = -1)

def errV (code joint : Int) : Value := if code = 0 then .nilIface else .iface 113 (.agg #[.int .i64 code, .int .i64 joint])
structure RunEnd (w0 : World) (n : Nt) (zs : List Int) (long F : Int) (m0 : Mv) (B base : Nat) (k0 k1 k2 : Value) (m : Mv) (ov : Value) (sx : List Sx) (code joint : Int) (W : World) : Prop where
 goes : Goes n zs long F m0 m
 mend : MEnd n zs F m code joint
 gb : GB W B k0 k1 k2 m.s long (spareOf n long m.s m.xs) m.xs
 x2 : Boxed W (w0.heap.size + 1 + 1) [ov, .int .i64 m.far]
 x3 : Boxed W (w0.heap.size + 1 + 1 + 1) [errV code joint]
 row : SxRow W base ov sx
 over : OvS n zs long m0 m sx
 oks : ∀ x ∈ sx, SxOk n x
 few : sx.length ≤ 10001
 only : OnB B w0 W

theorem RunEnd.keep {w0 : World} {n : Nt} {zs : List Int} {long F : Int} {m0 : Mv} {B base : Nat} {k0 k1 k2 : Value} {m : Mv} {ov : Value} {sx : List Sx} {code joint : Int} {W W' : World} {T : Nat → Prop}
  (h : RunEnd w0 n zs long F m0 B base k0 k1 k2 m ov sx code joint W) (ho : Only T W W') (hB : B < w0.heap.size) (hT : ∀ k, T k → w0.heap.size + 5 ≤ k ∧ k < base) : RunEnd w0 n zs long F m0 B base k0 k1 k2 m ov sx code joint W' := by
 have hn : ∀ k, k < w0.heap.size + 5 → ¬ T k := fun k hk ht => by have := (hT k ht).1; omega
 exact ⟨h.goes, h.mend, h.gb.onlyS ho (hn B (by omega)), h.x2.onlyS ho (hn _ (by omega)), h.x3.onlyS ho (hn _ (by omega)),
  h.row.only ho (fun k hk ht => by have h1 := (h.row.lt k hk).1; have h2 := (hT k ht).2; omega), h.over, h.oks, h.few, h.only.step ho (fun i hi ht => absurd ht (hn i (by omega)))⟩

theorem RunAt.finish {w0 : World} {n : Nt} {zs : List Int} {long F : Int} {m0 : Mv} {B base : Nat} {k0 k1 k2 : Value} {m : Mv} {ov : Value} {sx : List Sx} {code joint : Int} {W : World}
  (h : RunAt w0 n zs long F m0 B base k0 k1 k2 m ov sx W) (he : MEnd n zs F m code joint) (hB : B < w0.heap.size) (hbase : w0.heap.size + 5 ≤ base) (hf : sx.length ≤ 10001) {ev : Value} (hev : ev = errV code joint) :
  RunEnd w0 n zs long F m0 B base k0 k1 k2 m ov sx code joint (((W.setCell ⟨w0.heap.size + 1 + 1, 0, none⟩ ov).setCell ⟨w0.heap.size + 1 + 1, 1, none⟩ (.int .i64 m.far)).setCell ⟨w0.heap.size + 1 + 1 + 1, 0, none⟩ ev) := by
 have ho : Only (fun k => k = w0.heap.size + 1 + 1 ∨ k = w0.heap.size + 1 + 1 + 1) W (((W.setCell ⟨w0.heap.size + 1 + 1, 0, none⟩ ov).setCell ⟨w0.heap.size + 1 + 1, 1, none⟩ (.int .i64 m.far)).setCell ⟨w0.heap.size + 1 + 1 + 1, 0, none⟩ ev) :=
  ((only_setCell W (p := ⟨w0.heap.size + 1 + 1, 0, none⟩) (Or.inl rfl) _).trans (only_setCell _ (p := ⟨w0.heap.size + 1 + 1, 1, none⟩) (Or.inl rfl) _)).trans (only_setCell _ (p := ⟨w0.heap.size + 1 + 1 + 1, 0, none⟩) (Or.inr rfl) _)
 have hx2 := ((h.x2.setAt (i := 0) (by simp) ov).setAt (i := 1) (by simp) (.int .i64 m.far)).onlyS (only_setCell (S := fun k => k = w0.heap.size + 1 + 1 + 1) _ (p := ⟨w0.heap.size + 1 + 1 + 1, 0, none⟩) rfl ev) (show ¬ w0.heap.size + 1 + 1 = w0.heap.size + 1 + 1 + 1 by omega)
 have hx3 := (h.x3.onlyS (((only_setCell (S := fun k => k = w0.heap.size + 1 + 1) W (p := ⟨w0.heap.size + 1 + 1, 0, none⟩) rfl ov)).trans (only_setCell (S := fun k => k = w0.heap.size + 1 + 1) _ (p := ⟨w0.heap.size + 1 + 1, 1, none⟩) rfl (.int .i64 m.far))) (show ¬ w0.heap.size + 1 + 1 + 1 = w0.heap.size + 1 + 1 by omega)).setAt (i := 0) (by simp) ev
 exact ⟨h.goes, he, h.gb.onlyS ho (by omega), by simpa using hx2, by rw [← hev]; simpa using hx3, h.row.only ho (fun k hk ht => by have h1 := (h.row.lt k hk).1; omega), h.over, h.oks, hf, h.only.step ho (fun i hi ht => by omega)⟩

theorem roll_next {n : Nt} (hG : NetGood n) {zs : List Int} {long F : Int} {m0 m : Mv} (hM : MvOk n long F m) (hg : Goes n zs long F m0 m) :
  ∃ m2 : Mv, Goes n zs long F m0 m2 ∧ m2.s = rolledSp n m.s (F - m.far) ∧ m2.xs = takeLen n long (behind n (rolledSp n m.s (F - m.far))) m.xs ∧ m2.far = m.far + (rollTo n m.s (F - m.far) - behind n m.s)
   ∧ OvN n zs long m m2 (behind n m.s) (rollTo n m.s (F - m.far)) ∧ (m2.far ≠ F → room n m2.s = 0) ∧ (0 < room n m.s → m.far < F → m.far + 1 ≤ m2.far) := by
 have hf := hM.farF
 have hlen := hG.len hM.spot.1.1 hM.spot.1.2
 have hb : behind n m.s = lenOf n m.s.piece - room n m.s := rfl
 have hr : 0 ≤ room n m.s := by have := hM.spot.2.2; unfold room; split <;> omega
 obtain ⟨g1, g2, g3, g4⟩ := roll_le hG hM.spot (show (0 : Int) ≤ F - m.far by omega)
 by_cases hlt : behind n m.s < rollTo n m.s (F - m.far)
 ·have hroom : 0 < room n m.s := by omega
  have hfar : m.far < F := by omega
  refine ⟨rollM n long F m, .step hg (.roll hfar hroom), rfl, rfl, rfl, ?_, fun hne => ?_, fun _ _ => ?_⟩
  ·exact ovN_roll hG hM hlt
  ·exact roll_end hG hM.spot hf hne
  ·show m.far + 1 ≤ m.far + (rollTo n m.s (F - m.far) - behind n m.s)
   omega
 ·have he : rollTo n m.s (F - m.far) = behind n m.s := by omega
  have h0 : room n m.s = 0 ∨ m.far = F := by
   by_cases h1 : room n m.s = 0
   ·exact Or.inl h1
   ·refine Or.inr ?_
    by_cases h2 : m.far = F
    ·exact h2
    ·exact absurd (g4 (by omega) (by omega)) hlt
  obtain ⟨e1, e2, e3⟩ := roll_none hG hM h0
  refine ⟨m, hg, e2.symm, e3.symm, by omega, ?_, fun hne => ?_, fun h1 h2 => ?_⟩
  ·exact ovN_none m hlt g1
  ·rcases h0 with h0 | h0
   ·exact h0
   ·exact absurd h0 hne
  ·rcases h0 with h0 | h0 <;> omega

theorem spare_le {n : Nt} (hG : NetGood n) {long F : Int} (hl : 0 < long) {m : Mv} (hM : MvOk n long F m) : 0 ≤ spareOf n long m.s m.xs ∧ spareOf n long m.s m.xs ≤ 10000000 := by
 have he := hM.enough
 have hb := spot_behind hG hM.spot
 refine ⟨by unfold spareOf; omega, ?_⟩
 rcases List.eq_nil_or_concat m.xs with hx | ⟨ys, y, hx⟩
 ·unfold spareOf
  rw [hx, sumLen_nil]
  omega
 ·have ht := hM.trim ys.length (by rw [hx]; simp)
  have hy := hM.steps y (by rw [hx]; simp)
  have hlen := hG.len hy.1.1 hy.1.2
  unfold spareOf
  rw [hx] at ht ⊢
  simp only [List.concat_eq_append] at ht ⊢
  rw [List.take_left'] at ht
  ·rw [sumLen_append, sumLen_cons, sumLen_nil]
   omega
  ·rfl

theorem Boxed.belowU {w w' : World} {N U : Nat} {vs : List Value} (h : Boxed w N vs) (hb : Below U w w') (hN : N < U) : Boxed w' N vs :=
 ⟨Nat.lt_of_lt_of_le h.1 hb.size, fun i v hi => by rw [World.cell?_of_block (w := w) (a := ⟨N, i, none⟩) (hb.block N hN)]; exact h.2.1 i v hi, fun i => by rw [World.frozen?_of_block (w := w) (a := ⟨N, i, none⟩) (hb.block N hN)]; exact h.2.2 i⟩
theorem GB.belowU {w w' : World} {B U : Nat} {k0 k1 k2 : Value} {s : Sp} {long sp : Int} {xs : List St} (h : GB w B k0 k1 k2 s long sp xs) (hb : Below U w w') (hB : B < U) : GB w' B k0 k1 k2 s long sp xs := by
 obtain ⟨f, fs, h1, h2⟩ := h
 exact ⟨f, fs, h1.of_block (hb.block B hB) hb.size, h2⟩
theorem LoopAt.belowU {l D U : Nat} {r : Loop} {w w' : World} (h : LoopAt l D r w) (hb : Below U w w') (h1 : l < U) (h2 : D < U) : LoopAt l D r w' := ⟨(hb.block l h1).trans h.1, (hb.block D h2).trans h.2⟩

theorem run_rolled {w0 : World} {n : Nt} {zs : List Int} {long F : Int} {m0 m2 : Mv} {B base : Nat} {k0 k1 k2 ov v' : Value} {sx : List Sx} {x : Sx} {fr : Int} {W1 w3 : World} (hB : B < w0.heap.size) (hbase : w0.heap.size + 5 ≤ base)
  (hg2 : Goes n zs long F m0 m2) (hgb : GB W1 B k0 k1 k2 m2.s long (spareOf n long m2.s m2.xs) m2.xs) (y0 : Boxed W1 w0.heap.size [.pointer (some ⟨B, 0, none⟩)]) (y1 : Boxed W1 (w0.heap.size + 1) [.int .i64 F]) (y2 : Boxed W1 (w0.heap.size + 1 + 1) [.slice none 0 0, .int .i64 0])
  (y3 : Boxed W1 (w0.heap.size + 1 + 1 + 1) [.nilIface]) (y4 : Boxed W1 (w0.heap.size + 1 + 1 + 1 + 1) [ov, .int .i64 fr]) (hrow3 : SxRow w3 base v' (sx ++ [x])) (hb3 : Below base W1 w3) (hov : OvS n zs long m0 m2 (sx ++ [x])) (hoks : ∀ y ∈ sx ++ [x], SxOk n y) (ho : OnB B w0 W1) :
  RunAt w0 n zs long F m0 B base k0 k1 k2 m2 v' (sx ++ [x]) ((w3.setCell ⟨w0.heap.size + 1 + 1 + 1 + 1, 0, none⟩ v').setCell ⟨w0.heap.size + 1 + 1 + 1 + 1, 1, none⟩ (.int .i64 m2.far)) := by
 have ho4 : Only (fun k => k = w0.heap.size + 1 + 1 + 1 + 1) w3 ((w3.setCell ⟨w0.heap.size + 1 + 1 + 1 + 1, 0, none⟩ v').setCell ⟨w0.heap.size + 1 + 1 + 1 + 1, 1, none⟩ (.int .i64 m2.far)) :=
  (only_setCell (S := fun k => k = w0.heap.size + 1 + 1 + 1 + 1) w3 (p := ⟨w0.heap.size + 1 + 1 + 1 + 1, 0, none⟩) rfl v').trans (only_setCell (S := fun k => k = w0.heap.size + 1 + 1 + 1 + 1) _ (p := ⟨w0.heap.size + 1 + 1 + 1 + 1, 1, none⟩) rfl _)
 have hx4 := ((y4.belowU hb3 (by omega)).setAt (i := 0) (by simp) v').setAt (i := 1) (by simp) (.int .i64 m2.far)
 exact ⟨hg2, (hgb.belowU hb3 (by omega)).onlyS ho4 (by omega), (y0.belowU hb3 (by omega)).onlyS ho4 (by omega), (y1.belowU hb3 (by omega)).onlyS ho4 (by omega), (y2.belowU hb3 (by omega)).onlyS ho4 (by omega), (y3.belowU hb3 (by omega)).onlyS ho4 (by omega),
  by simpa using hx4, hrow3.only ho4 (fun k hk ht => by have h1 := (hrow3.lt k hk).1; omega), hov, hoks, (ho.on (hb3.mono (by omega))).step ho4 (fun i hi ht => by omega)⟩
end Go.Proofs.YtjacbppeebnjfaaGreat

namespace Go.Proofs.YtjacbppeebnjfaaGreat
open Go.RowKit Go.Shelf

theorem results_cell2 {fn : Func} {p q : Tmp} {ty tz : TypeId} (h : fn.results = #[.cell p ty, .cell q tz]) (tmps : Array Value) (P : Program) (w : World) :
  (results fn tmps).run P w =
   ((asAddr (tmps.getD p undef)).run P w).andThen fun a w₁ => ((loadVar ty a).run P w₁).andThen fun v w₂ => ((asAddr (tmps.getD q undef)).run P w₂).andThen fun b w₃ => ((loadVar tz b).run P w₃).andThen fun u w₄ => .ok (.tuple #[v, u]) w₄ := by
 simp only [results, h]
 simp [Sem.run_bind, Result.andThen]

theorem load_running (W : World) (X : Nat) (u v : Value) (h0 : W.cell? ⟨X, 0, none⟩ = some u) (h1 : W.cell? ⟨X, 1, none⟩ = some v) : (loadVar 83 ⟨X, 0, none⟩).run Tryz.prog W = .ok (.agg #[u, v]) W := by
 have hz : (sizeOf 83).run Tryz.prog W = .ok 2 W := by kernel_rfl
 simp [loadVar, isAgg, underlying, Tryz.underlying83, loadCells, loadCellsFrom, h0, h1, hz, Addr.add, Result.andThen]

theorem load_err (W : World) (X : Nat) (u : Value) (h0 : W.cell? ⟨X, 0, none⟩ = some u) : (loadVar 85 ⟨X, 0, none⟩).run Tryz.prog W = .ok u W := by
 simp [loadVar, isAgg, underlying, Tryz.underlying85, h0, Result.andThen]

theorem only_putObjD {S : Nat → Prop} {w : World} {l : Nat} {ds : Option (List Deferred)} (h : w.heap[l]? = some (.deferred ds)) (hS : S l) (o : Obj) : Only S w (w.putObj l o) := by
 refine ⟨rfl, rfl, rfl, by simp, fun k _ hs => World.putObj_heap_other (fun e => hs (e ▸ hS)), fun k c t fr hc => ?_⟩
 have hne : k ≠ l := fun e => by
  rw [e, h] at hc
  cases hc
 exact ⟨c, (World.putObj_heap_other hne).trans hc, rfl⟩

theorem loop_new (W : World) (r : Loop) : LoopAt (W.heap.size + 1) W.heap.size r ((W.alloc (.deferred (some []))).alloc (.loop r)) := by
 constructor
 ·show ((W.heap.push (.deferred (some []))).push (.loop r))[W.heap.size + 1]? = some (.loop r)
  have h : (W.heap.push (.deferred (some []))).size = W.heap.size + 1 := by simp
  rw [← h, Array.getElem?_push_size]
 ·show ((W.heap.push (.deferred (some []))).push (.loop r))[W.heap.size]? = some (.deferred (some []))
  rw [Array.getElem?_push, if_neg (by simp), Array.getElem?_push_size]

def RunRet (w : World) (n : Nt) (zs : List Int) (long F : Int) (m0 : Mv) (B : Nat) (k0 k1 k2 : Value) (e : Ending) (w' : World) : Prop :=
 ∃ m ov sx code joint, e = .returned (.tuple #[.agg #[ov, .int .i64 m.far], errV code joint]) ∧ RunIs n zs long F m0 m code joint ∧ GB w' B k0 k1 k2 m.s long (spareOf n long m.s m.xs) m.xs ∧ SxRow w' w.heap.size ov sx ∧ OvS n zs long m0 m sx ∧ (∀ x ∈ sx, SxOk n x) ∧ sx.length ≤ 10001 ∧ OnB B w w'

theorem run_out {w : World} {n : Nt} {zs : List Int} {long F : Int} {m0 m : Mv} {B base D : Nat} {k0 k1 k2 ov : Value} {sx : List Sx} {code joint : Int} {W : World} {tmps : Array Value} (hs : SitsAll n zs m0.s m0.xs) (hE : RunEnd w n zs long F m0 B base k0 k1 k2 m ov sx code joint W) (hB : B < w.heap.size) (hD1 : w.heap.size + 5 ≤ D) (hD2 : D < base)
  (hD : W.heap[D]? = some (.deferred (some []))) (h6 : tmps.getD 6 undef = .pointer (some ⟨w.heap.size + 1 + 1, 0, none⟩)) (h7 : tmps.getD 7 undef = .pointer (some ⟨w.heap.size + 1 + 1 + 1, 0, none⟩)) :
  bodyPostM Fence.wide 9 Tryz.prog Tryz.f22 (RunRet w n zs long F m0 B k0 k1 k2) .ret ⟨tmps, [{ target := .collected D, args := #[] }]⟩ W := by
 have hEo := hE.keep (only_putObjD (S := fun k => k = D) hD rfl (.deferred none)) hB (fun k hk => by rw [hk]; omega)
 refine ⟨by simp, .inl ⟨D, _, rfl, run_takeDeferred hD, ?_⟩⟩
 refine ⟨.tuple #[.agg #[ov, .int .i64 m.far], errV code joint], ?_, m, ov, sx, code, joint, rfl, Or.inl ⟨hs, hEo.goes, hEo.mend⟩, hEo.gb, hEo.row.mono (by omega), hEo.over, hEo.oks, hEo.few, hEo.only⟩
 rw [results_cell2 rfl, h6, h7]
 simp [asAddr, Result.andThen, load_running _ _ _ _ (hEo.x2.2.1 0 _ rfl) (hEo.x2.2.1 1 _ rfl), load_err _ _ _ (hEo.x3.2.1 0 _ rfl)]
end Go.Proofs.YtjacbppeebnjfaaGreat

