import Derived.Test.YthdioeofdofleaaGreatDoorMKw8
import Derived.Test.YthdioeofdofleaaGreatDoorMTk1
import Derived.Test.YthdioeofdofleaaGreatDoorMTk4
import Derived.Test.YthdioeofdofleaaGreatDoorMKw8a
import Derived.Test.YthdioeofdofleaaGreatDoorMKt22
import Derived.Test.YthdioeofdofleaaGreatDoorMPlain2
set_option linter.unusedSimpArgs false
namespace Go.Proofs.YthdioeofdofleaaGreatDoor
open Go.RowKit
variable {W N A i base base' K Mp kca kcsh kcst C M g Q R8 B0 oc : Nat} {w w' w1 w5 w0 : World} {v mvv vt vc vf vk v' : Value} {zs vs codes fars : List Int} {n : Nt} {ts : List Tr} {t : Tr} {ms : List Nat} {cv : Nat -> List Pt} {ls : Int -> List Nat} {av : Nat -> Prop} {ka ksh kst oa : Option Addr} {d : Prop} {sks : List (Int × Int)} {z far : Int} {sx : List Sx}
def skF (p : Int × Int) : List Value := [.int .i64 p.1, .int .i64 p.2]
theorem Uu (p : Int × Int) : (skF p).length = 2 := rfl
abbrev un (w : World) (base : Nat) (v : Value) (ps : List (Int × Int)) : Prop := zV w base 46 2 skF v ps
theorem sk_news {W : World} {x : Int × Int} (h : zg W N [.int .i64 x.1, .int .i64 x.2]) : ∀ j u, (skF x)[j]? = some u -> W.cell? ((⟨N, 0, none⟩ : Addr).add j) = some u := by
 intro j u hj
 match j, hj with
 | 0, hj => simp [skF] at hj; subst hj; simpa [Addr.add] using h.2.1 0 _ rfl
 | 1, hj => simp [skF] at hj; subst hj; simpa [Addr.add] using h.2.1 1 _ rfl
theorem sk_one (x : Int × Int) : ∀ u ∈ skF x, u.oneCell' = true := by
 intro u hu
 simp [skF] at hu
 rcases hu with rfl | rfl <;> rfl
theorem Uh : (Tryz.prog.info? 46).map (fun i => (i.zero, i.size, i.bytes)) = some (some (.agg #[.int .i64 0, .int .i64 0]), 2, 16) := by kernel_rfl
theorem mv_neq_same (w : World) (m : Nat) : (binOp .neq 77 (.pointer (some ⟨m, 0, none⟩)) (.pointer (some ⟨m, 0, none⟩))).run Tryz.prog w = .ok (.bool false) w := by
 obtain ⟨j, hj, _⟩ := mvInfo'
 have h : ∀ d : Nat, (Op.equalIn (d + 1) 77 (.pointer (some ⟨m, 0, none⟩)) (.pointer (some ⟨m, 0, none⟩))).run Tryz.prog w = .ok true w := fun d => by
  simp [Op.equalIn, run_underlying mvPtr, sizeOf, typeInfo, hj, run_sameAddr_same]
 simp only [binOp]
 simp [Op.equal, Op.maxDepth, h 9999]
theorem mv_neq_other (w : World) {m q : Nat} (hne : ¬ m = q) (hm : Zh w m) (hq : Zh w q) : (binOp .neq 77 (.pointer (some ⟨m, 0, none⟩)) (.pointer (some ⟨q, 0, none⟩))).run Tryz.prog w = .ok (.bool true) w := by
 obtain ⟨j, hj, hs⟩ := mvInfo';obtain ⟨c, t, hc⟩ := hm;obtain ⟨c', t', hc'⟩ := hq
 have hab : (⟨m, 0, none⟩ : Addr) ≠ ⟨q, 0, none⟩ := fun e => hne (congrArg Addr.block e)
 have h : ∀ d : Nat, (Op.equalIn (d + 1) 77 (.pointer (some ⟨m, 0, none⟩)) (.pointer (some ⟨q, 0, none⟩))).run Tryz.prog w = .ok false w := fun d => by
  simp [Op.equalIn, run_underlying mvPtr, sizeOf, typeInfo, hj, hs, run_sameAddr_other w hab hc hc']
 simp only [binOp]
 simp [Op.equal, Op.maxDepth, h 9999]

def xk (i0 : Nat) (tl : List Nat) : List (Int × Int) := (tl.filter fun j => decide (j ≠ i0)).map fun (j : Nat) => ((i0 : Int), (j : Int))
def StrI (w2 : World) (A : Nat) (vt vc vf : Value) (ss : List (Int × Int)) (i0 : Nat) (tl : List Nat) (w : World) : Prop :=
 ∃ u, zg w A [.bool true, vt, vc, vf, u] /\ zx w A 42 /\ un w (A + 1) u (ss ++ xk i0 tl) /\ ZR (fun k => k = A \/ (A < k /\ zx w2 k 46)) w2 w

theorem strL_same (i0 : Nat) (tl : List Nat) : xk i0 (tl ++ [i0]) = xk i0 tl := by simp [xk, List.filter_append]
theorem strL_other {i0 i : Nat} (h : i ≠ i0) (tl : List Nat) : xk i0 (tl ++ [i]) = xk i0 tl ++ [((i0 : Int), (i : Int))] := by simp [xk, List.filter_append, h]
theorem VJ (i0 : Nat) (tl : List Nat) : (xk i0 tl).length <= tl.length := by
 unfold xk;rw [List.length_map];exact List.length_filter_le _ _

theorem str_row {w2 : World} {zs : List (Int × Int)} (hT : ZR (fun k => k = A \/ (A < k /\ zx w2 k 46)) w2 w) (hrow : un w (A + 1) v zs) (j : Nat) (hj : v.ownBlock = some j) (hl : j < w2.heap.size) : j = A \/ (A < j /\ zx w2 j 46) := by
 by_cases h : j = A \/ (A < j /\ zx w2 j 46)
 ·exact h
 ·exact Or.inr ⟨(hrow.lt j hj).1, (hrow.ty hj).same (hT.block j hl h).symm⟩

set_option maxRecDepth 100000 in
set_option maxHeartbeats 4000000 in
theorem strike1_any (w2 : World) (A C M0 i0 M i : Nat) (vt vc vf : Value) (ss : List (Int × Int)) (tl : List Nat) (w : World) (hA : zx w2 A 42) (hC : zx w2 C 77) (hcC : w2.cell? ⟨C, 0, none⟩ = some (.pointer (some ⟨M0, 0, none⟩))) (hM0 : zx w2 M0 95) (hn0 : w2.cell? ⟨M0, 412, none⟩ = some (.int .i64 i0))
  (hM : zx w2 M 95) (hn : w2.cell? ⟨M, 412, none⟩ = some (.int .i64 i)) (hiff : M = M0 ↔ i = i0) (hsl : ss.length <= 1000) (htl : tl.length <= 20) (h : StrI w2 A vt vc vf ss i0 tl w) :
  Calls Tryz.prog 26 #[.pointer (some ⟨M, 0, none⟩), .pointer (some ⟨C, 0, none⟩), .pointer (some ⟨A, 0, none⟩)] w fun e w' => (∃ v, e = .returned v) /\ StrI w2 A vt vc vf ss i0 (tl ++ [i]) w' := by
 obtain ⟨u, hB, hTY, hrow, hT⟩ := h
 have hsame : ∀ k T, zx w2 k T -> T ≠ 46 -> k ≠ A -> w.heap[k]? = w2.heap[k]? := fun k T hk hne hkA => hT.block k hk.lt (by
  rintro (e | ⟨_, e⟩)
  ·exact hkA e
  ·exact hne (hk.unique e))
 have hCA : C ≠ A := fun e => by subst e; exact absurd (hA.unique hC) (by decide)
 have hMA : M ≠ A := fun e => by subst e; exact absurd (hA.unique hM) (by decide)
 have hM0A : M0 ≠ A := fun e => by subst e; exact absurd (hA.unique hM0) (by decide)
 have bC := hsame C _ hC (by decide) hCA;have bM := hsame M _ hM (by decide) hMA;have bM0 := hsame M0 _ hM0 (by decide) hM0A;have c0 : w.cell? ⟨C, 0, none⟩ = some (.pointer (some ⟨M0, 0, none⟩)) := (World.cell?_of_block (w := w2) (a := ⟨C, 0, none⟩) bC).trans hcC;have c1 : w.cell? ⟨M0, 412, none⟩ = some (.int .i64 i0) := (World.cell?_of_block (w := w2) (a := ⟨M0, 412, none⟩) bM0).trans hn0;have c2 : w.cell? ⟨M, 412, none⟩ = some (.int .i64 i) := (World.cell?_of_block (w := w2) (a := ⟨M, 412, none⟩) bM).trans hn;have hsz := hT.size;have hAl := hB.1;have hCl : C < w.heap.size := Nat.lt_of_lt_of_le hC.lt hsz;have hMl : M < w.heap.size := Nat.lt_of_lt_of_le hM.lt hsz;have hM0l : M0 < w.heap.size := Nat.lt_of_lt_of_le hM0.lt hsz
 by_cases hq : M = M0
 ·have hi0 := hiff.1 hq;subst hq;have he := mv_neq_same w M;go_enter Tryz.func26, Tryz.ntmps26;go_wp2
  go_end0
  refine ⟨⟨_, rfl⟩, u, hB, hTY, ?_, hT⟩
  first | (rw [strL_same]; exact hrow) | (rw [hi0, strL_same]; exact hrow)
 ·have hne : i ≠ i0 := fun e => hq (hiff.2 e)
  have he := mv_neq_other w hq (hM.same bM).cells (hM0.same bM0).cells;obtain ⟨i1, hi1, hz0, hz1, hz2⟩ := info_parts Uh;obtain ⟨ua, ucap, rfl, huc, _⟩ := hrow.shape Uu;have hsnoc := strL_other hne tl;have hlen := VJ i0 tl;obtain ⟨zs, hzs⟩ : ∃ zs, ss ++ xk i0 tl = zs := ⟨_, rfl⟩
  have hzl : zs.length <= 1100 := by rw [← hzs, List.length_append]; omega
  rw [hzs] at hrow huc hB;have HZS := zd hzs;have HSN := zd hsnoc;have HROW := zd hrow;have HT := zd hT;have HTY := zd hTY;have c4 := hB.2.1 4 _ rfl;have z4 := hB.2.2 4
  have hneA : some A ≠ (Value.slice ua zs.length ucap).ownBlock := fun e => by have := (hrow.lt A e.symm).1; omega
  have HB := zd hB;clear hrow hT hTY hsame bC bM bM0 hzs hsnoc hlen hB;go_enter Tryz.func26, Tryz.ntmps26;go_wp2_with fail
  go_region_law (first
   | (refine step_append_lies _ rfl (.tmp 8) (.tmp 18) 40 rfl (A + 1) 46 i1 (.agg #[.int .i64 0, .int .i64 0]) 2 16 Tryz.underlying40 hi1 hz0 hz1 hz2 rfl (by decide) (.slice ua zs.length ucap) zs.length (zs.flatMap skF) (by simp [Act.eval]) ((za HROW).below bw0) _ 1 1 (skF ((i0 : Int), (i : Int))) (by simp [Act.eval]) rfl (sk_news (x := ((i0 : Int), (i : Int))) (zf _ _ _)) (sk_one _) (by omega) (by unfold maxLen; omega) (by omega) (by first | omega | (simp; omega)) _ rfl ?_; intro g cap w5 hown hgrow hat hlt5; have hB5 := boxed_grown' hgrow ((za HB).below bw0) hneA; have d4 := hB5.2.1 4 _ rfl; have dz := hB5.2.2; have dl := hB5.1))
  all_goals have hrow5 : un w5 (A + 1) (.slice (some ⟨g, 0, none⟩) (zs.length + 1) cap) (zs ++ [((i0 : Int), (i : Int))]) := zV.snoc hown
  all_goals have hT5 : ZR (fun k => k = A \/ (A < k /\ zx w2 k 46)) w2 w5 := ((za HT).then_below (show Below w.heap.size w _ from bw0)).grown hgrow (fun j hj hl => str_row (za HT) (za HROW) j hj hl)
  all_goals have hty5 := ((za HTY).below (show Below w.heap.size w _ from bw0)).same (hgrow.block A (Nat.lt_of_lt_of_le hAl (show Below w.heap.size w _ from bw0).size) hneA)
  all_goals go_wp2
  all_goals go_end0
  all_goals refine ⟨⟨_, rfl⟩, .slice (some ⟨g, 0, none⟩) (zs.length + 1) cap, hB5.setAt (i := 4) (by simp) _, Zq hty5 _ _, ?_, hT5.only (ze (S := fun k => k = A) _ (p := ⟨A, 4, none⟩) rfl _) (fun k _ e => Or.inl e)⟩
  all_goals rw [za HSN, ← List.append_assoc, za HZS]
  all_goals exact hrow5.setCell (p := ⟨A, 4, none⟩) (by show A < A + 1; omega) _

theorem run_unique2 (hG : zr n) {long F : Int} (hl : 0 < long) {m0 : Mv} (h0 : xQ n long F m0) {m m' : Mv} {c j c' j' : Int} (h : XJ n zs long F m0 m c j) (g : XJ n zs long F m0 m' c' j') : m = m' /\ c = c' /\ j = j' := by
 rcases h with ⟨h1, h2, h3⟩ | ⟨h1, rfl, rfl, rfl⟩ <;> rcases g with ⟨g1, g2, g3⟩ | ⟨g1, rfl, rfl, rfl⟩
 ·exact end_unique hG hl h0 h2 h3 g2 g3
 ·exact absurd h1 g1
 ·exact absurd g1 h1
 ·exact ⟨rfl, rfl, rfl⟩
structure TkS where
 ts : List Tr
 codes : List Int
 fars : List Int
 strikes : List (Int × Int)
def yv (n : Nt) (zs : List Int) (ts : List Tr) (vs : List Int) : Prop := ye n ts /\ YG n.joints zs /\ SpdOk vs ts.length
def ZS (ts : List Tr) (i : Nat) : Tr := ts.getD i noTr'
def yi (n : Nt) (i : Nat) (over : List Pt) (ts : List Tr) : List (Int × Int) := xk i ((List.range ts.length).filter fun k => yx (zi n (ZS ts i) ++ over) (zi n (ZS ts k)))
def TickStep (n : Nt) (zs : List Int) (i : Nat) (F : Int) (a b : TkS) : Prop :=
 ∃ m code joint, XJ n zs (ZS a.ts i).long F ⟨(ZS a.ts i).front, (ZS a.ts i).back, 0, []⟩ m code joint
  /\ b = ⟨a.ts.set i ⟨m.s, (ZS a.ts i).long, m.xs⟩, a.codes ++ [code], a.fars ++ [m.far], a.strikes ++ yi n i m.over (a.ts.set i ⟨m.s, (ZS a.ts i).long, m.xs⟩)⟩
inductive Ya (n : Nt) (zs : List Int) (ts : List Tr) (vs : List Int) : Nat -> TkS -> Prop
 | zero : Ya n zs ts vs 0 ⟨ts, [], [], []⟩
 | succ {i : Nat} {a b : TkS} : Ya n zs ts vs i a -> i < ts.length -> TickStep n zs i (vs.getD i 0) a b -> Ya n zs ts vs (i + 1) b
def VF (n : Nt) (zs : List Int) (ts : List Tr) (vs : List Int) (ok : Bool) (b : TkS) : Prop :=
 (yv n zs ts vs /\ ok = true /\ Ya n zs ts vs ts.length b) \/ (¬ yv n zs ts vs /\ ok = false /\ b = ⟨[], [], [], []⟩)
theorem xC (h : i < ts.length) : ZS ts i ∈ ts := by
 unfold ZS;rw [List.getD_eq_getElem?_getD, List.getElem?_eq_getElem h];exact List.getElem_mem h
theorem YZ {j : Nat} (h : i < ts.length) : ZS (ts.set i t) j = if j = i then t else ZS ts j := by
 unfold ZS;rw [List.getD_eq_getElem?_getD, List.getD_eq_getElem?_getD, List.getElem?_set]
 by_cases e : i = j
 ·subst e
  simp [h]
 ·rw [if_neg e, if_neg (fun h => e h.symm)]
structure TkOk (n : Nt) (ts : List Tr) (i : Nat) (a : TkS) : Prop where
 len : a.ts.length = ts.length
 fits : ∀ t ∈ a.ts, zD n t
 later : ∀ j, i <= j -> ZS a.ts j = ZS ts j
 codes : a.codes.length = i
 fars : a.fars.length = i
theorem Ya.ok (hg : yv n zs ts vs) {a : TkS} (h : Ya n zs ts vs i a) : TkOk n ts i a := by
 induction h with
 | zero => exact ⟨rfl, hg.1.2.2, fun _ _ => rfl, rfl, rfl⟩
 | @succ i a b _ hi hs ih =>
  obtain ⟨m, code, joint, hrun, rfl⟩ := hs
  have hia : i < a.ts.length := by rw [ih.len]; exact hi
  have hf := ih.fits _ (xC hia)
  have hv : 0 <= vs.getD i 0 := by
   have hl := hg.2.2.2;rw [List.getD_eq_getElem?_getD, List.getElem?_eq_getElem (show i < vs.length by omega)];exact (hg.2.2.1 _ (List.getElem_mem _)).1
  refine ⟨by simp [ih.len], fun t ht => ?_, fun j hj => ?_, by simp [ih.codes], by simp [ih.fars]⟩
  ·rcases List.mem_or_eq_of_mem_set ht with h | rfl
   ·exact ih.fits t h
   ·exact VP ⟨hg.1.1, hf⟩ hg.2.1 hv hrun
  ·rw [YZ hia, if_neg (by omega)];exact ih.later j (by omega)
theorem Ya.unique (hg : yv n zs ts vs) {a b : TkS} (h : Ya n zs ts vs i a) (g : Ya n zs ts vs i b) : a = b := by
 induction h generalizing b with
 | zero => cases g; rfl
 | @succ i a c h1 hi hs ih =>
  cases g with
  | succ g1 _ gs =>
   have e := ih g1;subst e;obtain ⟨m, code, joint, hrun, rfl⟩ := hs;obtain ⟨m', code', joint', hrun', rfl⟩ := gs;have hok := h1.ok hg;have hf := hok.fits _ (xC (show i < a.ts.length by rw [hok.len]; exact hi))
   have hv : 0 <= vs.getD i 0 := by
    have hl := hg.2.2.2;rw [List.getD_eq_getElem?_getD, List.getElem?_eq_getElem (show i < vs.length by omega)];exact (hg.2.2.1 _ (List.getElem_mem _)).1
   obtain ⟨rfl, rfl, rfl⟩ := run_unique2 (Zu hg.1.1) (show 0 < (ZS a.ts i).long by have := hf.2.1.1; omega) (Uy hf hv) hrun hrun';rfl
theorem VF.unique {ok ok' : Bool} {a b : TkS} (h : VF n zs ts vs ok a) (g : VF n zs ts vs ok' b) : ok = ok' /\ a = b := by
 rcases h with ⟨h1, rfl, h3⟩ | ⟨h1, rfl, rfl⟩ <;> rcases g with ⟨g1, rfl, g3⟩ | ⟨g1, rfl, rfl⟩
 ·exact ⟨rfl, h3.unique h1 g3⟩
 ·exact absurd h1 g1
 ·exact absurd g1 h1
 ·exact ⟨rfl, rfl⟩

def vi (p : Tr × Value) : List Value := [.int .i64 p.1.front.piece, .int .i64 p.1.front.at_, .int .i64 p.1.front.way, .int .i64 p.1.long, p.2]
theorem VG (p : Tr × Value) : (vi p).length = 5 := rfl
abbrev XH (w : World) (base : Nat) (v : Value) (qs : List (Tr × Value)) : Prop := zV w base 32 5 vi v qs
theorem XM : (Tryz.prog.info? 32).map (fun i => (i.zero, i.size, i.bytes)) = some (some (.agg #[.int .i64 0, .int .i64 0, .int .i64 0, .int .i64 0, .slice none 0 0]), 5, 56) := by kernel_rfl
theorem uw (t : Tr) (a : Option Addr) (m c : Nat) : ∀ u ∈ vi (t, .slice a m c), u.oneCell' = true := by
 intro u hu
 simp [vi] at hu
 rcases hu with rfl | rfl | rfl | rfl | rfl <;> rfl
def Xd (w : World) (base : Nat) (v : Value) (ts : List Tr) : Prop := ∃ qs : List (Tr × Value), qs.map Prod.fst = ts /\ XH w base v qs /\ ∀ q ∈ qs, ∃ a cap, q.2 = .slice a q.1.back.length cap /\ Zk w base q.2 q.1.back
theorem tnRow_nil (w : World) (base : Nat) : Xd w base (.slice none 0 0) [] := ⟨[], rfl, zV.nil _ _ _ _ _, fun q hq => by cases hq⟩
theorem Xd.blocks (h : Xd w base v ts) (hb : ∀ k, base <= k -> k < w.heap.size -> w'.heap[k]? = w.heap[k]?) : Xd w' base v ts := by
 obtain ⟨qs, e, h1, h2⟩ := h;refine ⟨qs, e, h1.block fun k hk => hb k (h1.lt k hk).1 (h1.lt k hk).2, fun q hq => ?_⟩;obtain ⟨a, cap, he, hr⟩ := h2 q hq;exact ⟨a, cap, he, hr.block fun k hk => hb k (hr.lt k hk).1 (hr.lt k hk).2⟩
theorem vn (h : Xd w base v ts) : ∃ a cap, v = .slice a ts.length cap /\ XW base w a ts := by
 obtain ⟨qs, rfl, h1, h2⟩ := h;obtain ⟨a, cap, e, _, hc⟩ := h1.shape VG;refine ⟨a, cap, by simpa using e, fun i hi => ?_⟩
 have hi' : i < qs.length := by simpa using hi
 obtain ⟨g, rfl, hl, hcell⟩ := hc i hi';obtain ⟨sa, sc, he, hr⟩ := h2 qs[i] (List.getElem_mem hi');rw [he] at hr;obtain ⟨sa', sc', e', hcap, hs⟩ := zV.shape (f := Vl) (sz := 2) (fun _ => rfl) hr
 simp at e'
 obtain ⟨rfl, rfl⟩ := e'
 have c4 : w.cell? ⟨g, i * 5 + 4, none⟩ = some (qs[i]).2 := by simpa [vi] using hcell 4 (by omega)
 rw [he] at c4;refine ⟨g, 0, sa, sc, rfl, hl, by simpa [vi] using hcell 0 (by omega), by simpa [vi] using hcell 1 (by omega), by simpa [vi] using hcell 2 (by omega), by simpa [vi] using hcell 3 (by omega), by simpa using c4, ?_, by simpa using hcap⟩;intro j hj
 have hj' : j < (qs[i]).1.back.length := by simpa using hj
 obtain ⟨g2, rfl, hl2, hcell2⟩ := hs j hj';exact ⟨g2, 0, rfl, hl2, by simpa [Vl] using hcell2 0 (by omega), by simpa [Vl] using hcell2 1 (by omega)⟩
theorem Xd.mono (h : Xd w base v ts) (hb : base' <= base) : Xd w base' v ts := by
 obtain ⟨qs, e, h1, h2⟩ := h;refine ⟨qs, e, zV.mono h1 hb, fun q hq => ?_⟩;obtain ⟨a, cap, he, hr⟩ := h2 q hq;exact ⟨a, cap, he, zV.mono hr hb⟩

theorem lsOf_ok (hnd : ms.Nodup) (h20 : ms.length <= 20) : LsOk (xU ms cv) ms cv 20 := by
 have hget : ∀ i (h : i < ms.length), ms.getD i 0 = ms[i] := fun i h => by simp [List.getElem?_eq_getElem h]
 refine ⟨fun p => Nat.le_trans lsOf_len h20, fun p => ?_, fun p j hj => ⟨fun h => ?_, fun ⟨x, hx, e⟩ => by rw [← e]; exact lsOf_has hj hx⟩, fun p q hq => UY q hq⟩
 ·unfold xU;rw [List.Nodup, List.pairwise_map];refine ((List.pairwise_lt_range (n := ms.length)).sublist List.filter_sublist).imp_of_mem ?_;intro a b ha hb hab e
  have ha' : a < ms.length := by simpa using (List.mem_filter.1 ha).1
  have hb' : b < ms.length := by simpa using (List.mem_filter.1 hb).1
  rw [hget a ha', hget b hb'] at e;have := YJ hnd ha' hb' e;omega
 ·unfold xU at h;obtain ⟨i, hi, e⟩ := List.mem_map.1 h;obtain ⟨hi1, hi2⟩ := List.mem_filter.1 hi
  have hi' : i < ms.length := by simpa using hi1
  rw [hget i hi'] at e;have := YJ hnd hi' hj e;subst this;obtain ⟨x, hx, hxp⟩ := List.any_eq_true.1 hi2;exact ⟨x, hx, by simpa using hxp⟩
theorem LsOk.congr {cv' : Nat -> List Pt} (h : LsOk ls ms cv K) (e : ∀ j, j < ms.length -> cv j = cv' j) : LsOk ls ms cv' K :=
 ⟨h.few, h.once, fun p j hj => by rw [← e j hj]; exact h.just p j hj, h.sub⟩
theorem zZ.weak {av' : Nat -> Prop} (h : zZ w base Mp N ls av') (hv : ∀ k, av k -> av' k) : zZ w base Mp N ls av := by
 obtain ⟨f, h1, h2, h3, h4⟩ := h;exact ⟨f, h1, h2, h3, fun p k hk ha => h4 p k hk (hv k ha)⟩
theorem zZ.fresh (h : zZ w base Mp N ls av) (hb : Below w.heap.size w w') : zZ w' base Mp N ls (fun k => av k \/ k = w.heap.size) := by
 obtain ⟨f, h1, h2, h3, h4⟩ := h.below hb;obtain ⟨f', g1, g2, g3, g4⟩ := h;refine ⟨f', g1.below hb, fun p => (g2 p).below hb, g3, fun p k hk => ?_⟩;rintro (ha | ha)
 ·exact g4 p k hk ha
 ·have := ((g2 p).lt k hk).2;omega

structure Ur (w w1 : World) (W : Nat) (n : Nt) (ka ksh kst : Option Addr) (kca kcsh kcst Mp N : Nat) (mvv : Value) (ms : List Nat) (ts : List Tr) (i K : Nat) : Prop where
 trk : ZD 0 w1 (.agg #[.slice ka n.pieces.length kca, .slice ksh n.joints.length kcsh, .slice kst n.pieces.length kcst]) n
 bel : Below w1.heap.size w1 w
 lo : w1.heap.size <= W /\ w1.heap.size <= Mp
 ty : zx w W 74
 c0 : w.cell? ⟨W, 0, none⟩ = some (.slice ka n.pieces.length kca)
 c1 : w.cell? ⟨W, 1, none⟩ = some (.slice ksh n.joints.length kcsh)
 c2 : w.cell? ⟨W, 2, none⟩ = some (.slice kst n.pieces.length kcst)
 c3 : w.cell? ⟨W, 3, none⟩ = some mvv
 c4 : w.cell? ⟨W, 4, none⟩ = some (.map (some Mp))
 row : YE w w1.heap.size mvv ms
 len : ms.length = ts.length
 nodup : ms.Nodup
 mvs : ∀ j (h : j < ms.length), MvG w w1.heap.size n (.slice ka n.pieces.length kca) (.slice ksh n.joints.length kcsh) (.slice kst n.pieces.length kcst) ms[j] j (ZS ts j)
 first : ∀ j (h : j < ms.length), i <= j -> Zi w ms[j] 0 412 (zC (.slice ka n.pieces.length kca) (.slice ksh n.joints.length kcsh) (.slice kst n.pieces.length kcst) (ZS ts j).front (ZS ts j).long (zW n (ZS ts j)) (ZS ts j).back)
 lying : ∃ ls, zZ w w1.heap.size Mp N ls (fun k => mvv.ownBlock = some k) /\ LsOk ls ms (fun j => zi n (ZS ts j)) K
theorem Ur.of (h : Vp w w1.heap.size W n ka ksh kst kca kcsh kcst Mp N mvv ms ts) (hk : ZD 0 w1 (.agg #[.slice ka n.pieces.length kca, .slice ksh n.joints.length kcsh, .slice kst n.pieces.length kcst]) n) (hb : Below w1.heap.size w1 w) (hok : ye n ts) :
  Ur w w1 W n ka ksh kst kca kcsh kcst Mp N mvv ms ts 0 20 := by
 have hl := h.len;have h20 := hok.2.1;refine ⟨hk, hb, h.lo, h.ty, h.c0, h.c1, h.c2, h.c3, h.c4, h.row, h.len, h.nodup, fun j hj => (h.mvs j hj).g ?_, fun j hj _ => (h.mvs j hj).body, ⟨_, h.lying, lsOf_ok h.nodup (by omega)⟩⟩;have := (hok.2.2 _ (xC (show j < ts.length by omega))).2.2.1;unfold ZS at this;omega
theorem Ur.kept (h : Ur w w1 W n ka ksh kst kca kcsh kcst Mp N mvv ms ts i K) (hb : Below w1.heap.size w w') (hMp : w'.heap[Mp]? = w.heap[Mp]?)
  (hk : ∀ k T, zx w k T -> (T = 74 \/ T = 95 \/ T = 77 \/ T = 103) -> w'.heap[k]? = w.heap[k]?) : Ur w' w1 W n ka ksh kst kca kcsh kcst Mp N mvv ms ts i K := by
 have hW := hk W _ h.ty (Or.inl rfl);have hs := hb.size
 have hcell : ∀ j, w'.cell? ⟨W, j, none⟩ = w.cell? ⟨W, j, none⟩ := fun j => World.cell?_of_block (w := w) (a := ⟨W, j, none⟩) hW
 have hm : ∀ j (hj : j < ms.length), w'.heap[ms[j]]? = w.heap[ms[j]]? := fun j hj => hk _ _ (h.mvs j hj).ty (Or.inr (Or.inl rfl))
 refine ⟨h.trk, h.bel.trans hb, h.lo, h.ty.same hW, by rw [hcell]; exact h.c0, by rw [hcell]; exact h.c1, by rw [hcell]; exact h.c2, by rw [hcell]; exact h.c3, by rw [hcell]; exact h.c4, h.row.block fun k hk' => hk k _ (h.row.ty hk') (Or.inr (Or.inr (Or.inl rfl))), h.len, h.nodup,
  fun j hj => (h.mvs j hj).kept (hm j hj) (Nat.le_of_not_lt fun hlt => ?_) (fun k hk' => hk k _ hk' (Or.inr (Or.inr (Or.inr rfl)))), fun j hj hij => (h.first j hj hij).of_block (hm j hj) (Nat.le_of_not_lt fun hlt => ?_), ?_⟩
 ·exact absurd hs (by omega)
 ·exact absurd hs (by omega)
 ·obtain ⟨ls, hL, hls⟩ := h.lying;exact ⟨ls, hL.kept hMp fun k hk' _ => hk k _ hk' (Or.inr (Or.inr (Or.inl rfl))), hls⟩

theorem Ur.moved {t' : Tr} (h : Ur w w1 W n ka ksh kst kca kcsh kcst Mp N mvv ms ts i K) (hi : i < ms.length)
  (hLw : zZ w w1.heap.size Mp N ls (fun k => mvv.ownBlock = some k \/ k = C)) (hls : LsOk ls ms (fun j => zi n (ZS ts j)) K) (hmv : MvG w' w1.heap.size n (.slice ka n.pieces.length kca) (.slice ksh n.joints.length kcsh) (.slice kst n.pieces.length kcst) ms[i] i t')
  (hL : zZ w' w1.heap.size Mp (N + 2000) (laid (yh ls ms[i] (zi n (ZS ts i))) ms[i] (zi n t')) (fun k => mvv.ownBlock = some k \/ k = C)) (hT : ZR (TS w1.heap.size ms[i] Mp (fun k => mvv.ownBlock = some k \/ k = C) w) w w') :
  Ur w' w1 W n ka ksh kst kca kcsh kcst Mp (N + 2000) mvv ms (ts.set i t') (i + 1) (K + 1) := by
 have hl := h.len
 have his : i < ts.length := by omega
 have hM := (h.mvs i hi).ty
 have hne : ∀ {k T}, zx w k T -> T ≠ 95 -> k ≠ ms[i] := fun {k T} hk hT e => by subst e; exact hT (hk.unique hM)
 have hW := TS.same hT hLw h.ty (by decide) (hne h.ty (by decide))
 have hcell : ∀ j, w'.cell? ⟨W, j, none⟩ = w.cell? ⟨W, j, none⟩ := fun j => World.cell?_of_block (w := w) (a := ⟨W, j, none⟩) hW
 have hlo := (h.mvs i hi).lo
 have hbel : Below w1.heap.size w w' := hT.below h.bel.size (fun k hk => by
  rintro (e | e | ⟨e, _, _⟩)
  ·omega
  ·have := h.lo.2; omega
  ·omega)
 have hoth : ∀ j (hj : j < ms.length), j ≠ i -> w'.heap[ms[j]]? = w.heap[ms[j]]? := fun j hj e => TS.same hT hLw (h.mvs j hj).ty (by decide) (fun e2 => e (YJ h.nodup hj hi e2))
 refine ⟨h.trk, h.bel.trans hbel, h.lo, h.ty.same hW, by rw [hcell]; exact h.c0, by rw [hcell]; exact h.c1, by rw [hcell]; exact h.c2, by rw [hcell]; exact h.c3, by rw [hcell]; exact h.c4, h.row.block fun k hk => TS.kept hT hLw hM (h.row.ty hk) (Or.inl hk), by simp [hl], h.nodup, fun j hj => ?_, fun j hj hij => ?_, ⟨_, hL.weak fun k hk => Or.inl hk, ?_⟩⟩
 ·rw [YZ his]
  by_cases e : j = i
  ·subst e;rw [if_pos rfl];exact hmv
  ·rw [if_neg e];exact (h.mvs j hj).kept (hoth j hj e) hT.size (fun k hk => TS.same hT hLw hk (by decide) (hne hk (by decide)))
 ·rw [YZ his, if_neg (by omega)];exact (h.first j hj (by omega)).of_block (hoth j hj (by omega)) hT.size
 ·refine (lsOk_move hls hi h.nodup (zi n t')).congr fun j hj => ?_
  rw [YZ his]
  by_cases e : j = i
  ·rw [if_pos e, if_pos e]
  ·rw [if_neg e, if_neg e]

def Two (qs : List (Tr × Value)) : Prop := qs.Pairwise fun p q => ∀ k, p.2.ownBlock = some k -> q.2.ownBlock ≠ some k
def TnD (d : Prop) (w : World) (base : Nat) (v : Value) (ts : List Tr) : Prop := ∃ qs : List (Tr × Value), qs.map Prod.fst = ts /\ XH w base v qs /\ (∀ q ∈ qs, ∃ a cap, q.2 = .slice a q.1.back.length cap /\ Zk w base q.2 q.1.back) /\ (d -> Two qs)
theorem TnD.row (h : TnD d w base v ts) : Xd w base v ts := by
 obtain ⟨qs, e, h1, h2, _⟩ := h;exact ⟨qs, e, h1, h2⟩
theorem tnD_nil (d : Prop) (w : World) (base : Nat) : TnD d w base (.slice none 0 0) [] := ⟨[], rfl, zV.nil _ _ _ _ _, (fun q hq => by cases hq), fun _ => List.Pairwise.nil⟩
theorem TnD.blocks (h : TnD d w base v ts) (hb : ∀ k, base <= k -> k < w.heap.size -> w'.heap[k]? = w.heap[k]?) : TnD d w' base v ts := by
 obtain ⟨qs, e, h1, h2, h3⟩ := h;refine ⟨qs, e, h1.block fun k hk => hb k (h1.lt k hk).1 (h1.lt k hk).2, fun q hq => ?_, h3⟩;obtain ⟨a, cap, he, hr⟩ := h2 q hq;exact ⟨a, cap, he, hr.block fun k hk => hb k (hr.lt k hk).1 (hr.lt k hk).2⟩
theorem TnD.mono (h : TnD d w base v ts) (hb : base' <= base) : TnD d w base' v ts := by
 obtain ⟨qs, e, h1, h2, h3⟩ := h;refine ⟨qs, e, zV.mono h1 hb, fun q hq => ?_, h3⟩;obtain ⟨a, cap, he, hr⟩ := h2 q hq;exact ⟨a, cap, he, zV.mono hr hb⟩
structure xO (d : Prop) (w : World) (A : Nat) (ts : List Tr) (codes fars : List Int) (sks : List (Int × Int)) (vt vc vf vk : Value) : Prop where
 ty : zx w A 42
 box : zg w A [.bool true, vt, vc, vf, vk]
 rt : TnD d w (A + 1) vt ts
 rc : Xh w (A + 1) vc codes
 rf : Xh w (A + 1) vf fars
 dis : vc.ownBlock = none \/ vc.ownBlock ≠ vf.ownBlock
 rk : un w (A + 1) vk sks
theorem Ur.below (h : Ur w w1 W n ka ksh kst kca kcsh kcst Mp N mvv ms ts i K) (hb : Below w.heap.size w w') : Ur w' w1 W n ka ksh kst kca kcsh kcst Mp N mvv ms ts i K := by
 obtain ⟨ls, hL, _⟩ := h.lying
 exact h.kept (hb.mono h.bel.size) (hb.block Mp hL.lt) fun k T hk _ => hb.block k hk.lt
theorem xO.below (h : xO d w A ts codes fars sks vt vc vf vk) (hb : Below w.heap.size w w') : xO d w' A ts codes fars sks vt vc vf vk :=
 ⟨h.ty.below hb, h.box.below hb, h.rt.blocks fun k _ hk => hb.block k hk, h.rc.below hb, h.rf.below hb, h.dis, h.rk.below hb⟩
theorem TnD.typed (h : TnD d w base v ts) (h1 : ∀ k, zx w k 32 -> w'.heap[k]? = w.heap[k]?) (h2 : ∀ k, zx w k 87 -> w'.heap[k]? = w.heap[k]?) : TnD d w' base v ts := by
 obtain ⟨qs, e, hr, hq, h3⟩ := h;refine ⟨qs, e, hr.block fun k hk => h1 k (hr.ty hk), fun q hm => ?_, h3⟩;obtain ⟨a, cap, he, hs⟩ := hq q hm;exact ⟨a, cap, he, hs.block fun k hk => h2 k (hs.ty hk)⟩
def RTy (T : TypeId) : Prop := T = 42 \/ T = 32 \/ T = 87 \/ T = 3 \/ T = 46
theorem xO.kept (h : xO d w A ts codes fars sks vt vc vf vk) (hs : w.heap.size <= w'.heap.size) (hk : ∀ k T, zx w k T -> RTy T -> w'.heap[k]? = w.heap[k]?) : xO d w' A ts codes fars sks vt vc vf vk :=
 ⟨h.ty.same (hk A _ h.ty (Or.inl rfl)), zO h.box (hk A _ h.ty (Or.inl rfl)) hs, h.rt.typed (fun k h1 => hk k _ h1 (Or.inr (Or.inl rfl))) (fun k h1 => hk k _ h1 (Or.inr (Or.inr (Or.inl rfl)))), h.rc.block fun k h1 => hk k _ (h.rc.ty h1) (Or.inr (Or.inr (Or.inr (Or.inl rfl)))), h.rf.block fun k h1 => hk k _ (h.rf.ty h1) (Or.inr (Or.inr (Or.inr (Or.inl rfl)))), h.dis, h.rk.block fun k h1 => hk k _ (h.rk.ty h1) (Or.inr (Or.inr (Or.inr (Or.inr rfl))))⟩
theorem xO.moved (h : xO d w A ts codes fars sks vt vc vf vk) (hT : ZR (TS base M Mp av w) w w') (hL : zZ w base Mp N ls av) (hM : zx w M 95) : xO d w' A ts codes fars sks vt vc vf vk :=
 h.kept hT.size fun k T hk hr => TS.same hT hL hk (by rcases hr with rfl | rfl | rfl | rfl | rfl <;> decide) (fun e => by subst e; have := hk.unique hM; rcases hr with rfl | rfl | rfl | rfl | rfl <;> exact absurd this (by decide))
theorem Ur.grown {r : Option Nat} (h : Ur w w1 W n ka ksh kst kca kcsh kcst Mp N mvv ms ts i K) (hg : w.grownBy w' r) (hr : ∀ k, r = some k -> w1.heap.size <= k /\ ∃ T, zx w k T /\ RTy T) : Ur w' w1 W n ka ksh kst kca kcsh kcst Mp N mvv ms ts i K := by
 obtain ⟨ls, hL, _⟩ := h.lying
 have hne : ∀ k T, zx w k T -> (T = 74 \/ T = 95 \/ T = 77 \/ T = 103) -> some k ≠ r := fun k T hk hT e => by
  obtain ⟨_, T', h1, h2⟩ := hr k e.symm;have := hk.unique h1;subst this
  rcases hT with rfl | rfl | rfl | rfl <;> rcases h2 with h2 | h2 | h2 | h2 | h2 <;> exact absurd h2 (by decide)
 refine h.kept (Below.grown (Below.refl _ w) hg h.bel.size (fun k hk => (hr k hk).1)) (hg.block Mp hL.lt (fun e => ?_)) fun k T hk hT => hg.block k hk.lt (hne k T hk hT)
 obtain ⟨_, T', h1, _⟩ := hr Mp e.symm;exact hL.notCells h1.cells rfl
theorem Ur.set (h : Ur w w1 W n ka ksh kst kca kcsh kcst Mp N mvv ms ts i K) (hA : zx w A 42) (hlo : w1.heap.size <= A) (j : Nat) (v : Value) : Ur (w.setCell ⟨A, j, none⟩ v) w1 W n ka ksh kst kca kcsh kcst Mp N mvv ms ts i K := by
 obtain ⟨ls, hL, _⟩ := h.lying;have ho : zP (fun k => k = A) w (w.setCell ⟨A, j, none⟩ v) := ze (S := fun k => k = A) w (p := ⟨A, j, none⟩) rfl v
 refine h.kept (ho.below h.bel.size (fun k hk e => by omega)) (ho.block Mp hL.lt (fun e => hL.notCells hA.cells e.symm)) fun k T hk hT => ho.block k hk.lt (fun e => ?_)
 subst e;have := hk.unique hA
 rcases hT with rfl | rfl | rfl | rfl <;> exact absurd this (by decide)

theorem Ut {W : World} (h : zg W N [.int .i64 t.front.piece, .int .i64 t.front.at_, .int .i64 t.front.way, .int .i64 t.long, v]) : ∀ j u, (vi (t, v))[j]? = some u -> W.cell? ((⟨N, 0, none⟩ : Addr).add j) = some u := by
 intro j u hj
 match j, hj with
 | 0, hj => simp [vi] at hj; subst hj; simpa [Addr.add] using h.2.1 0 _ rfl
 | 1, hj => simp [vi] at hj; subst hj; simpa [Addr.add] using h.2.1 1 _ rfl
 | 2, hj => simp [vi] at hj; subst hj; simpa [Addr.add] using h.2.1 2 _ rfl
 | 3, hj => simp [vi] at hj; subst hj; simpa [Addr.add] using h.2.1 3 _ rfl
 | 4, hj => simp [vi] at hj; subst hj; simpa [Addr.add] using h.2.1 4 _ rfl
theorem xO.addT {qs : List (Tr × Value)} {a : Option Addr} {cap : Nat} (h : xO d w A ts codes fars sks vt vc vf vk) (hq : qs.map Prod.fst = ts) (hv : XH w (A + 1) vt qs) (hqe : ∀ q ∈ qs, ∃ a cap, q.2 = .slice a q.1.back.length cap /\ Zk w (A + 1) q.2 q.1.back)
  (htw : d -> Two qs) (hfr : d -> ∀ q ∈ qs, ∀ k, q.2.ownBlock = some k -> (Value.slice a t.back.length cap).ownBlock ≠ some k) (hst : Zk w (A + 1) (.slice a t.back.length cap) t.back) (hg : w.grownBy w5 vt.ownBlock) (hown : XH w5 (A + 1) v' (qs ++ [(t, .slice a t.back.length cap)])) : xO d (w5.setCell ⟨A, 1, none⟩ v') A (ts ++ [t]) codes fars sks v' vc vf vk := by
 have hne : some A ≠ vt.ownBlock := fun e => by have := (hv.lt A e.symm).1; omega
 have hA := hg.block A h.ty.lt hne
 have hs : A < A + 1 := by omega
 refine ⟨Zq (h.ty.same hA) _ _, by simpa using (boxed_grown' hg h.box hne).setAt (i := 1) (by simp) v', ⟨qs ++ [(t, .slice a t.back.length cap)], by simp [hq], hown.setCell (p := ⟨A, 1, none⟩) hs v', fun q hm => ?_, fun hd => List.pairwise_append.2 ⟨htw hd, List.pairwise_singleton _ _, fun p hp q hq k hk => by simp at hq; subst hq; exact hfr hd p hp k hk⟩⟩, (h.rc.kept hg (fun k hk hc => zV.apart h.rc hv (by decide) k hk hc)).setCell (p := ⟨A, 1, none⟩) hs v', (h.rf.kept hg (fun k hk hc => zV.apart h.rf hv (by decide) k hk hc)).setCell (p := ⟨A, 1, none⟩) hs v', h.dis, (h.rk.kept hg (fun k hk hc => zV.apart h.rk hv (by decide) k hk hc)).setCell (p := ⟨A, 1, none⟩) hs v'⟩
 rcases List.mem_append.1 hm with hm | hm
 ·obtain ⟨a', cap', he, hr⟩ := hqe q hm;exact ⟨a', cap', he, (hr.kept hg (fun k hk hc => zV.apart hr hv (by decide) k hk hc)).setCell (p := ⟨A, 1, none⟩) hs v'⟩
 ·simp at hm
  subst hm;exact ⟨a, cap, rfl, (hst.kept hg (fun k hk hc => zV.apart hst hv (by decide) k hk hc)).setCell (p := ⟨A, 1, none⟩) hs v'⟩

theorem dis_l (h : vc.ownBlock = none \/ vc.ownBlock ≠ vf.ownBlock) : ∀ k, vf.ownBlock = some k -> vc.ownBlock ≠ some k := fun k hk e => by
 rcases h with h | h
 ·rw [h] at e; cases e
 ·exact h (e.trans hk.symm)
theorem dis_r (h : vc.ownBlock = none \/ vc.ownBlock ≠ vf.ownBlock) : ∀ k, vc.ownBlock = some k -> vf.ownBlock ≠ some k := fun k hk e => by
 rcases h with h | h
 ·rw [h] at hk; cases hk
 ·exact h (hk.trans e.symm)
theorem dis_new_l (h : vc.ownBlock = none \/ vc.ownBlock ≠ vf.ownBlock) (hv : v'.ownBlock = some g) (hat : vc.ownBlock = some g \/ N <= g) (hf : ∀ k, vf.ownBlock = some k -> k < N) : v'.ownBlock = none \/ v'.ownBlock ≠ vf.ownBlock := by
 right
 intro e
 rcases hat with h1 | h1
 ·exact dis_l h g (e.symm.trans hv) h1
 ·have := hf g (e.symm.trans hv);omega
theorem dis_new_r (h : vc.ownBlock = none \/ vc.ownBlock ≠ vf.ownBlock) (hv : v'.ownBlock = some g) (hat : vf.ownBlock = some g \/ N <= g) (hc : ∀ k, vc.ownBlock = some k -> k < N) : vc.ownBlock = none \/ vc.ownBlock ≠ v'.ownBlock := by
 right
 intro e
 rcases hat with h1 | h1
 ·exact dis_r h g (e.trans hv) h1
 ·have := hc g (e.trans hv);omega
theorem xO.addC (h : xO d w A ts codes fars sks vt vc vf vk) (hg : w.grownBy w5 vc.ownBlock) (hown : Xh w5 (A + 1) v' (codes ++ [z])) (hvg : v'.ownBlock = some g) (hat : vc.ownBlock = some g \/ w.heap.size <= g) : xO d (w5.setCell ⟨A, 2, none⟩ v') A ts (codes ++ [z]) fars sks vt v' vf vk := by
 have hne : some A ≠ vc.ownBlock := fun e => by have := (h.rc.lt A e.symm).1; omega
 have hA := hg.block A h.ty.lt hne
 have hs : A < A + 1 := by omega
 obtain ⟨qs, hq, hv, hqe, htw⟩ := h.rt;refine ⟨Zq (h.ty.same hA) _ _, by simpa using (boxed_grown' hg h.box hne).setAt (i := 2) (by simp) v', ⟨qs, hq, (hv.kept hg (fun k hk hc => zV.apart hv h.rc (by decide) k hk hc)).setCell (p := ⟨A, 2, none⟩) hs v', fun q hm => ?_, htw⟩, hown.setCell (p := ⟨A, 2, none⟩) hs v', (h.rf.kept hg (dis_l h.dis)).setCell (p := ⟨A, 2, none⟩) hs v', dis_new_l h.dis hvg hat (fun k hk => (h.rf.lt k hk).2), (h.rk.kept hg (fun k hk hc => zV.apart h.rk h.rc (by decide) k hk hc)).setCell (p := ⟨A, 2, none⟩) hs v'⟩;obtain ⟨a', cap', he, hr⟩ := hqe q hm;exact ⟨a', cap', he, (hr.kept hg (fun k hk hc => zV.apart hr h.rc (by decide) k hk hc)).setCell (p := ⟨A, 2, none⟩) hs v'⟩
theorem xO.addF (h : xO d w A ts codes fars sks vt vc vf vk) (hg : w.grownBy w5 vf.ownBlock) (hown : Xh w5 (A + 1) v' (fars ++ [z])) (hvg : v'.ownBlock = some g) (hat : vf.ownBlock = some g \/ w.heap.size <= g) : xO d (w5.setCell ⟨A, 3, none⟩ v') A ts codes (fars ++ [z]) sks vt vc v' vk := by
 have hne : some A ≠ vf.ownBlock := fun e => by have := (h.rf.lt A e.symm).1; omega
 have hA := hg.block A h.ty.lt hne
 have hs : A < A + 1 := by omega
 obtain ⟨qs, hq, hv, hqe, htw⟩ := h.rt;refine ⟨Zq (h.ty.same hA) _ _, by simpa using (boxed_grown' hg h.box hne).setAt (i := 3) (by simp) v', ⟨qs, hq, (hv.kept hg (fun k hk hc => zV.apart hv h.rf (by decide) k hk hc)).setCell (p := ⟨A, 3, none⟩) hs v', fun q hm => ?_, htw⟩, (h.rc.kept hg (dis_r h.dis)).setCell (p := ⟨A, 3, none⟩) hs v', hown.setCell (p := ⟨A, 3, none⟩) hs v', dis_new_r h.dis hvg hat (fun k hk => (h.rc.lt k hk).2), (h.rk.kept hg (fun k hk hc => zV.apart h.rk h.rf (by decide) k hk hc)).setCell (p := ⟨A, 3, none⟩) hs v'⟩;obtain ⟨a', cap', he, hr⟩ := hqe q hm;exact ⟨a', cap', he, (hr.kept hg (fun k hk hc => zV.apart hr h.rf (by decide) k hk hc)).setCell (p := ⟨A, 3, none⟩) hs v'⟩

structure TkZ (w0 w1 : World) (W : Nat) (n : Nt) (ka ksh kst : Option Addr) (kca kcsh kcst Mp N : Nat) (mvv : Value) (ms : List Nat) (ts : List Tr) (i K C M Q R8 B0 : Nat) (oa : Option Addr) (oc : Nat) (sx : List Sx) (far : Int) (w : World) : Prop where
 tw : Ur w w1 W n ka ksh kst kca kcsh kcst Mp N mvv ms ts i K
 cb : zg w C [.pointer (some ⟨M, 0, none⟩)]
 ct : zx w C 77
 qb : zg w Q [.slice oa sx.length oc, .int .i64 far]
 qt : zx w Q 80
 row : Yz w B0 (.slice oa sx.length oc) sx
 r8 : zg w R8 [.bool false, .slice none 0 0, .slice none 0 0, .slice none 0 0, .slice none 0 0]
 r8t : zx w R8 42
 lo : w0.heap.size <= w1.heap.size
 bel : Below w0.heap.size w0 w
theorem TkZ.below (h : TkZ w0 w1 W n ka ksh kst kca kcsh kcst Mp N mvv ms ts i K C M Q R8 B0 oa oc sx far w) (hb : Below w.heap.size w w') : TkZ w0 w1 W n ka ksh kst kca kcsh kcst Mp N mvv ms ts i K C M Q R8 B0 oa oc sx far w' :=
 ⟨h.tw.below hb, h.cb.below hb, h.ct.below hb, h.qb.below hb, h.qt.below hb, h.row.below hb, h.r8.below hb, h.r8t.below hb, h.lo, below_then h.bel hb⟩
def GTy (T : TypeId) : Prop := T = 32 \/ T = 3 \/ T = 46
theorem GTy.r {T : TypeId} (h : GTy T) : RTy T := by
 rcases h with h | h | h
 ·exact Or.inr (Or.inl h)
 ·exact Or.inr (Or.inr (Or.inr (Or.inl h)))
 ·exact Or.inr (Or.inr (Or.inr (Or.inr h)))
theorem TkZ.grown {r : Option Nat} (h : TkZ w0 w1 W n ka ksh kst kca kcsh kcst Mp N mvv ms ts i K C M Q R8 B0 oa oc sx far w) (hg : w.grownBy w' r) (hr : ∀ k, r = some k -> w1.heap.size <= k /\ ∃ T, zx w k T /\ GTy T) : TkZ w0 w1 W n ka ksh kst kca kcsh kcst Mp N mvv ms ts i K C M Q R8 B0 oa oc sx far w' := by
 have hne : ∀ {k T}, zx w k T -> ¬ GTy T -> some k ≠ r := fun {k T} hk hT e => by
  obtain ⟨_, T', h1, h2⟩ := hr k e.symm;have := hk.unique h1;subst this;exact hT h2
 have hC := hg.block C h.ct.lt (hne h.ct (by rintro (e | e | e) <;> exact absurd e (by decide)));have hQ := hg.block Q h.qt.lt (hne h.qt (by rintro (e | e | e) <;> exact absurd e (by decide)));have hR := hg.block R8 h.r8t.lt (hne h.r8t (by rintro (e | e | e) <;> exact absurd e (by decide)));have hs := hg.size;refine ⟨h.tw.grown hg (fun k hk => ⟨(hr k hk).1, by obtain ⟨T, h1, h2⟩ := (hr k hk).2; exact ⟨T, h1, h2.r⟩⟩), zO h.cb hC hs, h.ct.same hC, zO h.qb hQ hs, h.qt.same hQ, h.row.block fun k hk => hg.block k (h.row.lt k hk).2 (hne (h.row.ty hk) (by rintro (e | e | e) <;> exact absurd e (by decide))), zO h.r8 hR hs, h.r8t.same hR, h.lo, h.bel.trans (Below.grown (Below.refl _ w) hg h.bel.size (fun k hk => Nat.le_trans h.lo (hr k hk).1))⟩
theorem TkZ.set (h : TkZ w0 w1 W n ka ksh kst kca kcsh kcst Mp N mvv ms ts i K C M Q R8 B0 oa oc sx far w) (hA : zx w A 42) (hlo : w1.heap.size <= A) (hAR : A ≠ R8) (j : Nat) (v : Value) : TkZ w0 w1 W n ka ksh kst kca kcsh kcst Mp N mvv ms ts i K C M Q R8 B0 oa oc sx far (w.setCell ⟨A, j, none⟩ v) := by
 have ho : zP (fun k => k = A) w (w.setCell ⟨A, j, none⟩ v) := ze (S := fun k => k = A) w (p := ⟨A, j, none⟩) rfl v
 have hne : ∀ {k T}, zx w k T -> T ≠ 42 -> ¬ k = A := fun {k T} hk hT e => by subst e; exact hT (hk.unique hA)
 have hC := ho.block C h.ct.lt (hne h.ct (by decide));have hQ := ho.block Q h.qt.lt (hne h.qt (by decide));have hR := ho.block R8 h.r8t.lt (fun e => hAR e.symm);have hs := ho.size;exact ⟨h.tw.set hA hlo j v, zO h.cb hC hs, h.ct.same hC, zO h.qb hQ hs, h.qt.same hQ, h.row.block fun k hk => ho.block k (h.row.lt k hk).2 (hne (h.row.ty hk) (by decide)), zO h.r8 hR hs, h.r8t.same hR, h.lo, h.bel.trans (ho.below h.bel.size (fun k hk e => by have := h.lo; omega))⟩
end Go.Proofs.YthdioeofdofleaaGreatDoor
