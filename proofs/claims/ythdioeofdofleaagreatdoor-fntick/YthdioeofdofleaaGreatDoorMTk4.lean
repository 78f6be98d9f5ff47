import Derived.Test.YthdioeofdofleaaGreatDoorMTk1
import Derived.Test.YthdioeofdofleaaGreatDoorMKw8
import Derived.Test.YthdioeofdofleaaGreatDoorMEa
import Derived.Test.YthdioeofdofleaaGreatDoorQ1
set_option linter.unusedSimpArgs false
namespace Go.Proofs.YthdioeofdofleaaGreatDoor
open Go.RowKit
variable {ls : Int -> List Nat} {M i base Mp N k : Nat} {xs : List Pt} {p : Int} {av : Nat -> Prop} {w a : World} {n : Nt} {t : Tr} {k0 k1 k2 : Value}
structure LsOk (ls : Int -> List Nat) (ms : List Nat) (cv : Nat -> List Pt) (K : Nat) : Prop where
 few : ∀ p, (ls p).length <= K
 once : ∀ p, (ls p).Nodup
 just : ∀ p j (h : j < ms.length), ms[j] ∈ ls p ↔ ∃ x ∈ cv j, x.piece = p
 sub : ∀ p, ∀ q ∈ ls p, q ∈ ms
theorem lifted_mem {q : Nat} (hne : q ≠ M) : q ∈ yh ls M xs p ↔ q ∈ ls p := by
 unfold yh
 split
 ·unfold YS;rw [List.mem_filter]
  simp [hne]
 ·rfl
theorem lifted_not (h : M ∈ ls p -> ∃ x ∈ xs, x.piece = p) : M ∉ yh ls M xs p := by
 unfold yh
 split
 ·unfold YS;rw [List.mem_filter]
  simp
 ·rename_i h1;intro h2;obtain ⟨x, hx, e⟩ := h h2;exact h1 (List.any_eq_true.2 ⟨x, hx, by simpa using e⟩)
theorem laid_at {ys : List Pt} (h : M ∉ ls p) : laid ls M ys p = if (ys.any fun x => decide (x.piece = p)) = true then ls p ++ [M] else ls p := by
 unfold laid
 by_cases e : (ys.any fun x => decide (x.piece = p)) = true
 ·rw [if_pos e, if_pos (by rw [e]; simp [h])]
 ·rw [if_neg e, if_neg (by simp only [Bool.not_eq_true] at e; rw [e]; simp)]
theorem lsOk_move {ms : List Nat} {cv : Nat -> List Pt} {K : Nat} (h : LsOk ls ms cv K) (hi : i < ms.length) (hnd : ms.Nodup) (ys : List Pt) :
  LsOk (laid (yh ls ms[i] (cv i)) ms[i] ys) ms (fun j => if j = i then ys else cv j) (K + 1) := by
 have hM : ∀ p, ms[i] ∉ yh ls ms[i] (cv i) p := fun p => lifted_not fun hm => (h.just p i hi).1 hm
 have hms : ms[i] ∈ ms := List.getElem_mem hi;refine ⟨fun p => ?_, fun p => ?_, fun p j hj => ?_, fun p q hq => ?_⟩
 ·exact laid_len _ _ _ (fun q => Nat.le_trans (Yt ls ms[i] (cv i) q).length_le (h.few q)) p
 ·rw [laid_at (hM p)];have h1 := (h.once p).sublist (Yt ls ms[i] (cv i) p)
  split
  ·rw [List.nodup_append];refine ⟨h1, by simp, fun a ha b hb e => hM p ?_⟩;have h3 : a = ms[i] := e.trans (by simpa using hb);rw [h3] at ha;exact ha
  ·exact h1
 ·rw [laid_at (hM p)]
  by_cases e : j = i
  ·subst e;rw [if_pos rfl]
   split
   ·rename_i h2;obtain ⟨x, hx, hxp⟩ := List.any_eq_true.1 h2;exact ⟨fun _ => ⟨x, hx, by simpa using hxp⟩, fun _ => by simp⟩
   ·rename_i h2;refine ⟨fun h3 => absurd h3 (hM p), fun ⟨x, hx, hxp⟩ => absurd (List.any_eq_true.2 ⟨x, hx, by simpa using hxp⟩) h2⟩
  ·rw [if_neg e]
   have hne : ms[j] ≠ ms[i] := fun h2 => e (YJ hnd hj hi h2)
   rw [← h.just p j hj, ← lifted_mem (xs := cv i) hne]
   split
   ·simp [hne]
   ·rfl
 ·rw [laid_at (hM p)] at hq
  split at hq
  ·rcases List.mem_append.1 hq with h1 | h1
   ·exact h.sub p q ((Yt ls ms[i] (cv i) p).subset h1)
   ·have : q = ms[i] := by simpa using h1
    rw [this];exact hms
  ·exact h.sub p q ((Yt ls ms[i] (cv i) p).subset hq)

def TS (base M Mp : Nat) (av : Nat -> Prop) (w : World) : Nat -> Prop := fun k => k = M \/ k = Mp \/ (base <= k /\ ¬ av k /\ zx w k 77)
theorem TS.trans {b : World} (h : ZR (TS base M Mp av w) w a) (g : ZR (TS base M Mp av a) a b) : ZR (TS base M Mp av w) w b :=
 ⟨g.os.trans h.os, g.tape.trans h.tape, g.output.trans h.output, Nat.le_trans h.size g.size, fun k hk hs => by
  have h1 := h.block k hk hs;refine (g.block k (Nat.lt_of_lt_of_le hk h.size) ?_).trans h1;rintro (e | e | ⟨e1, e2, e3⟩)
  ·exact hs (Or.inl e)
  ·exact hs (Or.inr (Or.inl e))
  ·exact hs (Or.inr (Or.inr ⟨e1, e2, e3.same h1.symm⟩))⟩
theorem TS.same (h : ZR (TS base M Mp av w) w a) (hL : zZ w base Mp N ls av) {T : TypeId} (hk : zx w k T) (hT : T ≠ 77) (hM : k ≠ M) : a.heap[k]? = w.heap[k]? :=
 h.block k hk.lt (by
  rintro (e | e | ⟨_, _, e⟩)
  ·exact hM e
  ·exact hL.notCells hk.cells e
  ·exact hT (hk.unique e))
theorem TS.kept (h : ZR (TS base M Mp av w) w a) (hL : zZ w base Mp N ls av) (hM : zx w M 95) (hk : zx w k 77) (ha : av k) : a.heap[k]? = w.heap[k]? :=
 h.block k hk.lt (by
  rintro (e | e | ⟨_, e, _⟩)
  ·subst e; exact absurd (hk.unique hM) (by decide)
  ·exact hL.notCells hk.cells e
  ·exact e ha)
theorem VP {zs : List Int} {F : Int} {m : Mv} {code joint : Int} (hT : zJ n t) (hL : YG n.joints zs) (hF : 0 <= F) (h : XJ n zs t.long F ⟨t.front, t.back, 0, []⟩ m code joint) : zD n ⟨m.s, t.long, m.xs⟩ := by
 have hl := hT.2.2.1
 rcases h with ⟨hs, hg, _⟩ | ⟨_, rfl, _, _⟩
 ·exact (hg.mvt (Zu hT.1) (by omega) (MvT.of ⟨hT, hL, hs⟩ hF)).fits (Zu hT.1) hl
 ·exact hT.2
structure MvG (w : World) (base : Nat) (n : Nt) (k0 k1 k2 : Value) (M i : Nat) (t : Tr) : Prop where
 lo : base <= M
 ty : zx w M 95
 body : GB w M k0 k1 k2 t.front t.long (zW n t) t.back
 num : w.cell? ⟨M, 412, none⟩ = some (.int .i64 i)
 cov : ∃ v, w.cell? ⟨M, 413, none⟩ = some v /\ ZM w base v (zi n t)
 free : ∀ j, w.frozen? ⟨M, j, none⟩ = false
theorem MvAt.g (h : MvAt w base n k0 k1 k2 M i t) (hl : t.back.length <= 201) : MvG w base n k0 k1 k2 M i t := ⟨h.lo, h.ty, gb_of h.body hl, h.num, h.cov, h.free⟩
theorem MvG.kept {w' : World} (h : MvG w base n k0 k1 k2 M i t) (hM : w'.heap[M]? = w.heap[M]?) (hs : w.heap.size <= w'.heap.size) (hC : ∀ k, zx w k 103 -> w'.heap[k]? = w.heap[k]?) : MvG w' base n k0 k1 k2 M i t := by
 obtain ⟨h1, h2, h3, h4, ⟨v, h5, h6⟩, h7⟩ := h;exact ⟨h1, h2.same hM, h3.same hM hs, (World.cell?_of_block (w := w) (a := ⟨M, 412, none⟩) hM).trans h4, ⟨v, (World.cell?_of_block (w := w) (a := ⟨M, 413, none⟩) hM).trans h5, h6.block fun k hk => hC k (h6.ty hk)⟩, fun j => (World.frozen?_of_block (w := w) (a := ⟨M, j, none⟩) hM).trans (h7 j)⟩

def MoveRet (n : Nt) (zs : List Int) (t : Tr) (F : Int) (base M Mp N i : Nat) (av : Nat -> Prop) (k0 k1 k2 : Value) (ls : Int -> List Nat) (w : World) (e : Ending) (w' : World) : Prop :=
 ∃ m ov sx code joint, e = .returned (.tuple #[.agg #[ov, .int .i64 m.far], uh code joint]) /\ XJ n zs t.long F ⟨t.front, t.back, 0, []⟩ m code joint /\ Yz w' w.heap.size ov sx /\ Zw n sx = m.over /\ (∀ x ∈ sx, Us n x) /\ sx.length <= 10001
  /\ MvG w' base n k0 k1 k2 M i ⟨m.s, t.long, m.xs⟩ /\ zZ w' base Mp (N + 2000) (laid (yh ls M (zi n t)) M (zi n ⟨m.s, t.long, m.xs⟩)) av /\ ZR (TS base M Mp av w) w w'

set_option maxRecDepth 100000 in
set_option maxHeartbeats 8000000 in
theorem wmove_any (w1 : World) (n : Nt) (t : Tr) (W M Mp N K i : Nat) (av : Nat -> Prop) (ka ksh kst : Option Addr) (kca kcsh kcst : Nat) (ls : Int -> List Nat) (ms : List Nat) (cv : Nat -> List Pt) (zq : Option Addr) (zs : List Int) (zc : Nat) (F : Int) (w : World)
  (hk1 : ZD 0 w1 (.agg #[.slice ka n.pieces.length kca, .slice ksh n.joints.length kcsh, .slice kst n.pieces.length kcst]) n) (hb1 : Below w1.heap.size w1 w) (hW : zx w W 74) (hcW : w.cell? ⟨W, 4, none⟩ = some (.map (some Mp))) (hMp : w1.heap.size <= Mp)
  (hMv : MvG w w1.heap.size n (.slice ka n.pieces.length kca) (.slice ksh n.joints.length kcsh) (.slice kst n.pieces.length kcst) M i t) (hown : Zi w M 0 412 (zC (.slice ka n.pieces.length kca) (.slice ksh n.joints.length kcsh) (.slice kst n.pieces.length kcst) t.front t.long (zW n t) t.back))
  (hT : zJ n t) (hZ : YG n.joints zs) (hF : 0 <= F /\ F <= 10000) (hz : zF 0 w1 zq zs) (hL : zZ w w1.heap.size Mp N ls av) (hls : LsOk ls ms cv K) (hty : ∀ q ∈ ms, zx w q 95) (hK : K <= 900) (hN : N <= 900000) (hav : ∀ k, av k -> k < w.heap.size) :
  Calls Tryz.prog 23 #[.pointer (some ⟨W, 0, none⟩), .pointer (some ⟨M, 0, none⟩), .slice zq zs.length zc, .int .i64 F] w (MoveRet n zs t F w1.heap.size M Mp N i av (.slice ka n.pieces.length kca) (.slice ksh n.joints.length kcsh) (.slice kst n.pieces.length kcst) ls w) := by
 have hG := Zu hT.1;have hWl := hW.lt;have hMl := hMv.ty.lt;have hbase := hb1.size;have hMlo := hMv.lo;obtain ⟨cvv, hcvc, hcvr⟩ := hMv.cov;obtain ⟨pa, pcap, rfl, _, _⟩ := ZB hcvr;have hpl := ZG hG hT.2;have hA : Below w.heap.size w (w.alloc (.cells #[.slice none 0 0, .int .i64 0] 80)) := bw0;have HK1 := zd hk1;have HB1 := zd hb1;have HW := zd hW;have HMV := zd hMv;have HOWN := zd hown;have HT := zd hT;have HL := zd hL;have HLS := zd hls;have HTY := zd hty;have HZ := zd hz;have HCR := zd hcvr;have HA := zd hA;clear hk1 hb1 hW hMv hown hT hL hls hty hz hcvr hA;go_enter Tryz.func23, Tryz.ntmps23;go_wp2_with fail;refine (wlift_any W M Mp N w1.heap.size av ls pa pcap (zi n t) _ ((za HW).below (za HA)) (((za HA).cell (p := ⟨W, 4, none⟩) hWl).trans hcW) ((za HMV).ty.below (za HA)) (((za HA).cell (p := ⟨M, 413, none⟩) hMl).trans hcvc) ((za HCR).below (za HA)) ((za HL).below (za HA)) (fun p => Nat.le_trans ((za HLS).few p) (by omega)) (za HLS).once (fun p q hq => (za HTY q ((za HLS).sub p q hq)).below (za HA)) (fun x hx => by have := parts_pc hG (za HT).2 x hx; have := hG.np; omega) (by omega) (by omega)).mono ?_;rintro e w2 ⟨⟨v, rfl⟩, hL2, hT2⟩;obtain ⟨wA, hwA⟩ : ∃ wA, w.alloc (.cells #[.slice none 0 0, .int .i64 0] 80) = wA := ⟨_, rfl⟩;obtain ⟨R, hR⟩ : ∃ R, w.heap.size = R := ⟨_, rfl⟩
 have hRt : zx wA R 80 := by rw [← hwA, ← hR]; exact Zy _ _ _
 have hRb : zg wA R [.slice none 0 0, .int .i64 0] := by rw [← hwA, ← hR]; exact zf _ _ _
 have hA := za HA;rw [hwA] at hA hT2;rw [hR];have hLA := (za HL).below hA;have hMA := (za HMV).ty.below hA;have hnM : M ≠ Mp := hLA.notCells hMA.cells
 have hbM : w2.heap[M]? = w.heap[M]? := (hT2.block M hMA.lt (by
  rintro (e | ⟨_, _, e⟩)
  ·exact hnM e
  ·exact absurd (hMA.unique e) (by decide))).trans (hA.block M hMl)
 have hT02 : ZR (TS w1.heap.size M Mp av w) w w2 := TS.trans (ZR.of_below hA) (hT2.mono fun k _ h => Or.inr h);have hM2 : zx w2 M 95 := (za HMV).ty.same hbM
 have hspe : zW n t = Zg n t.long t.front t.back := by unfold zW Zg; omega
 have hown2 : Zi w2 M 0 412 (zC (.slice ka n.pieces.length kca) (.slice ksh n.joints.length kcsh) (.slice kst n.pieces.length kcst) t.front t.long (Zg n t.long t.front t.back) t.back) := by rw [← hspe]; exact (za HOWN).of_block hbM hT02.size
 have hW2 : zx w2 W 74 := (za HW).same (TS.same hT02 (za HL) (za HW) (by decide) (fun e => by subst e; exact absurd ((za HW).unique (za HMV).ty) (by decide)));have hcW2 : w2.cell? ⟨W, 4, none⟩ = some (.map (some Mp)) := (World.cell?_of_block (w := w) (a := ⟨W, 4, none⟩) (TS.same hT02 (za HL) (za HW) (by decide) (fun e => by subst e; exact absurd ((za HW).unique (za HMV).ty) (by decide)))).trans hcW
 have hbR : w2.heap[R]? = wA.heap[R]? := hT2.block R hRt.lt (by
  rintro (e | ⟨_, _, e⟩)
  ·exact hLA.notCells hRt.cells e
  ·exact absurd (hRt.unique e) (by decide))
 have hR2 : zg w2 R [.slice none 0 0, .int .i64 0] := zO hRb hbR hT2.size;have hR2t : zx w2 R 80 := hRt.same hbR
 have hb12 : Below w1.heap.size w1 w2 := (za HB1).trans (hT02.below hbase (fun k hk => by
  rintro (e | e | ⟨e, _, _⟩) <;> omega))
 have hTS2 : ∀ q ∈ ms, zx w2 q 95 := fun q hq => by
  by_cases e : q = M
  ·rw [e]; exact hM2
  ·exact (za HTY q hq).same (TS.same hT02 (za HL) (za HTY q hq) (by decide) e)
 have HT02 := zd hT02;have HM2 := zd hM2;have HOWN2 := zd hown2;have HW2 := zd hW2;have HR2 := zd hR2;have HR2T := zd hR2t;have HB12 := zd hb12;have HTS2 := zd hTS2;have HL2 := zd hL2;have HRE := zd hR;have HCW2 := zd hcW2;have HBM := zd hbM;clear hwA hR hRt hRb hA hLA hMA hbM hT02 hM2 hspe hown2 hW2 hcW2 hbR hR2 hR2t hb12 hT2 hTS2 hL2 HTY HA;go_wp2_with fail;refine (run_any M n ka ksh kst kca kcsh kcst t.front t.long F t.back zq zs zc _ (za HOWN2) (fun wb ho => (za HK1).below ((za HB12).trans (ho.below (za HB12).size (fun k hk e => by omega)))) ?hkB hG (fun wb ho => (za HZ).below ((za HB12).trans (ho.below (za HB12).size (fun k hk e => by omega)))) hZ.1 (Uy (za HT).2 hF.1) (by have := (za HT).2.2.1.1; omega) hF.2).mono ?_
 case hkB =>
  intro b off hb;obtain ⟨b', off', e', h', _⟩ := (za HK1).pcs 0 (by have := (za HT).2.1.1; omega);rw [hb] at e'
  simp at e'
  have := h'.2;omega
 rintro e w3 ⟨m, ov, sx, code, joint, rfl, hrun, hgb3, hsx3, hover, hoks, hfew, hon⟩;have hfit := VP (za HT) hZ hF.1 hrun;have HRUN := zd hrun;have HOVER := zd hover;have HOKS := zd hoks
 have hRM : R ≠ M := fun e => by subst e; exact absurd ((za HR2T).unique (za HM2)) (by decide)
 have hR3 : zg w3 R [.slice none 0 0, .int .i64 0] := zO (za HR2) (hon.ob.block R (za HR2).1 hRM) hon.size;have r0 := hR3.2.1 0 _ rfl;have r1 := hR3.2.1 1 _ rfl;have rl := hR3.1;have rz := hR3.2.2;obtain ⟨oa, oc, hov', _, _⟩ := vp hsx3;subst hov';have HSX3 := zd hsx3;have HGB3 := zd hgb3;have HON := zd hon;have HFIT := zd hfit;clear hrun hover hoks hsx3 hgb3 hon hfit;go_wp2_with fail;obtain ⟨w4, hw4⟩ : ∃ w4, w3.alloc (.cells #[.slice oa sx.length oc, .int .i64 m.far] 80) = w4 := ⟨_, rfl⟩;obtain ⟨Q, hQ⟩ : ∃ Q, w3.heap.size = Q := ⟨_, rfl⟩
 have hb34 : Below w3.heap.size w3 w4 := by rw [← hw4]; exact bw0
 have hQt : zx w4 Q 80 := by rw [← hw4, ← hQ]; exact Zy _ _ _
 have hQb : zg w4 Q [.slice oa sx.length oc, .int .i64 m.far] := by rw [← hw4, ← hQ]; exact zf _ _ _
 rw [hw4, hQ];have hon := za HON
 have hbl : ∀ k T, zx w2 k T -> k ≠ M -> w4.heap[k]? = w2.heap[k]? := fun k T hk hne => (hb34.block k (Nat.lt_of_lt_of_le hk.lt hon.size)).trans (hon.ob.block k hk.lt hne)
 have hneT : ∀ {k T}, zx w2 k T -> T ≠ 95 -> k ≠ M := fun {k T} hk hT e => by subst e; exact hT (hk.unique (za HM2))
 obtain ⟨cM, hcM⟩ := za HM2;obtain ⟨cM', hcM', hsM⟩ := hon.ob.shape M cM _ _ hcM;have hM4 : zx w4 M 95 := zx.below ⟨cM', hcM'⟩ hb34
 have h413 : 413 < cM.size := by
  have h0 := hcvc
  have h1 : w.heap[M]? = some (.cells cM 95 (0, 0)) := by rw [← za HBM]; exact hcM
  unfold World.cell? at h0;rw [show (⟨M, 413, none⟩ : Addr).block = M from rfl, h1] at h0
  simp at h0
  by_cases hlt : 413 < cM.size
  ·exact hlt
  ·rw [Array.getElem?_eq_none (by omega)] at h0
   simp at h0
 obtain ⟨u0, hu0⟩ : ∃ u0, w4.cell? ⟨M, 413, none⟩ = some u0 := by
  refine ⟨cM'[413]'(by omega), ?_⟩;rw [hb34.cell (p := ⟨M, 413, none⟩) (Array.getElem?_eq_some_iff.1 hcM').1];unfold World.cell?;rw [show (⟨M, 413, none⟩ : Addr).block = M from rfl, hcM']
  simp [show 413 < cM'.size by omega]
 have hfz4 : ∀ j, w4.frozen? ⟨M, j, none⟩ = false := fun j => by
  rw [hb34.frozen (p := ⟨M, j, none⟩) (Array.getElem?_eq_some_iff.1 hcM').1];unfold World.frozen?;rw [show (⟨M, j, none⟩ : Addr).block = M from rfl, hcM']
  simp
 have hnMp : M ≠ Mp := (za HL2).notCells (za HM2).cells;have hMp2 := (za HL2).lt
 have hL4 : zZ w4 w1.heap.size Mp (N + 1000) (yh ls M (zi n t)) av := (za HL2).kept ((hb34.block Mp (Nat.lt_of_lt_of_le hMp2 hon.size)).trans (hon.ob.block Mp hMp2 (fun e => hnMp e.symm))) fun k hk _ => hbl k _ hk (hneT hk (by decide))
 have hW4 : zx w4 W 74 := (za HW2).same (hbl W _ (za HW2) (hneT (za HW2) (by decide)));have hcW4 : w4.cell? ⟨W, 4, none⟩ = some (.map (some Mp)) := (World.cell?_of_block (w := w2) (a := ⟨W, 4, none⟩) (hbl W _ (za HW2) (hneT (za HW2) (by decide)))).trans (za HCW2)
 have hTS4 : ∀ q ∈ ms, zx w4 q 95 := fun q hq => by
  by_cases e : q = M
  ·rw [e]; exact hM4
  ·exact (za HTS2 q hq).same (hbl q _ (za HTS2 q hq) e)
 have hb14 : Below w1.heap.size w1 w4 := ((za HB12).trans (hon.below (za HB12).size (fun k hk e => by omega))).trans (hb34.mono (by have := (za HB12).size; have := hon.size; omega));have hgb4 := (za HGB3).below hb34;have hT04 : ZR (TS w1.heap.size M Mp av w) w w4 := ((za HT02).only hon.ob (fun k _ e => Or.inl e)).then_below hb34;have hsx4 := (za HSX3).below hb34;have hR4t : zx w4 R 80 := (za HR2T).same (hbl R _ (za HR2T) (hneT (za HR2T) (by decide)));have hR4 : zg w4 R [.slice none 0 0, .int .i64 0] := zO (za HR2) (hbl R _ (za HR2T) (hneT (za HR2T) (by decide))) (Nat.le_trans hon.size hb34.size);have hnum4 : w4.cell? ⟨M, 412, none⟩ = some (.int .i64 i) := ((hb34.cell (p := ⟨M, 412, none⟩) (Array.getElem?_eq_some_iff.1 hcM').1).trans (hon.num (za HM2).lt)).trans ((World.cell?_of_block (w := w) (a := ⟨M, 412, none⟩) (za HBM)).trans (za HMV).num);have hsz4 := hb14.size;have hsz04 := hT04.size
 have hRQ : R ≠ Q := fun e => by have h1 := (za HR2).1; have h2 := hon.size; omega
 have hspe2 : Zg n t.long m.s m.xs = zW n ⟨m.s, t.long, m.xs⟩ := by unfold zW Zg; dsimp only; omega
 rw [hspe2] at hgb4;obtain ⟨t', ht'⟩ : ∃ t', (⟨m.s, t.long, m.xs⟩ : Tr) = t' := ⟨_, rfl⟩;have hfit := za HFIT;rw [ht'] at hfit hgb4
 have hgb4' : GB w4 M (.slice ka n.pieces.length kca) (.slice ksh n.joints.length kcsh) (.slice kst n.pieces.length kcst) t'.front t'.long (zW n t') t'.back := by rw [← ht'] at hgb4 ⊢; exact hgb4
 have HT' := zd ht';have HB34 := zd hb34;have HQT := zd hQt;have HQB := zd hQb;have HM4 := zd hM4;have HFZ4 := zd hfz4;have HGB4 := zd hgb4';have HT04 := zd hT04;have HSX4 := zd hsx4;have HR4T := zd hR4t;have HR4 := zd hR4;have HNUM4 := zd hnum4;refine (wlay_any n t' W M Mp (N + 1000) K w1.heap.size av ka ksh kst kca kcsh kcst (yh ls M (zi n t)) u0 w4 hW4 hcW4 hM4 hu0 (hfz4 413) hgb4' ((za HK1).below hb14) hG hfit hL4 (fun p => Nat.le_trans (Yt ls M _ p).length_le ((za HLS).few p)) (fun p q hq => hTS4 q ((za HLS).sub p q ((Yt ls M _ p).subset hq))) (by omega) (by omega) hsz4 (fun k hk => Nat.lt_of_lt_of_le (hav k hk) hsz04)).mono ?_;rintro e w5 ⟨⟨v5, rfl⟩, ⟨cvv, hcv5, hcr5⟩, hL5, hT5, hcl5, hfr5, hty5⟩
 have hoth : ∀ k T, zx w4 k T -> k ≠ M -> T ≠ 77 -> w5.heap[k]? = w4.heap[k]? := fun k T hk hne hT => hT5.block k hk.lt (by
  rintro (e | e | ⟨_, _, e⟩)
  ·exact hne e
  ·exact hL4.notCells hk.cells e
  ·exact hT (hk.unique e))
 have hne4 : ∀ {k T}, zx w4 k T -> T ≠ 95 -> k ≠ M := fun {k T} hk hT e => by subst e; exact hT (hk.unique hM4)
 have hbQ := hoth Q _ hQt (hne4 hQt (by decide)) (by decide);have hbR := hoth R _ hR4t (hne4 hR4t (by decide)) (by decide);have hQ5 : zg w5 Q [.slice oa sx.length oc, .int .i64 m.far] := zO hQb hbQ hT5.size;have hR5 : zg w5 R [.slice none 0 0, .int .i64 0] := zO hR4 hbR hT5.size;have hR5t : zx w5 R 80 := hR4t.same hbR
 have hgb5 : GB w5 M (.slice ka n.pieces.length kca) (.slice ksh n.joints.length kcsh) (.slice kst n.pieces.length kcst) t'.front t'.long (zW n t') t'.back := by
  obtain ⟨f, fs, ho, hbi⟩ := hgb4';exact ⟨f, fs, ⟨hty5.lt, fun j hj => ⟨by rw [hcl5 _ (by omega)]; exact (ho.2 j hj).1, by rw [hfr5]; exact (ho.2 j hj).2⟩⟩, hbi⟩
 have hmv5 : MvG w5 w1.heap.size n (.slice ka n.pieces.length kca) (.slice ksh n.joints.length kcsh) (.slice kst n.pieces.length kcst) M i t' := ⟨hMlo, hty5, hgb5, by rw [hcl5 412 (by omega)]; exact hnum4, ⟨cvv, hcv5, hcr5.mono hsz4⟩, fun j => by rw [hfr5]; exact hfz4 j⟩;have hT05 : ZR (TS w1.heap.size M Mp av w) w w5 := TS.trans hT04 hT5
 have hsx5 : Yz w5 w2.heap.size (.slice oa sx.length oc) sx := hsx4.block fun k hk => hoth k _ (hsx4.ty hk) (hne4 (hsx4.ty hk) (by decide)) (by decide)
 have q0 := hQ5.2.1 0 _ rfl;have q1 := hQ5.2.1 1 _ rfl;have ql := hQ5.1;have e0 := hR5.2.1 0 _ rfl;have e1 := hR5.2.1 1 _ rfl;have el := hR5.1;have ez := hR5.2.2;have HMV5 := zd hmv5;have HT05 := zd hT05;have HSX5 := zd hsx5;have HL5 := zd hL5;have HR5 := zd hR5;have HR5T := zd hR5t;clear hmv5 hT05 hsx5 hL5 hR5 hR5t hgb5 hoth hne4 hbQ hbR hQ5 hT5 hcl5 hfr5 hcv5 hcr5 hgb4 hgb4' hT04 hsx4 hR4t hR4 hnum4 hL4 hW4 hcW4 hTS4 hb14 hu0 hfz4 hM4 hcM hcM' hsM hbl hneT hon hQb hQt hb34 hw4 hQ r0 r1 rl rz hR3 ht' hfit hspe2 h413;go_wp2_with fail;have hR6 := ((za HR5).setAt (i := 0) (by simp) (.slice oa sx.length oc)).setAt (i := 1) (by simp) (.int .i64 m.far);have r0 := hR6.2.1 0 _ rfl;have r1 := hR6.2.1 1 _ rfl;have hR2l := (za HR2).1;have hRs := za HRE;have hlen2 : w.heap.size <= w2.heap.size := (za HT02).size;have hO6 : zP (fun k => k = R) w5 ((w5.setCell ⟨R, 0, none⟩ (.slice oa sx.length oc)).setCell ⟨R, 1, none⟩ (.int .i64 m.far)) := (ze (S := fun k => k = R) w5 (p := ⟨R, 0, none⟩) rfl _).trans (ze (S := fun k => k = R) _ (p := ⟨R, 1, none⟩) rfl _);refine bodyPost_ret (v := .tuple #[.agg #[.slice oa sx.length oc, .int .i64 m.far], uh code joint]) (by simp [results, Tryz.results23, go_sem, r0, r1]) rfl ?_;refine ⟨m, .slice oa sx.length oc, sx, code, joint, rfl, za HRUN, ((((za HSX5).setCell (p := ⟨R, 0, none⟩) hR2l _).setCell (p := ⟨R, 1, none⟩) hR2l _).mono hlen2), za HOVER, za HOKS, hfew, ?_, ?_, (za HT05).only hO6 (fun k hk e => by omega)⟩
 ·rw [za HT'];exact (za HMV5).kept (hO6.block M (za HMV5).ty.lt (fun e => hRM e.symm)) hO6.size (fun k hk => hO6.block k hk.lt (fun e => by subst e; exact absurd (hk.unique (za HR5T)) (by decide)))
 ·rw [za HT', show N + 2000 = N + 1000 + 1000 by omega];exact ((za HL5).setCell (p := ⟨R, 0, none⟩) (za HR5T) (by decide) _).setCell (p := ⟨R, 1, none⟩) (Zq (za HR5T) _ _) (by decide) _
end Go.Proofs.YthdioeofdofleaaGreatDoor
