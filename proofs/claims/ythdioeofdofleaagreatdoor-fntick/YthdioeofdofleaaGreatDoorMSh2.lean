import Derived.Test.YthdioeofdofleaaGreatDoorMSpec22
import Derived.Test.YthdioeofdofleaaGreatDoorMKt17
import Derived.Test.YthdioeofdofleaaGreatDoorMDr15
import Derived.Test.YthdioeofdofleaaGreatDoorMFk1
set_option linter.unusedSimpArgs false
set_option maxRecDepth 100000
namespace Go.Proofs.YthdioeofdofleaaGreatDoor
open Go.RowKit
variable {w w' : World} {b X L i L' : Nat} {bs : List Value} {c : Int} {acc : ByteArray} {n : Nt} {ts : List Tr}
def tabNm : String := (Rows.fnTickRow.laid.map Prod.fst).getD 2 default

def TabK (w : World) : Prop := ∀ W, Below w.heap.size w W -> Lib.TabIs Tryz.prog W tabNm .u64 Lib.pow10Tab
theorem TabK.below (h : TabK w) (hb : Below w.heap.size w w') : TabK w' := fun W hW => h W (hb.trans (hW.mono hb.size))

theorem below_gr (w : World) (k : Nat) (os : Array Obj) : Below w.heap.size w (Sort.grow (w.drewN k) os) :=
 ⟨rfl, rfl, rfl, by simp [Sort.grow, World.drewN], fun i hi => by simp [Sort.grow, World.drewN, Array.getElem?_append, hi]⟩

theorem itoa_any (n : Nat) (w : World) (hn : n <= 1000000000) (ht : TabK w) : Calls Tryz.prog 82 #[.int .i64 n] w fun e w' => e = .returned (.string (xe n)) /\ Below w.heap.size w w' := by
 refine (Any.strconv_Itoa Tryz.laysM171 n (by omega) (by omega) w (ht w (Below.refl _ _))).mono ?_;rintro e w' ⟨rfl, k, os, rfl⟩;exact ⟨by rw [itoa_decS], below_gr w k os⟩
theorem Ul (b : Nat) (s : ByteArray) (w : World) (h : Vi b (Lib.strCells s) w) (hb : b <= w.heap.size) : Calls Tryz.prog 43 #[.pointer (some ⟨b, 0, none⟩)] w fun e w' => e = .returned (.string s) /\ Below b w w' := by
 refine (Tryz.Builder_String_any_k b b s.data.toList w h hb).mono ?_;rintro e w' ⟨rfl, _, hb', _⟩;exact ⟨rfl, hb'⟩
theorem Vi.blocks (h : Vi b bs w) (hb : ∀ k, b <= k -> k < w.heap.size -> w'.heap[k]? = w.heap[k]?) : Vi b bs w' := by
 have key : ∀ {p : Value}, Lib.BuilderAtF 119 5 b b p bs w -> Lib.BuilderAtF 119 5 b b p bs w' := by
  rintro p ⟨h1, v, h2, h3, h4⟩;refine ⟨h1, v, ?_, ⟨h3.1, ?_⟩, h4⟩
  ·rw [hb b (Nat.le_refl _) (Array.getElem?_eq_some_iff.1 h2).1]; exact h2
  ·rcases h3.2 with h5 | ⟨g, cap, cur, fz, hv, hg, hgg, hr⟩
   ·exact Or.inl h5
   ·exact Or.inr ⟨g, cap, cur, fz, hv, hg, by rw [hb g hg (Array.getElem?_eq_some_iff.1 hgg).1]; exact hgg, hr⟩
 rcases h with h | h
 ·exact Or.inl (key h)
 ·exact Or.inr (key h)
theorem Vi.below (h : Vi b bs w) (hb : Below w.heap.size w w') : Vi b bs w' := h.blocks fun k _ hk => hb.block k hk
theorem bld_new (w : World) : Vi w.heap.size (Lib.strCells ⟨#[]⟩) (w.alloc (.cells #[.pointer none, .slice none 0 0] 119)) := by
 refine Or.inl ⟨Nat.le_refl _, .slice none 0 0, heap_alloc_new w _, ⟨rfl, Or.inl ⟨rfl, rfl⟩⟩, by simp [Value.ownBlock]⟩

theorem vX {c : Array Value} (hk : Lib.OthersKept 5 (some b) w w') (hX : w.heap[X]? = some (.cells c 103)) (hne : X ≠ b) : w'.heap[X]? = some (.cells c 103) :=
 hk X _ hX (by simpa using hne) (fun c' fz h => by injection h with _ h2 _; exact absurd h2 (by decide))
theorem Xv {a b : Int} (hX : w.heap[X]? = some (.cells #[.int .i64 a, .int .i64 b, .int .i64 c] 103)) : w.cell? ⟨X, 1, none⟩ = some (.int .i64 b) /\ w.cell? ⟨X, 2, none⟩ = some (.int .i64 c) /\ X < w.heap.size :=
 ⟨by rw [Lib.cell_of_heap hX]; rfl, by rw [Lib.cell_of_heap hX]; rfl, (Array.getElem?_eq_some_iff.1 hX).1⟩
theorem UB {s : ByteArray} (h : BldA b (Lib.strCells acc ++ Lib.strCells s) w) : Vi b (Lib.strCells (acc ++ s)) w := Or.inr (by rw [VK]; exact h)
theorem UA (h0 : 0 <= c) (h1 : c <= 255) (h : BldA b (Lib.strCells acc ++ [.int .u8 c]) w) : Vi b (Lib.strCells (acc ++ strOfNums [c])) w := Or.inr (by rw [VK, strCells_one h0 h1]; exact h)

set_option maxHeartbeats 4000000 in
theorem shownOn_any (M i : Nat) (p : Int) (ps : List Pt) (a : Option Addr) (cap : Nat) (w : World) (hM : M < w.heap.size) (hnum : w.cell? ⟨M, 412, none⟩ = some (.int .i64 i)) (hcov : w.cell? ⟨M, 413, none⟩ = some (.slice a ps.length cap)) (hps : Yb L w a ps) (hpl : ps.length <= 1000) (hi : i <= 100) (hfit : ∀ x ∈ ps, (0 <= x.fr /\ x.fr <= 10000000) /\ (0 <= x.to /\ x.to <= 10000000)) (ht : TabK w) :
  Calls Tryz.prog 41 #[.pointer (some ⟨M, 0, none⟩), .int .i64 p] w fun e w' => e = .returned (.string (YI p i ps)) /\ Below w.heap.size w w' := by
 have HPS := zd hps;have HF := zd hfit;have HT := zd ht;clear hps hfit ht
 have hu8 : IntKind.u8.wrap (65 + IntKind.u8.wrap (i : Int)) = 65 + (i : Int) := by
  simp only [IntKind.wrap_u8];omega
 go_enter Tryz.func41, Tryz.ntmps41;go_wp2_with fail;have HB0 := zd (bld_new w)
 go_loopw [13] (fun z wr => ∃ (k : Nat), z = .int .i64 k /\ k <= ps.length /\ Hid (Vi w.heap.size (Lib.strCells (YI p i (ps.take k))) wr) /\ Below w.heap.size w wr /\ w.heap.size < wr.heap.size) (fun z _ => ps.length - (intOf z).toNat)
 case atStart => exact ⟨0, rfl, Nat.zero_le _, HB0, bw0, by simp⟩
 case round =>
  clear HB0;obtain ⟨k, rfl, hk, HBk, hbr, hsr⟩ := hrel
  by_cases hlt : k < ps.length
  ·have hlt' : (k : Int) < (ps.length : Int) := by omega
   obtain ⟨pb, poff, hae, hpb, q0, q1, q2⟩ := (za HPS) k hlt;have p0 := (hbr.cell hpb.2).trans q0;have p1 := (hbr.cell hpb.2).trans q1;have p2 := (hbr.cell hpb.2).trans q2
   have hpw : pb < wr.heap.size := by omega
   have hfx := za HF _ (List.getElem_mem hlt)
   have hpre := uG p i (ps.take k) fun x hx => by have := za HF x (List.mem_of_mem_take hx); exact ⟨this.1.2, this.2.2⟩
   have htk : YI p i (ps.take (k + 1)) = YI p i (ps.take k) ++ (if ps[k].piece = p then vy i ps[k] else ⟨#[]⟩) := by rw [← List.take_append_getElem hlt, onGo_snoc]
   obtain ⟨⟨xp, xf, xt⟩, hx⟩ : ∃ x, ps[k] = x := ⟨_, rfl⟩;rw [hx] at p0 p1 p2 hfx htk;dsimp only at p0 p1 p2 hfx htk
   have hlt2 : (ps.take k).length <= 1000 := by rw [List.length_take]; omega
   obtain ⟨acc, hacc⟩ : ∃ acc, YI p i (ps.take k) = acc := ⟨_, rfl⟩;rw [hacc] at HBk hpre htk;have HTK := zd htk;subst hae;clear q0 q1 q2 hx htk hacc;have hwk : IntKind.i64.wrap ((k : Int) + 1) = ((k + 1 : Nat) : Int) := (zj (by omega) (by omega)).trans (by omega)
   have hmr : M < wr.heap.size := by omega
   by_cases hxp : xp = p
   ·subst hxp;obtain ⟨fn, rfl⟩ := Int.eq_ofNat_of_zero_le hfx.1.1;obtain ⟨tn, rfl⟩ := Int.eq_ofNat_of_zero_le hfx.2.1;have hds1 := YO (n := fn) (by omega);have hds2 := YO (n := tn) (by omega)
    have HN : Hid (YI xp i (ps.take (k + 1)) = ((((acc ++ strOfNums [32]) ++ strOfNums [65 + (i : Int)]) ++ xe fn) ++ strOfNums [45]) ++ xe tn) := by
     rw [za HTK, if_pos rfl];unfold Hid vy;simp only [Int.toNat_natCast, Yn];rfl
    clear HTK;obtain ⟨X, hX⟩ : ∃ X, wr.heap.size = X := ⟨_, rfl⟩
    have hXe : w.heap.size < X := by omega
    go_wp2_with fail;have hA0 : Below wr.heap.size wr (wr.alloc (.cells #[.int .i64 xp, .int .i64 fn, .int .i64 tn] 103)) := bw0
    have hP0 : (wr.alloc (.cells #[.int .i64 xp, .int .i64 fn, .int .i64 tn] 103)).heap[X]? = some (.cells #[.int .i64 xp, .int .i64 fn, .int .i64 tn] 103) := by rw [← hX]; exact heap_alloc_new wr _
    refine (Vd w.heap.size _ 32 _ ((za HBk).below hA0) (by rw [Lib.strCells_length]; omega) (by have := hA0.size; omega)).mono ?_;rintro e w1 ⟨rfl, g1, b1, k1⟩;have G1 := zd (UA (by omega) (by omega) g1);have P1 := zd (vX k1 hP0 (by omega));have B1 : Below w.heap.size w w1 := (below_then hbr hA0).trans b1;have num1 := (B1.cell hM).trans hnum
    have hm1 : M < w1.heap.size := by have := B1.size; omega
    clear g1 b1 k1 hP0;go_wp2_with fail;refine (Vd w.heap.size _ (65 + (i : Int)) _ (za G1) (by rw [Lib.strCells_length, ByteArray.size_append, Yr]; omega) (by have := (Xv (za P1)).2.2; omega)).mono ?_;rintro e w2 ⟨rfl, g2, b2, k2⟩;have G2 := zd (UA (by omega) (by omega) g2);have P2 := zd (vX k2 (za P1) (by omega));have B2 := B1.trans b2;obtain ⟨c1, c2, xl2⟩ := Xv (za P2);clear g2 b2 k2 num1 c2;go_wp2_with fail;refine (itoa_any fn _ (by omega) ((za HT).below B2)).mono ?_;rintro e w3 ⟨rfl, b3⟩;have B3 := B2.trans (b3.mono B2.size);have P3 : Hid (w3.heap[X]? = some (.cells #[.int .i64 xp, .int .i64 fn, .int .i64 tn] 103)) := (b3.block X xl2).trans (za P2);have G3 := zd ((za G2).below b3);have xl3 := (Xv (za P3)).2.2;clear c1 b3;go_wp2_with fail;refine (uk w.heap.size _ (xe fn) _ (za G3) (by rw [Lib.strCells_length]; simp only [ByteArray.size_append, Yr]; omega) (by omega)).mono ?_;rintro e w4 ⟨rfl, g4, b4, k4⟩;have G4 := zd (UB g4);have P4 := zd (vX k4 (za P3) (by omega));have B4 := B3.trans b4;have xl4 := (Xv (za P4)).2.2;clear g4 b4 k4;go_wp2_with fail;refine (Vd w.heap.size _ 45 _ (za G4) (by rw [Lib.strCells_length]; simp only [ByteArray.size_append, Yr]; omega) (by omega)).mono ?_;rintro e w5 ⟨rfl, g5, b5, k5⟩;have G5 := zd (UA (by omega) (by omega) g5);have P5 := zd (vX k5 (za P4) (by omega));have B5 := B4.trans b5;obtain ⟨_, c2, xl5⟩ := Xv (za P5);clear g5 b5 k5;go_wp2_with fail;refine (itoa_any tn _ (by omega) ((za HT).below B5)).mono ?_;rintro e w6 ⟨rfl, b6⟩;have B6 := B5.trans (b6.mono B5.size);have G6 := zd ((za G5).below b6);have hs6 := b6.size;clear c2 b6;go_wp2_with fail;refine (uk w.heap.size _ (xe tn) _ (za G6) (by rw [Lib.strCells_length]; simp only [ByteArray.size_append, Yr]; omega) (by omega)).mono ?_;rintro e w7 ⟨rfl, g7, b7, k7⟩;have G7 := zd (UB g7);have B7 := B6.trans b7;have hs7 := b7.size;clear g7 b7 k7;go_wp2_with fail;refine ⟨⟨k + 1, rfl, hlt, ?_, B7, by omega⟩, by simp [intOf]; omega⟩;rw [za HN];exact G7
   ·have hxp' : (xp == p) = false := by rw [beq_eq_false_iff_ne]; exact hxp
    have HN : Hid (YI p i (ps.take (k + 1)) = acc) := by rw [za HTK, if_neg hxp]; exact vE _
    clear HTK;go_wp2_with fail;have hA : Below wr.heap.size wr (wr.alloc (.cells #[.int .i64 xp, .int .i64 xf, .int .i64 xt] 103)) := bw0;exact ⟨⟨k + 1, rfl, hlt, by rw [za HN]; exact (za HBk).below hA, below_then hbr hA, by simp; omega⟩, by simp [intOf]; omega⟩
  ·have hlt' : ¬ (k : Int) < (ps.length : Int) := by omega
   have hke : k = ps.length := by omega
   rw [hke, List.take_length] at HBk;go_wp2_with fail;refine (Ul w.heap.size _ _ (za HBk) (by omega)).mono ?_;rintro e w9 ⟨rfl, hb9⟩;go_wp2_with fail;go_ret;exact ⟨rfl, hbr.trans hb9⟩

theorem trGo_size (hw : ye n ts) (p : Int) : ∀ (is : List Nat), (∀ i ∈ is, i < ts.length) -> (xg n ts p is).size <= 4000 * is.length := by
 intro is
 induction is with
 | nil => intro _; simp [xg, ByteArray.size]
 | cons y r ih =>
  intro h
  have h1 := ih fun i hi => h i (List.mem_cons_of_mem _ hi)
  have hy := h y (List.mem_cons_self ..)
  have hg : ts.getD y noTr' = ts[y] := by simp [List.getD_eq_getElem?_getD, hy]
  have hT : zJ n (ts.getD y noTr') := by rw [hg]; exact ⟨hw.1, hw.2.2 _ (List.getElem_mem hy)⟩
  have hb := (XG hT).1.1;have hl := ZG (Zu hT.1) hT.2;have hG := Zu hw.1
  have h2 := uG p y (zi n (ts.getD y noTr')) fun x hx => by
   have := hb x hx;have hle := (hG.len this.1.1 this.1.2).2;have h3 := this.2.2;omega
  simp only [xg, ByteArray.size_append, List.length_cons];omega
theorem on_size (hw : ye n ts) (p : Int) {y : Nat} (hy : y < ts.length) (m : Nat) : (YI p y ((zi n (ts.getD y noTr')).take m)).size <= 4000 := by
 have hg : ts.getD y noTr' = ts[y] := by simp [List.getD_eq_getElem?_getD, hy]
 have hT : zJ n (ts.getD y noTr') := by rw [hg]; exact ⟨hw.1, hw.2.2 _ (List.getElem_mem hy)⟩
 have hb := (XG hT).1.1;have hl := ZG (Zu hT.1) hT.2;have hG := Zu hw.1
 have h2 := uG p y ((zi n (ts.getD y noTr')).take m) fun x hx => by
  have := hb x (List.mem_of_mem_take hx);have hle := (hG.len this.1.1 this.1.2).2;have h3 := this.2.2;omega
 rw [List.length_take] at h2;omega
theorem uH (h : Zz n 0 0) (hi : i < n.pieces.length) : n.pieces[i].name.size <= 20 := by
 unfold Zz at h
 by_cases ho : n.pieces.length = 0 \/ 100 < n.pieces.length \/ 120 < n.joints.length
 ·have := (h.1 ho).1; omega
 ·obtain ⟨r2, r3, r4, r5, h2, h2a, _⟩ := h.2 ho
  by_cases e2 : r2 = -1
  ·subst e2
   rcases h2 with ⟨_, g⟩ | ⟨j, _, hj, _⟩
   ·have := g i hi;unfold ve at this
    have hf : PcFits n.pieces[i] := Classical.byContradiction fun hc => this ⟨hi, Or.inl hc⟩
    exact hf.1.2.1
   ·omega
  ·have := (h2a e2).1; omega
theorem lnGo_size (hw : ye n ts) (hi : i < n.pieces.length) : (lnGo n ts i).size <= 90000 := by
 have h1 := trGo_size hw i (List.range ts.length) (fun j hj => List.mem_range.1 hj);have h2 := uH hw.1 hi;have h20 := hw.2.1;rw [List.length_range] at h1;unfold lnGo;have h3 : (⟨#[10]⟩ : ByteArray).size = 1 := rfl
 have hg : (n.pieces.getD i ⟨⟨#[]⟩, 0, 0, 0⟩) = n.pieces[i] := by simp [List.getD_eq_getElem?_getD, hi]
 simp only [ByteArray.size_append, hg, h3];omega
theorem shGo_size (hw : ye n ts) : ∀ (i : Nat), i <= n.pieces.length -> (uy n ts i).size <= 90000 * i := by
 intro i
 induction i with
 | zero => intro _; simp [uy, ByteArray.size]
 | succ i ih =>
  intro h;have h1 := ih (by omega);have h2 := lnGo_size hw (i := i) (by omega);simp only [uy, ByteArray.size_append];omega

set_option maxHeartbeats 8000000 in
theorem implShown_any (v : Value) (n : Nt) (tq : Option Addr) (ts : List Tr) (tk : Nat) (w : World) (hv : zE L w v n) (hts : XW L' w tq ts) (htl : ts.length <= 1048576) (hbl : ∀ t ∈ ts, t.back.length <= 1048576) (hl : n.pieces.length <= 1048576) (hl' : n.joints.length <= 1048576)
  (hle : ∀ i (h : i < n.joints.length), n.joints[i].name.size <= maxLen) (hnm : ∀ i (h : i < n.pieces.length), n.pieces[i].name.size <= maxLen) (ht : TabK w) :
  Calls Tryz.prog 11 #[v, .slice tq ts.length tk] w fun e w' => (∃ s, e = .returned (.string s) /\ Vf n ts s) /\ Below w.heap.size w w' := by
 have hvv := hv;obtain ⟨a1, a2, k1, k2, rfl, hp, hj⟩ := hv;go_enter Tryz.func11, Tryz.ntmps11;go_wp2_with fail;have hA : Below w.heap.size w (w.alloc (.cells #[.slice a1 n.pieces.length k1, .slice a2 n.joints.length k2] 26)) := bw0;refine (worldOf_any _ n tq ts tk _ (L := L) (hvv.below hA) (hts.below hA) htl hbl hl hl' hle hnm).mono ?_;rintro e w1 ⟨hret, hb1⟩;have hB1 := below_then hA hb1;have HT1 := zd (ht.below hB1);clear hb1 hA hp hj hvv hts ht hl hl' hle hnm hbl htl
 rcases hret with ⟨hok, W, ka, ksh, kst, kca, kcsh, kcst, Mp, N, mvv, ms, rfl, hW, hN, hk⟩ | ⟨hno, rfl⟩
 rotate_left
 ·have HNO := zd hno;have HB1 := zd hB1;clear hno hB1;go_wp2_with fail;go_ret;exact ⟨⟨_, rfl, Or.inr ⟨za HNO, rfl⟩⟩, za HB1⟩
 have h20 := hok.2.1;have hG := Zu hok.1;have hnp := hG.np;have hWl := hW.ty.lt;have q0 := hW.c0;have q4 := hW.c4;have HW := zd hW;have HOK := zd hok;have HG := zd hG;have HPC := zd hk.pcs;have HB1 := zd hB1;obtain ⟨m, hm⟩ : ∃ m, n.pieces.length = m := ⟨_, rfl⟩;rw [hm] at q0 hnp;have HM := zd hm;have HC0 := zd q0;have HC4 := zd q4
 have hml : ms.length <= 20 := by rw [hW.len]; exact h20
 clear hok hG hk hB1 hm q4 hW;have HBN := zd (bld_new w1);go_wp2_with fail;obtain ⟨b, hb⟩ : ∃ b, w1.heap.size = b := ⟨_, rfl⟩;rw [hb] at HBN ⊢
 have hbw : w1.heap.size <= b /\ b <= w1.heap.size := by omega
 clear hb q0
 go_loopw [26] (fun z wr => ∃ (i : Nat), z = .int .i64 i /\ i <= m /\ Hid (Vi b (Lib.strCells (uy n ts i)) wr) /\ Below w1.heap.size w1 wr /\ b < wr.heap.size) (fun z _ => m - (intOf z).toNat)
 case atStart => exact ⟨0, rfl, Nat.zero_le _, HBN, bw0, by simp; omega⟩
 case round =>
  clear HBN;obtain ⟨i, rfl, hi, HBi, hbr, hsr⟩ := hrel
  by_cases hlt : i < m
  ·have hlt' : (i : Int) < (m : Int) := by omega
   have hlt2 : i < n.pieces.length := by rw [za HM]; exact hlt
   obtain ⟨pb, poff, hae, hpb, c0, c1, c2, c3⟩ := (za HPC) i hlt2;have p0 := (hbr.cell hpb.2).trans c0;have p1 := (hbr.cell hpb.2).trans c1;have p2 := (hbr.cell hpb.2).trans c2;have p3 := (hbr.cell hpb.2).trans c3
   have hpw : pb < wr.heap.size := by have := hbr.size; omega
   have hns := uH (za HOK).1 hlt2;have hss := shGo_size (za HOK) i (by omega)
   have HLN : Hid (uy n ts (i + 1) = (uy n ts i ++ n.pieces[i].name) ++ (xg n ts i (List.range ts.length) ++ ⟨#[10]⟩)) := by
    unfold Hid
    show uy n ts i ++ lnGo n ts i = _
    unfold lnGo
    simp [List.getD_eq_getElem?_getD, hlt2, Yn]
   obtain ⟨⟨nm, le, spd, br⟩, hpc⟩ : ∃ x, n.pieces[i] = x := ⟨_, rfl⟩;rw [hpc] at p0 p1 p2 p3 hns HLN;dsimp only at p0 p1 p2 p3 hns HLN;obtain ⟨acc, hacc⟩ : ∃ acc, uy n ts i = acc := ⟨_, rfl⟩;rw [hacc] at HBi hss HLN;subst hae;clear c0 c1 c2 c3 hpc hacc;have hwi : IntKind.i64.wrap ((i : Int) + 1) = ((i + 1 : Nat) : Int) := (zj (by omega) (by omega)).trans (by omega);go_wp2_with fail;have hAp : Below wr.heap.size wr (wr.alloc (.cells #[.string nm, .int .i64 le, .int .i64 spd, .int .i64 br] 121)) := bw0;refine (uk b _ nm _ ((za HBi).below hAp) (by rw [Lib.strCells_length]; omega) (by have := hAp.size; omega)).mono ?_;rintro e w3 ⟨rfl, g3, b3, _⟩;have G3 := zd (UB g3);have hB3 : Below w1.heap.size w1 w3 := (below_then hbr hAp).trans (b3.mono (by omega))
   have hs3 : b < w3.heap.size := by have := b3.size; have := hAp.size; omega
   clear g3 b3 hAp p0 p1 p2 p3 hpw HBi;obtain ⟨f, hmap, hrows, _, _⟩ := (za HW).lying;obtain ⟨fa, fcap, hfv, hfc, hptrs⟩ := xF (hrows (i : Int));obtain ⟨is, his⟩ : ∃ is, ((List.range ms.length).filter fun k => (zi n (ts.getD k noTr')).any fun x => decide (x.piece = (i : Int))) = is := ⟨_, rfl⟩
   have hqs : xU ms (fun k => zi n (ts.getD k noTr')) (i : Int) = is.map fun k => ms.getD k 0 := by rw [← his]; rfl
   have hisl : ∀ k ∈ is, k < ms.length := fun k hk => by rw [← his] at hk; exact List.mem_range.1 (List.mem_filter.1 hk).1
   have hisn : is.length <= 20 := by rw [← his]; have := List.length_filter_le (fun k => (zi n (ts.getD k noTr')).any fun x => decide (x.piece = (i : Int))) (List.range ms.length); rw [List.length_range] at this; omega
   have HTG : Hid (xg n ts i is = xg n ts i (List.range ts.length)) := by rw [← his, (za HW).len]; exact trGo_filter n ts i _
   rw [hqs] at hfv hptrs;rw [List.length_map] at hfv;have hwf := Xq (v := (i : Int)) (by omega) (by omega)
   have hlk : (Instr.lookup 72 (.map (some Mp)) (.int .i64 i) false).run Tryz.prog w3 = .ok (.slice fa is.length fcap) w3 := by
    rw [← hfv];exact (hmap.below hB3).look hwf
   have d4 := (hB3.cell (p := ⟨W, 4, none⟩) hWl).trans (za HC4)
   have hW3 : W < w3.heap.size := by have := hB3.size; omega
   have HPR := zd hptrs;have HIS := zd hisl;clear hmap hrows hfv hqs his hptrs hisl hfc;go_wp2_with fail;clear hlk d4
   go_loopw [41] (fun z wx => ∃ (j : Nat), z = .int .i64 j /\ j <= is.length /\ Hid (Vi b (Lib.strCells ((acc ++ nm) ++ xg n ts i (is.take j))) wx) /\ Below w1.heap.size w1 wx /\ b < wx.heap.size) (fun z _ => is.length - (intOf z).toNat)
   case atStart => exact ⟨0, rfl, Nat.zero_le _, by simp only [List.take_zero, xg, vE]; exact G3, hB3, hs3⟩
   case round =>
    clear G3 hB3 hs3 hW3;obtain ⟨j, rfl, hj, HBj, hbx, hsx⟩ := hrel
    have hts0 := trGo_size (za HOK) (i : Int) (is.take j) fun k hk => by have := za HIS k (List.mem_of_mem_take hk); rw [(za HW).len] at this; exact this
    have htl0 : (is.take j).length <= 20 := by rw [List.length_take]; omega
    by_cases hjl : j < is.length
    ·have hjl' : (j : Int) < (is.length : Int) := by omega
     obtain ⟨fb, foff, hfa, hfb, hfc⟩ := (za HPR) j (by rw [List.length_map]; exact hjl);rw [List.getElem_map] at hfc;have hxm := za HIS _ (List.getElem_mem hjl)
     have HTS : Hid (xg n ts i (is.take (j + 1)) = xg n ts i (is.take j) ++ YI i is[j] (zi n (ts.getD is[j] noTr'))) := by unfold Hid; rw [← List.take_append_getElem hjl, trGo_snoc]
     obtain ⟨x, hx⟩ : ∃ x, is[j] = x := ⟨_, rfl⟩;rw [hx] at hfc hxm HTS
     have hxt : x < ts.length := by rw [← (za HW).len]; exact hxm
     have hgd : ms.getD x 0 = ms[x] := by simp [List.getD_eq_getElem?_getD, hxm]
     rw [hgd] at hfc;have mv := (za HW).mvs x hxm
     have hgt : ts.getD x noTr' = ts[x] := by simp [List.getD_eq_getElem?_getD, hxt]
     have hTR : zJ n (ts.getD x noTr') := by rw [hgt]; exact ⟨(za HOK).1, (za HOK).2.2 _ (List.getElem_mem hxt)⟩
     have hosz := on_size (za HOK) (i : Int) hxt (zi n (ts.getD x noTr')).length;rw [List.take_length] at hosz;have hpl := ZG (za HG) hTR.2
     have hfit : ∀ y ∈ zi n (ts.getD x noTr'), (0 <= y.fr /\ y.fr <= 10000000) /\ (0 <= y.to /\ y.to <= 10000000) := fun y hy => by
      have h1 := (XG hTR).1.1 y hy;have h2 := ((za HG).len h1.1.1 h1.1.2).2;have h3 := h1.2;omega
     obtain ⟨cv, hcv, hcr⟩ := mv.cov;obtain ⟨ca, ccap, rfl, _, hcp⟩ := ZB hcr;have hMl := mv.ty.lt;have num := (hbx.cell (p := ⟨ms[x], 412, none⟩) hMl).trans mv.num;have cov := (hbx.cell (p := ⟨ms[x], 413, none⟩) hMl).trans hcv;have fc := (hbx.cell hfb).trans hfc
     have hfw : fb < wr.heap.size := by have := hbx.size; omega
     have hMw : ms[x] < wr.heap.size := by have := hbx.size; omega
     obtain ⟨M, hM⟩ : ∃ M, ms[x] = M := ⟨_, rfl⟩;rw [hM] at num cov fc hMw;obtain ⟨ps, hps⟩ : ∃ ps, zi n (ts.getD x noTr') = ps := ⟨_, rfl⟩;rw [hps] at cov hcp hpl hfit hosz HTS;have HCP := zd hcp;have HFT := zd hfit;have HCV := zd (And.intro num cov);subst hfa;clear hcv hcr hcp hfit mv hM hps hfc hx hgd hgt hTR num cov;have hwj : IntKind.i64.wrap ((j : Int) + 1) = ((j + 1 : Nat) : Int) := (zj (by omega) (by omega)).trans (by omega);go_wp2_with fail;refine (shownOn_any M x i ps ca ccap _ hMw (za HCV).1 (za HCV).2 ((za HCP).below hbx) (by omega) (by omega) (za HFT) ((za HT1).below hbx)).mono ?_;rintro e w5 ⟨rfl, b5⟩;have G5 := zd ((za HBj).below b5);have hB5 := below_then hbx b5;have hs5 := b5.size;clear b5 fc;go_wp2_with fail;refine (uk b _ _ _ (za G5) (by rw [Lib.strCells_length]; simp only [ByteArray.size_append]; omega) (by omega)).mono ?_;rintro e w6 ⟨rfl, g6, b6, _⟩;have G6 := zd (UB g6);have hB6 := hB5.trans (b6.mono (by omega));have hs6 := b6.size;clear g6 b6;go_wp2_with fail;refine ⟨⟨j + 1, rfl, hjl, ?_, hB6, by omega⟩, by simp [intOf]; omega⟩;rw [za HTS, ← Yn];exact G6
    ·have hjl' : ¬ (j : Int) < (is.length : Int) := by omega
     have hje : j = is.length := by omega
     rw [hje, List.take_length] at HBj hts0;go_wp2_with fail;refine (Vd b _ 10 _ (za HBj) (by rw [Lib.strCells_length]; simp only [ByteArray.size_append]; omega) (by omega)).mono ?_;rintro e w5 ⟨rfl, g5, b5, _⟩;have G5 := zd (UA (by omega) (by omega) g5);have hB5 := hbx.trans (b5.mono (by omega));have hs5 := b5.size;clear g5 b5;go_wp2_with fail;refine ⟨⟨i + 1, rfl, hlt, ?_, hB5, by omega⟩, by simp [intOf]; omega⟩;rw [za HLN, ← za HTG, ← Yn];exact G5
  ·have hlt' : ¬ (i : Int) < (m : Int) := by omega
   have him : i = m := by omega
   go_wp2_with fail;refine (Ul b _ _ (za HBi) (by omega)).mono ?_;rintro e w9 ⟨rfl, hb9⟩;go_wp2_with fail;go_ret;refine ⟨⟨_, rfl, Or.inl ⟨za HOK, ?_⟩⟩, (za HB1).trans ((hbr.trans (hb9.mono (by omega))).mono (za HB1).size)⟩;rw [← za HM];rfl

set_option maxHeartbeats 8000000 in
theorem specShown_any (v : Value) (n : Nt) (tq : Option Addr) (ts : List Tr) (tk : Nat) (w : World) (hv : zE L w v n) (hts : XW L' w tq ts) (htl : ts.length <= 1048576) (hbl : ∀ t ∈ ts, t.back.length <= 1048576) (hl : n.pieces.length <= 1048576) (hl' : n.joints.length <= 1048576)
  (hle : ∀ i (h : i < n.joints.length), n.joints[i].ends.length <= 1048576 /\ n.joints[i].name.size <= maxLen) (hnm : ∀ i (h : i < n.pieces.length), n.pieces[i].name.size <= maxLen) :
  Calls Tryz.prog 12 #[v, .slice tq ts.length tk] w fun e w' => (∃ s, e = .returned (.string s) /\ Vf n ts s) /\ Below w.heap.size w w' := by
 have hvv := hv;obtain ⟨a1, a2, k1, k2, rfl, hp, hj⟩ := hv;have HVV := zd hvv;have HTS := zd hts;have HP := zd hp;clear hj hvv hp hts;go_enter Tryz.func12, Tryz.ntmps12;go_wp2_with fail;have hA : Below w.heap.size w (w.alloc (.cells #[.slice a1 n.pieces.length k1, .slice a2 n.joints.length k2] 26)) := bw0;refine (UZ _ n tq ts tk _ ((za HVV).below hA) ((za HTS).below hA) htl hbl hl hl' hle hnm).mono ?_;rintro e w1 ⟨hr, hb1⟩;have hB1 := below_then hA hb1;have hX1 := (zf w #[.slice a1 n.pieces.length k1, .slice a2 n.joints.length k2] 26).below hb1;clear hb1 hA
 rcases hr with ⟨rfl, hw⟩ | ⟨rfl, hw⟩
 rotate_left
 ·go_wp2_with fail;go_ret;exact ⟨⟨_, rfl, Or.inr ⟨hw, rfl⟩⟩, hB1⟩
 have h20 := hw.2.1;have hG := Zu hw.1;have hnp := hG.np;have HW := zd hw;have HG := zd hG;have HX1 := zd hX1;have HB1 := zd hB1;have n0 := hX1.2.1 0 _ rfl;have nl := hX1.1;obtain ⟨m, hm⟩ : ∃ m, n.pieces.length = m := ⟨_, rfl⟩;rw [hm] at n0 hnp;have HM := zd hm;clear hw hG hX1 hB1 hm hl hl' hle hnm hbl htl;obtain ⟨q, hq⟩ : ∃ q, ts.length = q := ⟨_, rfl⟩;rw [hq] at h20 ⊢;have HQ := zd hq;clear hq;go_wp2_with fail;clear n0 nl
 go_loopw [5, 19] (fun y z wr => ∃ (i : Nat) (acc : ByteArray), z = .int .i64 i /\ y = .string acc /\ i <= m /\ Hid (acc = uy n ts i) /\ acc.size <= 90000 * i /\ Below w1.heap.size w1 wr) (fun _ z _ => m - (intOf z).toNat)
 case atStart => exact ⟨0, ⟨#[]⟩, rfl, rfl, Nat.zero_le _, rfl, by simp [ByteArray.size], Below.refl _ _⟩
 case round =>
  obtain ⟨i, acc, rfl, rfl, hi, HACC, hasz, hbr⟩ := hrel
  by_cases hlt : i < m
  ·have hlt' : (i : Int) < (m : Int) := by omega
   have hlt2 : i < n.pieces.length := by rw [za HM]; exact hlt
   obtain ⟨pb, poff, hae, hpb, q0, q1, q2, q3⟩ := (za HP) i hlt2;have hBr := below_then (za HB1) hbr;have p0 := (hBr.cell hpb.2).trans q0;have p1 := (hBr.cell hpb.2).trans q1;have p2 := (hBr.cell hpb.2).trans q2;have p3 := (hBr.cell hpb.2).trans q3
   have hpw : pb < wr.heap.size := by have := hBr.size; omega
   have hns := uH (za HW).1 hlt2
   have HLN : Hid (lnGo n ts i = (n.pieces[i].name ++ xg n ts i (List.range ts.length)) ++ ⟨#[10]⟩) := by unfold Hid lnGo; simp [List.getD_eq_getElem?_getD, hlt2]
   obtain ⟨⟨nm, le, spd, br⟩, hpc⟩ : ∃ x, n.pieces[i] = x := ⟨_, rfl⟩;rw [hpc] at p0 p1 p2 p3 hns HLN;dsimp only at p0 p1 p2 p3 hns HLN;subst hae;have HBR := zd hBr;clear q0 q1 q2 q3 hpc hBr
   have hmx : ¬ 9223372036854775807 < acc.size + nm.size := by omega
   have hwi : IntKind.i64.wrap ((i : Int) + 1) = ((i + 1 : Nat) : Int) := (zj (by omega) (by omega)).trans (by omega);go_wp2_with fail;obtain ⟨w2, hw2⟩ : ∃ w2, wr.alloc (.cells #[.string nm, .int .i64 le, .int .i64 spd, .int .i64 br] 121) = w2 := ⟨_, rfl⟩;have hBw2 : Below w.heap.size w w2 := below_then (za HBR) (by rw [← hw2]; exact bw0);have hB12 : Below w1.heap.size w1 w2 := below_then hbr (by rw [← hw2]; exact bw0);rw [hw2];have HBW2 := zd hBw2;have HB12 := zd hB12;clear hw2 hBw2 hB12 p0 p1 p2 p3 hpw hbr HBR
   go_loopw [5, 30] (fun y z wx => ∃ (k : Nat) (b2 : ByteArray), z = .int .i64 k /\ y = .string b2 /\ k <= q /\ Hid (b2 = (acc ++ nm) ++ xg n ts i (List.range k)) /\ b2.size <= 90000 * i + 20 + 4000 * k /\ Below w2.heap.size w2 wx) (fun _ z _ => q - (intOf z).toNat)
   case atStart => exact ⟨0, _, rfl, rfl, Nat.zero_le _, (vE _).symm, by rw [ByteArray.size_append]; omega, Below.refl _ _⟩
   case round =>
    obtain ⟨k, b2, rfl, rfl, hk, HB2, h2sz, hbx⟩ := hrel
    by_cases hkq : k < q
    ·have hkq' : (k : Int) < (q : Int) := by omega
     have hk2 : k < ts.length := by rw [za HQ]; exact hkq
     obtain ⟨lb, loff, ta, tc, hae, hlb, q0, q1, q2, q3, q4, hst, _⟩ := (za HTS) k hk2;have hBx := below_then (za HBW2) hbx
     have hgd : ts.getD k noTr' = ts[k] := by simp [List.getD_eq_getElem?_getD, hk2]
     have hft := (za HW).2.2 _ (List.getElem_mem hk2)
     have hosz := fun j => on_size (za HW) (i : Int) hk2 j
     rw [hgd] at hosz
     have HSN : Hid (xg n ts i (List.range (k + 1)) = xg n ts i (List.range k) ++ YI i k (zi n ts[k])) := by unfold Hid; rw [List.range_succ, trGo_snoc, hgd]
     obtain ⟨t, hte⟩ : ∃ t, ts[k] = t := ⟨_, rfl⟩;rw [hte] at q0 q1 q2 q3 q4 hst hft hosz HSN;have p0 := (hBx.cell hlb.2).trans q0;have p1 := (hBx.cell hlb.2).trans q1;have p2 := (hBx.cell hlb.2).trans q2;have p3 := (hBx.cell hlb.2).trans q3;have p4 := (hBx.cell hlb.2).trans q4
     have hlw : lb < wr.heap.size := by have := hBx.size; omega
     have hXx := ((za HX1).below (za HB12)).below hbx;have n0 := hXx.2.1 0 _ rfl;have n1 := hXx.2.1 1 _ rfl;have nl := hXx.1;subst hae;have HST := zd hst;have HFT := zd hft;have HOS := zd hosz;have HBX := zd hBx;clear q0 q1 q2 q3 q4 hgd hte hst hft hosz hBx hXx;have hwk : IntKind.i64.wrap ((k : Int) + 1) = ((k + 1 : Nat) : Int) := (zj (by omega) (by omega)).trans (by omega);go_wp2_with fail;have hAt : Below wr.heap.size wr (wr.alloc (.cells #[.int .i64 t.front.piece, .int .i64 t.front.at_, .int .i64 t.front.way, .int .i64 t.long, .slice ta t.back.length tc] 32)) := bw0;have htr : Vh 0 (wr.alloc (.cells #[.int .i64 t.front.piece, .int .i64 t.front.at_, .int .i64 t.front.way, .int .i64 t.long, .slice ta t.back.length tc] 32)) (.agg #[.int .i64 t.front.piece, .int .i64 t.front.at_, .int .i64 t.front.way, .int .i64 t.long, .slice ta t.back.length tc]) t := ⟨ta, tc, rfl, (((za HST).below (za HBX)).below hAt).mono (Nat.zero_le _)⟩;refine (yX _ _ n t _ (((za HVV).below (za HBX)).below hAt) htr (za HG) (za HFT)).mono ?_;rintro e w3 ⟨u, rfl, hrow3, hb3⟩;obtain ⟨pq, pk, rfl, _, hpt⟩ := ZB hrow3;have hpl : (zi n t).length <= 201 := ZG (za HG) (za HFT)
     have hfit : ∀ x ∈ zi n t, (0 <= x.fr /\ x.fr <= 10000000) /\ (0 <= x.to /\ x.to <= 10000000) := fun x hx => by
      have h1 := (XG (t := t) ⟨(za HW).1, za HFT⟩).1.1 x hx;have h2 := ((za HG).len h1.1.1 h1.1.2).2;have h3 := h1.2;omega
     obtain ⟨ps, hpse⟩ : ∃ ps, zi n t = ps := ⟨_, rfl⟩;rw [hpse] at hpt hpl hfit HOS HSN ⊢;have HPT := zd hpt;have HFIT := zd hfit;have HB23 := zd (below_then hbx (below_then hAt hb3));clear hrow3 hb3 hpt hfit hAt htr hpse p0 p1 p2 p3 p4 n0 n1 nl hlw hbx HBX;go_wp2_with fail
     go_loopw [5, 39] (fun y z wx => ∃ (j : Nat) (b3 : ByteArray), z = .int .i64 j /\ y = .string b3 /\ j <= ps.length /\ Hid (b3 = b2 ++ YI i k (ps.take j)) /\ Below w3.heap.size w3 wx) (fun _ z _ => ps.length - (intOf z).toNat)
     case atStart => exact ⟨0, b2, rfl, rfl, Nat.zero_le _, (vE _).symm, Below.refl _ _⟩
     case round =>
      obtain ⟨j, b3, rfl, rfl, hj, HB3, hby⟩ := hrel
      have hb3s : b3.size <= b2.size + 4000 := by rw [za HB3, ByteArray.size_append]; have := za HOS j; omega
      by_cases hjl : j < ps.length
      ·have hjl' : (j : Int) < (ps.length : Int) := by omega
       obtain ⟨xb, xoff, hae, hxb, q0, q1, q2⟩ := (za HPT) j hjl;have hfx := za HFIT _ (List.getElem_mem hjl)
       have htk : YI i k (ps.take (j + 1)) = YI i k (ps.take j) ++ (if ps[j].piece = (i : Int) then vy k ps[j] else ⟨#[]⟩) := by rw [← List.take_append_getElem hjl, onGo_snoc]
       obtain ⟨⟨xp, xf, xt⟩, hx⟩ : ∃ x, ps[j] = x := ⟨_, rfl⟩;rw [hx] at q0 q1 q2 hfx htk;dsimp only at q0 q1 q2 hfx htk;have p0 := (hby.cell hxb.2).trans q0;have p1 := (hby.cell hxb.2).trans q1;have p2 := (hby.cell hxb.2).trans q2;have hxw : xb < wr.heap.size := Nat.lt_of_lt_of_le hxb.2 hby.size;have HTK := zd htk;subst hae;clear q0 q1 q2 hx htk;have hwj : IntKind.i64.wrap ((j : Int) + 1) = ((j + 1 : Nat) : Int) := (zj (by omega) (by omega)).trans (by omega)
       by_cases hxp : xp = (i : Int)
       ·subst hxp;obtain ⟨fn, rfl⟩ := Int.eq_ofNat_of_zero_le hfx.1.1;obtain ⟨tn, rfl⟩ := Int.eq_ofNat_of_zero_le hfx.2.1
        have HN : Hid (b3 ++ ((((⟨#[32]⟩ ++ strOfNums [65 + (k : Int)]) ++ xe fn) ++ ⟨#[45]⟩) ++ xe tn) = b2 ++ YI i k (ps.take (j + 1))) := by
         rw [za HTK, if_pos rfl, za HB3];unfold Hid vy;simp only [Int.toNat_natCast, Yn]
        have hd1 := YO (n := fn) (by omega);have hd2 := YO (n := tn) (by omega);have z1 : (⟨#[32]⟩ : ByteArray).size = 1 := rfl;have z2 : (⟨#[45]⟩ : ByteArray).size = 1 := rfl
        have m1 : ¬ 9223372036854775807 < 1 + (strOfNums [65 + (k : Int)]).size := by rw [Yr]; omega
        have m2 : ¬ 9223372036854775807 < 1 + (strOfNums [65 + (k : Int)]).size + (xe fn).size := by rw [Yr]; omega
        have m3 : ¬ 9223372036854775807 < 1 + (strOfNums [65 + (k : Int)]).size + (xe fn).size + 1 := by rw [Yr]; omega
        have m4 : ¬ 9223372036854775807 < 1 + (strOfNums [65 + (k : Int)]).size + (xe fn).size + 1 + (xe tn).size := by rw [Yr]; omega
        have m5 : ¬ 9223372036854775807 < b3.size + (1 + (strOfNums [65 + (k : Int)]).size + (xe fn).size + 1 + (xe tn).size) := by rw [Yr]; omega
        have w65 : IntKind.i64.wrap (65 + (k : Int)) = 65 + (k : Int) := zj (by omega) (by omega)
        have u65 : IntKind.u8.wrap (65 + (k : Int)) = 65 + (k : Int) := by rw [IntKind.wrap_u8]; omega
        clear z1 z2 HTK;go_upto_region 15 with fail;obtain ⟨X, hX⟩ : ∃ X, wr.heap.size = X := ⟨_, rfl⟩;obtain ⟨wz, hwz⟩ : ∃ wz, wr.alloc (.cells #[.int .i64 i, .int .i64 fn, .int .i64 tn] 103) = wz := ⟨_, rfl⟩
        have hBz : Below wr.heap.size wr wz := by rw [← hwz]; exact bw0
        have hBX : zg wz X [.int .i64 i, .int .i64 fn, .int .i64 tn] := by rw [← hwz, ← hX]; exact zf _ _ _
        rw [hwz, hX];have HBX := zd hBX;have HBZ := zd (below_then hby hBz);have x1 := hBX.2.1 1 _ rfl;have x2 := hBX.2.1 2 _ rfl;have xl := hBX.1;clear hwz hX hBz hBX p0 p1 p2 hxw hby;refine wp_region_held_drew (S := fun w' => w'.cell? ⟨X, 1, none⟩ = some (.int .i64 fn) /\ w'.cell? ⟨X, 2, none⟩ = some (.int .i64 tn)) (by kernel_rfl) ?_ (fun hHeld => ?_)
        ·exact ⟨by simpa using x1, by simpa using x2⟩
        refine zS 0 ?_;refine zS 1 ?_;refine zS 2 ?_;refine zS 3 ?_;refine zS 7 ?_;refine zS 8 ?_;refine zS 12 ?_;refine zS 13 ?_;refine wpAnyH_ready (rs := [4, 9]) (by kernel_rfl) (by simp) ?_;refine (AllReadyH.cons rfl (fun K hK => ?_) (AllReadyH.cons rfl (fun K hK => ?_) AllReadyH.nil))
        ·go_simp;have hGb : zg (wz.alloc (.cells #[.int .u8 (65 + (k : Int))] 5)).drew wz.heap.size [.int .u8 (65 + (k : Int))] := (zf wz #[.int .u8 (65 + (k : Int))] 5).below bw0;have hGc := hGb.2.1 0 _ rfl;have hGl := hGb.1;clear hGb;have hBC : Below wz.heap.size wz (wz.alloc (.cells #[.int .u8 (65 + (k : Int))] 5)).drew := bw0;have hBXn := (za HBX).below hBC;have hHeld := And.intro (hBXn.2.1 1 _ rfl) (hBXn.2.1 2 _ rfl);have xln := hBXn.1;clear hBXn;refine hK.out _ _ hHeld (fun _ => ?_);clear hK K
         (try simp only [sA])
         refine wpAnyH_ready (rs := [5, 9]) (by kernel_rfl) (by simp) ?_;refine (AllReadyH.cons rfl (fun K hK => ?_) (AllReadyH.cons rfl (fun K hK => ?_) AllReadyH.nil))
         ·have hcv := xq _ _ _ hGc;go_simp;clear hcv;refine hK.out _ _ hHeld (fun _ => ?_);clear hK K
          (try simp only [sA])
          refine zS 6 ?_;refine wpAnyH_ready (rs := [9]) (by kernel_rfl) (by simp) ?_;refine (AllReadyH.cons rfl (fun K hK => ?_) AllReadyH.nil);go_simp;refine (YV fn _ (by omega)).mono ?_;rintro e wd ⟨rfl, hbn⟩;dsimp only;have hGc := (hbn.cell hGl).trans hGc;have hGl := Nat.lt_of_lt_of_le hGl hbn.size;have hBC : Below wz.heap.size wz wd := below_then hBC hbn;have hBXn := (za HBX).below hBC;have hHeld := And.intro (hBXn.2.1 1 _ rfl) (hBXn.2.1 2 _ rfl);have xln := hBXn.1;clear hBXn;refine hK.out _ _ hHeld (fun _ => ?_);clear hK K
          (try simp only [sA])
          refine zS 10 ?_;refine zS 11 ?_;refine wpAnyH_ready (rs := [14]) (by kernel_rfl) (by simp) ?_;refine (AllReadyH.cons rfl (fun K hK => ?_) AllReadyH.nil);go_simp;refine (YV tn _ (by omega)).mono ?_;rintro e we ⟨rfl, hbn⟩;dsimp only;have hGc := (hbn.cell hGl).trans hGc;have hGl := Nat.lt_of_lt_of_le hGl hbn.size;have hBC : Below wz.heap.size wz we := below_then hBC hbn;have hBXn := (za HBX).below hBC;have hHeld := And.intro (hBXn.2.1 1 _ rfl) (hBXn.2.1 2 _ rfl);have xln := hBXn.1;clear hBXn;refine hK.out _ _ hHeld (fun _ => ?_);clear hK K
          (try simp only [sA])
          refine zS 15 ?_;refine zS 16 ?_;refine zS 17 ?_;refine wpAnyH_done (by kernel_rfl) ?_ _

          go_wp2_with fail;exact ⟨⟨j + 1, _, rfl, rfl, hjl, HN, below_then (za HBZ) hBC⟩, by simp [intOf]; omega⟩
         ·go_simp;refine (YV fn _ (by omega)).mono ?_;rintro e wd ⟨rfl, hbn⟩;dsimp only;have hGc := (hbn.cell hGl).trans hGc;have hGl := Nat.lt_of_lt_of_le hGl hbn.size;have hBC : Below wz.heap.size wz wd := below_then hBC hbn;have hBXn := (za HBX).below hBC;have hHeld := And.intro (hBXn.2.1 1 _ rfl) (hBXn.2.1 2 _ rfl);have xln := hBXn.1;clear hBXn;refine hK.out _ _ hHeld (fun _ => ?_);clear hK K
          (try simp only [sA])
          refine wpAnyH_ready (rs := [5, 14]) (by kernel_rfl) (by simp) ?_;refine (AllReadyH.cons rfl (fun K hK => ?_) (AllReadyH.cons rfl (fun K hK => ?_) AllReadyH.nil))
          ·have hcv := xq _ _ _ hGc;go_simp;clear hcv;refine hK.out _ _ hHeld (fun _ => ?_);clear hK K
           (try simp only [sA])
           refine zS 6 ?_;refine zS 10 ?_;refine zS 11 ?_;refine wpAnyH_ready (rs := [14]) (by kernel_rfl) (by simp) ?_;refine (AllReadyH.cons rfl (fun K hK => ?_) AllReadyH.nil);go_simp;refine (YV tn _ (by omega)).mono ?_;rintro e we ⟨rfl, hbn⟩;dsimp only;have hGc := (hbn.cell hGl).trans hGc;have hGl := Nat.lt_of_lt_of_le hGl hbn.size;have hBC : Below wz.heap.size wz we := below_then hBC hbn;have hBXn := (za HBX).below hBC;have hHeld := And.intro (hBXn.2.1 1 _ rfl) (hBXn.2.1 2 _ rfl);have xln := hBXn.1;clear hBXn;refine hK.out _ _ hHeld (fun _ => ?_);clear hK K
           (try simp only [sA])
           refine zS 15 ?_;refine zS 16 ?_;refine zS 17 ?_;refine wpAnyH_done (by kernel_rfl) ?_ _

           go_wp2_with fail;exact ⟨⟨j + 1, _, rfl, rfl, hjl, HN, below_then (za HBZ) hBC⟩, by simp [intOf]; omega⟩
          ·go_simp;refine (YV tn _ (by omega)).mono ?_;rintro e we ⟨rfl, hbn⟩;dsimp only;have hGc := (hbn.cell hGl).trans hGc;have hGl := Nat.lt_of_lt_of_le hGl hbn.size;have hBC : Below wz.heap.size wz we := below_then hBC hbn;have hBXn := (za HBX).below hBC;have hHeld := And.intro (hBXn.2.1 1 _ rfl) (hBXn.2.1 2 _ rfl);have xln := hBXn.1;clear hBXn;refine hK.out _ _ hHeld (fun _ => ?_);clear hK K
           (try simp only [sA])
           refine wpAnyH_ready (rs := [5]) (by kernel_rfl) (by simp) ?_;refine (AllReadyH.cons rfl (fun K hK => ?_) AllReadyH.nil);have hcv := xq _ _ _ hGc;go_simp;clear hcv;refine hK.out _ _ hHeld (fun _ => ?_);clear hK K
           (try simp only [sA])
           refine zS 6 ?_;refine zS 10 ?_;refine zS 11 ?_;refine zS 15 ?_;refine zS 16 ?_;refine zS 17 ?_;refine wpAnyH_done (by kernel_rfl) ?_ _

           go_wp2_with fail;exact ⟨⟨j + 1, _, rfl, rfl, hjl, HN, below_then (za HBZ) hBC⟩, by simp [intOf]; omega⟩
        ·go_simp;refine (YV fn _ (by omega)).mono ?_;rintro e wd ⟨rfl, hbn⟩;dsimp only;have hBC : Below wz.heap.size wz wd := below_then bw0 hbn;have hBXn := (za HBX).below hBC;have hHeld := And.intro (hBXn.2.1 1 _ rfl) (hBXn.2.1 2 _ rfl);have xln := hBXn.1;clear hBXn;refine hK.out _ _ hHeld (fun _ => ?_);clear hK K
         (try simp only [sA])
         refine wpAnyH_ready (rs := [4, 14]) (by kernel_rfl) (by simp) ?_;refine (AllReadyH.cons rfl (fun K hK => ?_) (AllReadyH.cons rfl (fun K hK => ?_) AllReadyH.nil))
         ·go_simp;have hGb : zg (wd.alloc (.cells #[.int .u8 (65 + (k : Int))] 5)) wd.heap.size [.int .u8 (65 + (k : Int))] := (zf wd #[.int .u8 (65 + (k : Int))] 5).below bw0;have hGc := hGb.2.1 0 _ rfl;have hGl := hGb.1;clear hGb;have hBC : Below wz.heap.size wz (wd.alloc (.cells #[.int .u8 (65 + (k : Int))] 5)) := below_then hBC bw0;have hBXn := (za HBX).below hBC;have hHeld := And.intro (hBXn.2.1 1 _ rfl) (hBXn.2.1 2 _ rfl);have xln := hBXn.1;clear hBXn;refine hK.out _ _ hHeld (fun _ => ?_);clear hK K
          (try simp only [sA])
          refine wpAnyH_ready (rs := [5, 14]) (by kernel_rfl) (by simp) ?_;refine (AllReadyH.cons rfl (fun K hK => ?_) (AllReadyH.cons rfl (fun K hK => ?_) AllReadyH.nil))
          ·have hcv := xq _ _ _ hGc;go_simp;clear hcv;refine hK.out _ _ hHeld (fun _ => ?_);clear hK K
           (try simp only [sA])
           refine zS 6 ?_;refine zS 10 ?_;refine zS 11 ?_;refine wpAnyH_ready (rs := [14]) (by kernel_rfl) (by simp) ?_;refine (AllReadyH.cons rfl (fun K hK => ?_) AllReadyH.nil);go_simp;refine (YV tn _ (by omega)).mono ?_;rintro e we ⟨rfl, hbn⟩;dsimp only;have hGc := (hbn.cell hGl).trans hGc;have hGl := Nat.lt_of_lt_of_le hGl hbn.size;have hBC : Below wz.heap.size wz we := below_then hBC hbn;have hBXn := (za HBX).below hBC;have hHeld := And.intro (hBXn.2.1 1 _ rfl) (hBXn.2.1 2 _ rfl);have xln := hBXn.1;clear hBXn;refine hK.out _ _ hHeld (fun _ => ?_);clear hK K
           (try simp only [sA])
           refine zS 15 ?_;refine zS 16 ?_;refine zS 17 ?_;refine wpAnyH_done (by kernel_rfl) ?_ _

           go_wp2_with fail;exact ⟨⟨j + 1, _, rfl, rfl, hjl, HN, below_then (za HBZ) hBC⟩, by simp [intOf]; omega⟩
          ·go_simp;refine (YV tn _ (by omega)).mono ?_;rintro e we ⟨rfl, hbn⟩;dsimp only;have hGc := (hbn.cell hGl).trans hGc;have hGl := Nat.lt_of_lt_of_le hGl hbn.size;have hBC : Below wz.heap.size wz we := below_then hBC hbn;have hBXn := (za HBX).below hBC;have hHeld := And.intro (hBXn.2.1 1 _ rfl) (hBXn.2.1 2 _ rfl);have xln := hBXn.1;clear hBXn;refine hK.out _ _ hHeld (fun _ => ?_);clear hK K
           (try simp only [sA])
           refine wpAnyH_ready (rs := [5]) (by kernel_rfl) (by simp) ?_;refine (AllReadyH.cons rfl (fun K hK => ?_) AllReadyH.nil);have hcv := xq _ _ _ hGc;go_simp;clear hcv;refine hK.out _ _ hHeld (fun _ => ?_);clear hK K
           (try simp only [sA])
           refine zS 6 ?_;refine zS 10 ?_;refine zS 11 ?_;refine zS 15 ?_;refine zS 16 ?_;refine zS 17 ?_;refine wpAnyH_done (by kernel_rfl) ?_ _

           go_wp2_with fail;exact ⟨⟨j + 1, _, rfl, rfl, hjl, HN, below_then (za HBZ) hBC⟩, by simp [intOf]; omega⟩
         ·go_simp;refine (YV tn _ (by omega)).mono ?_;rintro e we ⟨rfl, hbn⟩;dsimp only;have hBC : Below wz.heap.size wz we := below_then hBC hbn;have hBXn := (za HBX).below hBC;have hHeld := And.intro (hBXn.2.1 1 _ rfl) (hBXn.2.1 2 _ rfl);have xln := hBXn.1;clear hBXn;refine hK.out _ _ hHeld (fun _ => ?_);clear hK K
          (try simp only [sA])
          refine wpAnyH_ready (rs := [4]) (by kernel_rfl) (by simp) ?_;refine (AllReadyH.cons rfl (fun K hK => ?_) AllReadyH.nil);go_simp;have hGb : zg (we.alloc (.cells #[.int .u8 (65 + (k : Int))] 5)) we.heap.size [.int .u8 (65 + (k : Int))] := (zf we #[.int .u8 (65 + (k : Int))] 5).below bw0;have hGc := hGb.2.1 0 _ rfl;have hGl := hGb.1;clear hGb;have hBC : Below wz.heap.size wz (we.alloc (.cells #[.int .u8 (65 + (k : Int))] 5)) := below_then hBC bw0;have hBXn := (za HBX).below hBC;have hHeld := And.intro (hBXn.2.1 1 _ rfl) (hBXn.2.1 2 _ rfl);have xln := hBXn.1;clear hBXn;refine hK.out _ _ hHeld (fun _ => ?_);clear hK K
          (try simp only [sA])
          refine wpAnyH_ready (rs := [5]) (by kernel_rfl) (by simp) ?_;refine (AllReadyH.cons rfl (fun K hK => ?_) AllReadyH.nil);have hcv := xq _ _ _ hGc;go_simp;clear hcv;refine hK.out _ _ hHeld (fun _ => ?_);clear hK K
          (try simp only [sA])
          refine zS 6 ?_;refine zS 10 ?_;refine zS 11 ?_;refine zS 15 ?_;refine zS 16 ?_;refine zS 17 ?_;refine wpAnyH_done (by kernel_rfl) ?_ _

          go_wp2_with fail;exact ⟨⟨j + 1, _, rfl, rfl, hjl, HN, below_then (za HBZ) hBC⟩, by simp [intOf]; omega⟩
       ·have hxp' : (xp == (i : Int)) = false := by rw [beq_eq_false_iff_ne]; exact hxp
        have HN : Hid (b3 = b2 ++ YI i k (ps.take (j + 1))) := by rw [za HTK, if_neg hxp, vE]; exact za HB3
        clear HTK;go_wp2_with fail;exact ⟨⟨j + 1, b3, rfl, rfl, hjl, HN, below_then hby bw0⟩, by simp [intOf]; omega⟩
      ·have hjl' : ¬ (j : Int) < (ps.length : Int) := by omega
       have hje : j = ps.length := by omega
       have HNB : Hid (b3 = (acc ++ nm) ++ xg n ts i (List.range (k + 1))) := by
        rw [za HSN, za HB3, za HB2, hje, List.take_length];unfold Hid;simp only [Yn]
       go_wp2_with fail;exact ⟨⟨k + 1, b3, rfl, rfl, by omega, HNB, by omega, below_then (za HB23) hby⟩, by simp [intOf]; omega⟩
    ·have hkq' : ¬ (k : Int) < (q : Int) := by omega
     have hke : k = q := by omega
     have hmx2 : ¬ 9223372036854775807 < b2.size + (⟨#[10]⟩ : ByteArray).size := by have : (⟨#[10]⟩ : ByteArray).size = 1 := rfl; omega
     have HNX : Hid (b2 ++ ⟨#[10]⟩ = uy n ts (i + 1)) := by
      show _ = uy n ts i ++ lnGo n ts i
      rw [za HLN, za HB2, za HACC, hke, ← za HQ];simp only [Yn]
     have hsz3 : (b2 ++ ⟨#[10]⟩ : ByteArray).size <= 90000 * (i + 1) := by rw [ByteArray.size_append]; have : (⟨#[10]⟩ : ByteArray).size = 1 := rfl; omega
     obtain ⟨b4, hb4⟩ : ∃ b4, b2 ++ ⟨#[10]⟩ = b4 := ⟨_, rfl⟩;rw [hb4] at HNX hsz3;have HB4 := zd hb4;clear hb4;go_wp2_with fail;rw [za HB4];exact ⟨⟨i + 1, b4, rfl, rfl, by omega, HNX, hsz3, below_then (za HB12) hbx⟩, by simp [intOf]; omega⟩
  ·have hlt' : ¬ (i : Int) < (m : Int) := by omega
   have him : i = m := by omega
   go_wp2_with fail;go_ret;refine ⟨⟨_, rfl, Or.inl ⟨za HW, ?_⟩⟩, below_then (za HB1) hbr⟩;rw [za HACC, him, ← za HM];rfl
end Go.Proofs.YthdioeofdofleaaGreatDoor
