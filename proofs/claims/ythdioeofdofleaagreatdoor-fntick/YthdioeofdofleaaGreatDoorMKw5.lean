import Derived.Test.YthdioeofdofleaaGreatDoorMKt17
import Derived.Test.YthdioeofdofleaaGreatDoorMKt22
import Derived.Maps.AppendAt
namespace Go.Proofs.YthdioeofdofleaaGreatDoor
open Go.RowKit Go.Maps
variable {w w' a W' wa wr : World} {b base Mp N m cap F : Nat} {T : TypeId} {S av : Nat -> Prop} {v : Value} {ls : Int -> List Nat} {n : Nt} {ps : List Pt} {qs ms : List Nat} {cv : Nat -> List Pt}
def zx (w : World) (b : Nat) (T : TypeId) : Prop := ∃ c, w.heap[b]? = some (.cells c T (0, 0))
structure ZR (S : Nat -> Prop) (w w' : World) : Prop where
 os : w'.os = w.os
 tape : w'.tape = w.tape
 output : w'.output = w.output
 size : w.heap.size <= w'.heap.size
 block : ∀ k, k < w.heap.size -> ¬ S k -> w'.heap[k]? = w.heap[k]?

theorem zx.lt (h : zx w b T) : b < w.heap.size := by
 obtain ⟨c, h⟩ := h;exact (Array.getElem?_eq_some_iff.1 h).1
theorem zx.cells (h : zx w b T) : Zh w b := by
 obtain ⟨c, h⟩ := h;exact ⟨c, T, h⟩
theorem zx.same (h : zx w b T) (hb : w'.heap[b]? = w.heap[b]?) : zx w' b T := by
 obtain ⟨c, h⟩ := h;exact ⟨c, hb.trans h⟩
theorem zx.below (h : zx w b T) (hb : Below w.heap.size w w') : zx w' b T := h.same (hb.block b h.lt)
theorem zx.unique {T' : TypeId} (h : zx w b T) (g : zx w b T') : T = T' := by
 obtain ⟨c, h⟩ := h;obtain ⟨c', g⟩ := g;rw [h] at g
 simp at g
 exact g.2
theorem Zy (w : World) (c : Array Value) (T : TypeId) : zx (w.alloc (.cells c T)) w.heap.size T := ⟨c, Deep.blk_alloc_new _ _⟩
theorem isTy_only (h : zx w b T) (ho : zP S w w') : zx w' b T := by
 obtain ⟨c, h⟩ := h;obtain ⟨c', h1, _⟩ := ho.shape b c T _ h;exact ⟨c', h1⟩
theorem Zq (h : zx w b T) (p : Addr) (v : Value) : zx (w.setCell p v) b T := isTy_only h (ze (S := fun _ => True) w trivial v)

theorem ZR.refl (S : Nat -> Prop) (w : World) : ZR S w w := ⟨rfl, rfl, rfl, Nat.le_refl _, fun _ _ _ => rfl⟩
theorem ZR.of_below (h : Below w.heap.size w w') : ZR S w w' := ⟨h.os, h.tape, h.output, h.size, fun k hk _ => h.block k hk⟩
theorem ZR.then_below {b : World} (h : ZR S w a) (k : Below a.heap.size a b) : ZR S w b :=
 ⟨k.os.trans h.os, k.tape.trans h.tape, k.output.trans h.output, Nat.le_trans h.size k.size, fun i hi hs => (k.block i (Nat.lt_of_lt_of_le hi h.size)).trans (h.block i hi hs)⟩
theorem ZR.trans {b : World} (h : ZR S w a) (k : ZR S a b) : ZR S w b :=
 ⟨k.os.trans h.os, k.tape.trans h.tape, k.output.trans h.output, Nat.le_trans h.size k.size, fun i hi hs => (k.block i (Nat.lt_of_lt_of_le hi h.size) hs).trans (h.block i hi hs)⟩
theorem ZR.mono {R : Nat -> Prop} (h : ZR S w a) (hr : ∀ k, k < w.heap.size -> S k -> R k) : ZR R w a := ⟨h.os, h.tape, h.output, h.size, fun i hi hs => h.block i hi fun x => hs (hr i hi x)⟩
theorem ZR.grown {b : World} {r : Option Nat} (h : ZR S w a) (g : a.grownBy b r) (hr : ∀ k, r = some k -> k < w.heap.size -> S k) : ZR S w b :=
 ⟨g.os.trans h.os, g.tape.trans h.tape, g.output.trans h.output, Nat.le_trans h.size g.size, fun i hi hs => (g.block i (Nat.lt_of_lt_of_le hi h.size) (fun e => hs (hr i e.symm hi))).trans (h.block i hi hs)⟩
theorem ZR.below {B : Nat} (h : ZR S w a) (hB : B <= w.heap.size) (hS : ∀ k, k < B -> ¬ S k) : Below B w a := ⟨h.os, h.tape, h.output, h.size, fun k hk => h.block k (by omega) (hS k hk)⟩

theorem zV.ty {α : Type} {e : TypeId} {sz : Nat} {f : α -> List Value} {xs : List α} (h : zV w base e sz f v xs) {k : Nat} (hk : v.ownBlock = some k) : zx w k e := by
 obtain ⟨_, ⟨rfl, _⟩ | ⟨g, cap, cur, rfl, hb, hh, _⟩⟩ := h
 ·simp [Value.ownBlock] at hk
 ·simp [Value.ownBlock] at hk
  subst hk;exact ⟨cur, hh⟩

def prF (b : Nat) : List Value := [.pointer (some ⟨b, 0, none⟩)]
theorem prF_len (b : Nat) : (prF b).length = 1 := rfl
abbrev YE (w : World) (base : Nat) (v : Value) (bs : List Nat) : Prop := zV w base 77 1 prF v bs
theorem xF {bs : List Nat} (h : YE w base v bs) : ∃ a cap, v = .slice a bs.length cap /\ bs.length <= cap /\ XP w a bs := by
 obtain ⟨a, cap, hv, hc, hx⟩ := h.shape prF_len;refine ⟨a, cap, hv, hc, fun i hi => ?_⟩;obtain ⟨g, ha, hg, hj⟩ := hx i hi;have e0 := hj 0 (by omega);simp only [prF] at e0;exact ⟨g, 0, ha, hg.2, by simpa using e0⟩

def zZ (w : World) (base Mp N : Nat) (ls : Int -> List Nat) (av : Nat -> Prop) : Prop :=
 ∃ f, yU w Mp N f /\ (∀ p, YE w base (f p) (ls p)) /\ (∀ p q, p ≠ q -> (f p).ownBlock = none \/ (f p).ownBlock ≠ (f q).ownBlock) /\ ∀ p k, (f p).ownBlock = some k -> ¬ av k

def laid (ls : Int -> List Nat) (M : Nat) (xs : List Pt) : Int -> List Nat := fun p => if (xs.any (fun x => decide (x.piece = p)) && !decide (M ∈ ls p)) = true then ls p ++ [M] else ls p
theorem laid_nil (ls : Int -> List Nat) (M : Nat) : laid ls M [] = ls := by funext p; simp [laid]
theorem laid_in (ls : Int -> List Nat) (M : Nat) (xs : List Pt) (x : Pt) (h : M ∈ laid ls M xs x.piece) : laid ls M (xs ++ [x]) = laid ls M xs := by
 funext p
 by_cases e : x.piece = p
 ·subst e;unfold laid at h ⊢
  by_cases hM : M ∈ ls x.piece
  ·simp [hM]
  ·simp only [hM, decide_false, Bool.not_false, Bool.and_true] at h ⊢
   by_cases ha : xs.any (fun y => decide (y.piece = x.piece)) = true
   ·rw [if_pos ha, if_pos (by simp at ha ⊢)]
   ·rw [if_neg ha] at h;exact absurd h hM
 ·unfold laid
  simp [List.any_append, e]
theorem laid_new (ls : Int -> List Nat) (M : Nat) (xs : List Pt) (x : Pt) (h : ¬ M ∈ laid ls M xs x.piece) : laid ls M (xs ++ [x]) = fun q => if q = x.piece then laid ls M xs x.piece ++ [M] else laid ls M xs q := by
 funext p
 by_cases e : p = x.piece
 ·subst e
  have hM : ¬ M ∈ ls x.piece := fun hm => h (by unfold laid; split <;> simp [hm])
  have ha : ¬ xs.any (fun y => decide (y.piece = x.piece)) = true := fun ha => h (by unfold laid; rw [if_pos (by simp only [ha, hM, decide_false, Bool.not_false, Bool.and_true])]; simp)
  simp only [if_true];unfold laid;rw [if_pos (by simp [hM]), if_neg (by simp only [hM, decide_false, Bool.not_false, Bool.and_true]; exact ha)]
 ·have e2 : ¬ x.piece = p := fun h => e h.symm
  simp only [if_neg e];unfold laid
  simp [List.any_append, e2]
theorem laid_len (ls : Int -> List Nat) (M : Nat) (xs : List Pt) {K : Nat} (h : ∀ p, (ls p).length <= K) (p : Int) : (laid ls M xs p).length <= K + 1 := by
 have := h p;unfold laid
 split
 ·simp; omega
 ·omega
theorem laid_mem (ls : Int -> List Nat) (M : Nat) (xs : List Pt) {P : Nat -> Prop} (h : ∀ p, ∀ q ∈ ls p, P q) (hM : P M) (p : Int) : ∀ q ∈ laid ls M xs p, P q := by
 intro q hq;unfold laid at hq
 split at hq
 ·rcases List.mem_append.1 hq with h1 | h1
  ·exact h p q h1
  ·obtain rfl : q = M := by simpa using h1
   exact hM
 ·exact h p q hq

theorem zZ.lt (h : zZ w base Mp N ls av) : Mp < w.heap.size := by
 obtain ⟨f, hm, _⟩ := h;exact hm.lt
theorem zZ.notCells (h : zZ w base Mp N ls av) (hb : Zh w b) : b ≠ Mp := by
 rintro rfl;obtain ⟨f, ⟨D, _, ⟨es, clock, hb2, _⟩, _⟩, _⟩ := h;obtain ⟨c, t, h2⟩ := hb;rw [hb2] at h2
 simp at h2
theorem zZ.kept (h : zZ w base Mp N ls av) (hM : w'.heap[Mp]? = w.heap[Mp]?) (hT : ∀ k, zx w k 77 -> ¬ av k -> w'.heap[k]? = w.heap[k]?) : zZ w' base Mp N ls av := by
 obtain ⟨f, hm, hr, hd, ha⟩ := h;refine ⟨f, hm.of_block hM, fun p => (hr p).block fun k hk => hT k ((hr p).ty hk) (ha p k hk), hd, ha⟩
theorem zZ.below (h : zZ w base Mp N ls av) (hb : Below w.heap.size w w') : zZ w' base Mp N ls av :=
 h.kept (hb.block Mp h.lt) fun k hk _ => hb.block k hk.lt
theorem zZ.setCell (h : zZ w base Mp N ls av) {p : Addr} (hp : zx w p.block T) (hT : T ≠ 77) (v : Value) : zZ (w.setCell p v) base Mp N ls av :=
 h.kept (Below.heap_setCell w p v Mp (fun e => h.notCells hp.cells e.symm)) fun k hk _ => Below.heap_setCell w p v k (fun e => hT (by subst e; exact hp.unique hk))

theorem pContains_T (a : Option Addr) (cap : Nat) (ps : List Nat) (m : Nat) (w : World) (h : XP w a ps) (hl : ps.length <= 1000000) (hm : Zh w m) (hps : ∀ q ∈ ps, Zh w q) (hin : m ∈ ps) :
  Calls Tryz.prog 91 #[.slice a ps.length cap, .pointer (some ⟨m, 0, none⟩)] w fun e w' => e = .returned (.bool true) /\ Below w.heap.size w w' :=
 (Vn a cap ps m w h hl hm hps).mono fun e w' ⟨hr, hw⟩ => by
  subst hw
  rcases hr with ⟨rfl, _⟩ | ⟨rfl, hn⟩
  ·exact ⟨rfl, Below.refl _ _⟩
  ·exact absurd hin hn
theorem pContains_F (a : Option Addr) (cap : Nat) (ps : List Nat) (m : Nat) (w : World) (h : XP w a ps) (hl : ps.length <= 1000000) (hm : Zh w m) (hps : ∀ q ∈ ps, Zh w q) (hin : ¬ m ∈ ps) :
  Calls Tryz.prog 91 #[.slice a ps.length cap, .pointer (some ⟨m, 0, none⟩)] w fun e w' => e = .returned (.bool false) /\ Below w.heap.size w w' :=
 (Vn a cap ps m w h hl hm hps).mono fun e w' ⟨hr, hw⟩ => by
  subst hw
  rcases hr with ⟨rfl, hn⟩ | ⟨rfl, _⟩
  ·exact absurd hn hin
  ·exact ⟨rfl, Below.refl _ _⟩

theorem partsL_pc {ss : List Sx} (h : ∀ s ∈ ss, zy n s.step) : ∀ x ∈ Zw n ss, 0 <= x.piece /\ x.piece < n.pieces.length := by
 intro x hx;simp only [Zw, List.mem_flatMap] at hx;obtain ⟨s, hs, hx⟩ := hx
 split at hx
 ·obtain rfl : x = Zs n s.step s.low s.high := by simpa using hx
  have := (h s hs).1;unfold Zs
  split <;> exact this
 ·simp at hx
theorem parts_pc (hG : zr n) {t : Tr} (hF : zD n t) : ∀ x ∈ zi n t, 0 <= x.piece /\ x.piece < n.pieces.length := by
 rw [Yf hG hF];have hsp := XN hG hF
 exact partsL_pc fun s hs => (uW hG hsp (ZY hG hF.1) ⟨hF.1.1, hF.1.2.1⟩ (yM hF.2.2.2) s hs).1
theorem UP {a : Option Addr} (h : ZM w base (.slice a m cap) ps) : Yb base w a ps := by
 obtain ⟨a', cap', hv, _, hx⟩ := ZB h
 simp at hv
 rw [hv.1];exact hx

theorem yU.more {N' : Nat} {f : Int -> Value} (h : yU w b N f) (hN : N <= N') : yU w b N' f := by
 obtain ⟨D, ⟨es, clock, hblk, F, hs, hD⟩, r⟩ := h;exact ⟨D, ⟨es, clock, hblk, F, Nat.le_trans hs hN, hD⟩, r⟩

theorem info_Ptr : (Tryz.prog.info? 77).map (fun i => (i.zero, i.size, i.bytes)) = some (some (.pointer none), 1, 8) := by kernel_rfl
theorem pr_news {W : World} {M : Nat} (h : zg W N [.pointer (some ⟨M, 0, none⟩)]) : ∀ j u, (prF M)[j]? = some u -> W.cell? ((⟨N, 0, none⟩ : Addr).add j) = some u := by
 intro j u hj
 match j, hj with
 | 0, hj => simp [prF] at hj; subst hj; simpa [Addr.add] using h.2.1 0 _ rfl
theorem pr_one (M : Nat) : ∀ u ∈ prF M, u.oneCell' = true := by
 intro u hu
 simp [prF] at hu
 subst hu;rfl

theorem Yu {r : Option Nat} (hg : W'.grownBy wa r) {o : Nat} (hb : b < W'.heap.size) (hne : some b ≠ r) : wa.cell? ⟨b, o, none⟩ = W'.cell? ⟨b, o, none⟩ := World.cell?_of_block (w := W') (a := ⟨b, o, none⟩) (hg.block b hb hne)

theorem UG {w2 : World} (hT : ZR (fun j => j = Mp \/ (base <= j /\ ¬ av j /\ zx w2 j 77)) w2 wr) (hrow : YE wr base v qs) (hav : ∀ k, v.ownBlock = some k -> ¬ av k) :
  ∀ j, v.ownBlock = some j -> j < w2.heap.size -> j = Mp \/ (base <= j /\ ¬ av j /\ zx w2 j 77) := by
 intro j hj hl
 by_cases h : j = Mp \/ (base <= j /\ ¬ av j /\ zx w2 j 77)
 ·exact h
 ·exact Or.inr ⟨(hrow.lt j hj).1, hav j hj, (hrow.ty hj).same (hT.block j hl h).symm⟩

theorem VW {wm : World} {Mb : Nat} {f : Int -> Value} {Xp : Int} {g : Nat} {fa : Option Addr} {fcap : Nat} 
  (hrows : ∀ p, YE wr base (f p) (ls p)) (hdis : ∀ p q, p ≠ q -> (f p).ownBlock = none \/ (f p).ownBlock ≠ (f q).ownBlock) (havd : ∀ p k, (f p).ownBlock = some k -> ¬ av k) (hav : ∀ k, av k -> k < wr.heap.size)
  (hfv : f Xp = .slice fa qs.length fcap) (hMp : yU wr Mp N f) (hb : Below wr.heap.size wr W') (hown : YE wa base (.slice (some ⟨g, 0, none⟩) (qs.length + 1) cap) (qs ++ [Mb])) (hgrow : W'.grownBy wa (Value.slice fa qs.length fcap).ownBlock)
  (hat : (Value.slice fa qs.length fcap).ownBlock = some g \/ g = W'.heap.size) (hm3 : yU wm Mp (N + 1) (fun q => if q = Xp then .slice (some ⟨g, 0, none⟩) (qs.length + 1) cap else f q)) (hg3 : wa.grownBy wm (some Mp)) :
  zZ wm base Mp (N + 1) (fun q => if q = Xp then qs ++ [Mb] else ls q) av := by
 have hsz := hb.size
 have hnM : ∀ p k, (f p).ownBlock = some k -> k ≠ Mp := fun p k hk => (zZ.notCells ⟨f, hMp, hrows, hdis, havd⟩ ((hrows p).ty hk).cells)
 have hgM : some g ≠ some Mp := by
  intro e
  have e2 : g = Mp := by simpa using e
  have hty := hown.ty (k := g) (by simp [Value.ownBlock]);have hm := hMp.lt
  have hblk : wa.heap[Mp]? = wr.heap[Mp]? := by
   rw [hgrow.block Mp (by omega) (fun e3 => hnM Xp Mp (by rw [hfv]; exact e3.symm) rfl)];exact hb.block Mp hm
  have hmA := hMp.of_block hblk;obtain ⟨D, _, ⟨es, clock, hb2, _⟩, _⟩ := hmA;obtain ⟨c, h2⟩ := hty;rw [e2, hb2] at h2
  simp at h2
 refine ⟨_, hm3, fun p => ?_, fun p q hpq => ?_, fun p => ?_⟩
 ·by_cases e : p = Xp
  ·simp only [if_pos e]
   exact hown.block fun k hk => hg3.block k (hown.lt k hk).2 (fun e2 => hgM (by simp [Value.ownBlock] at hk; rw [hk]; exact e2))
  ·simp only [if_neg e]
   refine (hrows p).block fun k hk => ?_
   have hkl := ((hrows p).lt k hk).2;rw [hg3.block k (by have := hgrow.size; omega) (fun e2 => hnM p k hk (by simpa using e2))];rw [hgrow.block k (by omega) (fun e2 => ?_)]
   ·exact hb.block k hkl
   ·rcases hdis p Xp e with h | h
    ·rw [hk] at h; simp at h
    ·exact h (by rw [hk, hfv]; exact e2)
 ·by_cases e : p = Xp
  ·have e2 : ¬ q = Xp := fun h => hpq (e.trans h.symm)
   simp only [if_pos e, if_neg e2]
   right
   intro h
   rcases hat with h1 | h1
   ·rcases hdis Xp q (fun h => e2 h.symm) with h3 | h3
    ·rw [hfv, h1] at h3; simp at h3
    ·exact h3 (by rw [hfv, h1]; simpa [Value.ownBlock] using h)
   ·have := ((hrows q).lt g (by rw [← h]; simp [Value.ownBlock])).2;omega
  ·simp only [if_neg e]
   by_cases e2 : q = Xp
   ·simp only [if_pos e2]
    cases hk : (f p).ownBlock with
    | none => exact Or.inl rfl
    | some k =>
     right
     intro h
     have hgk : k = g := by simpa [Value.ownBlock] using h
     rcases hat with h1 | h1
     ·rcases hdis p Xp e with h3 | h3
      ·rw [hk] at h3; simp at h3
      ·exact h3 (by rw [hk, hfv, h1, hgk])
     ·have := ((hrows p).lt k hk).2;omega
   ·simp only [if_neg e2];exact hdis p q hpq
 ·by_cases e : p = Xp
  ·simp only [if_pos e];intro k hk ha
   have hkg : k = g := by simpa [Value.ownBlock] using hk.symm
   subst hkg
   rcases hat with h1 | h1
   ·exact havd Xp k (by rw [hfv, h1]) ha
   ·have := hav k ha;omega
  ·simp only [if_neg e];exact havd p

set_option maxRecDepth 100000 in
set_option maxHeartbeats 4000000 in
theorem wlay_any (n : Nt) (t : Tr) (W M Mp N K base : Nat) (av : Nat -> Prop) (ka ksh kst : Option Addr) (kca kcsh kcst : Nat) (ls : Int -> List Nat) (u0 : Value) (w : World)
  (hW : zx w W 74) (hcW : w.cell? ⟨W, 4, none⟩ = some (.map (some Mp))) (hM : zx w M 95) (hc : w.cell? ⟨M, 413, none⟩ = some u0) (hcz : w.frozen? ⟨M, 413, none⟩ = false)
  (hB : GB w M (.slice ka n.pieces.length kca) (.slice ksh n.joints.length kcsh) (.slice kst n.pieces.length kcst) t.front t.long (zW n t) t.back)
  (hk : ZD 0 w (.agg #[.slice ka n.pieces.length kca, .slice ksh n.joints.length kcsh, .slice kst n.pieces.length kcst]) n) (hG : zr n) (hF : zD n t)
  (hL : zZ w base Mp N ls av) (hls : ∀ p, (ls p).length <= K) (hlm : ∀ p, ∀ q ∈ ls p, zx w q 95) (hK : K <= 1000) (hN : N <= 1000000) (hbase : base <= w.heap.size) (hav : ∀ k, av k -> k < w.heap.size) :
  Calls Tryz.prog 55 #[.pointer (some ⟨W, 0, none⟩), .pointer (some ⟨M, 0, none⟩)] w fun e w' =>
   (∃ v, e = .returned v) /\ (∃ v, w'.cell? ⟨M, 413, none⟩ = some v /\ ZM w' w.heap.size v (zi n t)) /\ zZ w' base Mp (N + 1000) (laid ls M (zi n t)) av
   /\ ZR (fun k => k = M \/ k = Mp \/ (base <= k /\ ¬ av k /\ zx w k 77)) w w' /\ (∀ j, j ≠ 413 -> w'.cell? ⟨M, j, none⟩ = w.cell? ⟨M, j, none⟩) /\ (∀ j, w'.frozen? ⟨M, j, none⟩ = w.frozen? ⟨M, j, none⟩) /\ zx w' M 95 := by
 have hpcs := parts_pc hG hF;have hnp := hG.np;have hpe := Yf hG hF;have hsp := XN hG hF;have hMl := hM.lt;have hWl := hW.lt;have h200 := hF.2.2.1
 have hWM : ¬ W = M := fun e => by subst e; exact absurd (hW.unique hM) (by decide)
 rw [hpe] at hpcs ⊢;have hpl := xG n t.front (zW n t) t.back;obtain ⟨xs, hxs⟩ : ∃ xs, Vv n t.front (zW n t) t.back = xs := ⟨_, rfl⟩;have HXS := zd hxs;go_enter Tryz.func55, Tryz.ntmps55;go_wp2_with fail;refine (uA M n ka ksh kst kca kcsh kcst t.front t.long (zW n t) t.back _ hB hk hG hF.1 (yM hF.2.2.2) h200 (by omega)).mono ?_;rw [hxs] at hpl hpcs ⊢;rintro e w1 ⟨pa, pcap, rfl, hrow1, hb1⟩;have d0 := (hb1.cell (p := ⟨M, 413, none⟩) hMl).trans hc;have dz := (hb1.frozen (p := ⟨M, 413, none⟩) hMl).trans hcz;have d4 := (hb1.cell (p := ⟨W, 4, none⟩) hWl).trans hcW;go_wp2_with fail;have hO2 : zP (fun k => k = M) w (w1.setCell ⟨M, 413, none⟩ (.slice pa xs.length pcap)) := (zu hb1).trans (ze (S := fun k => k = M) _ (p := ⟨M, 413, none⟩) rfl _);have hL2 : zZ (w1.setCell ⟨M, 413, none⟩ (.slice pa xs.length pcap)) base Mp N ls av := (hL.below hb1).setCell (p := ⟨M, 413, none⟩) (hM.below hb1) (by decide) _;have hM2 := Zq (hM.below hb1) ⟨M, 413, none⟩ (.slice pa xs.length pcap);have hW2 := Zq (hW.below hb1) ⟨M, 413, none⟩ (.slice pa xs.length pcap)
 have e4 : (w1.setCell ⟨M, 413, none⟩ (.slice pa xs.length pcap)).cell? ⟨W, 4, none⟩ = some (.map (some Mp)) := by
  rw [World.cell?_setCell_other _ _ _ _ (by simp)];exact d4
 have e413 : (w1.setCell ⟨M, 413, none⟩ (.slice pa xs.length pcap)).cell? ⟨M, 413, none⟩ = some (.slice pa xs.length pcap) := World.cell?_setCell_same _ _ _ d0
 have eM : ∀ j, j ≠ 413 -> (w1.setCell ⟨M, 413, none⟩ (.slice pa xs.length pcap)).cell? ⟨M, j, none⟩ = w.cell? ⟨M, j, none⟩ := fun j hj => by
  rw [World.cell?_setCell_other _ _ _ _ (by simp; try exact hj)];exact hb1.cell (p := ⟨M, j, none⟩) hMl
 have eZ : ∀ j, (w1.setCell ⟨M, 413, none⟩ (.slice pa xs.length pcap)).frozen? ⟨M, j, none⟩ = w.frozen? ⟨M, j, none⟩ := fun j => by
  rw [World.frozen?_setCell];exact hb1.frozen (p := ⟨M, j, none⟩) hMl
 have hrow2 : ZM (w1.setCell ⟨M, 413, none⟩ (.slice pa xs.length pcap)) w.heap.size (.slice pa xs.length pcap) xs := hrow1.setCell (p := ⟨M, 413, none⟩) hMl _
 have hlm2 : ∀ p, ∀ q ∈ ls p, zx (w1.setCell ⟨M, 413, none⟩ (.slice pa xs.length pcap)) q 95 := fun p q hq => Zq ((hlm p q hq).below hb1) _ _
 generalize hw2 : w1.setCell ⟨M, 413, none⟩ (.slice pa xs.length pcap) = w2 at *
 have HO2 := zd hO2;have HL2 := zd hL2;clear hw2 hL2 hO2 d0 dz d4 hc hcz hcW hb1 hrow1 hlm hB hk hxs
 go_loopw [18] (fun z wr => ∃ k : Nat, k <= xs.length /\ z = .int .i64 k /\ Hid (zZ wr base Mp (N + k) (laid ls M (xs.take k)) av) /\ Hid (ZR (fun j => j = Mp \/ (base <= j /\ ¬ av j /\ zx w2 j 77)) w2 wr)) (fun z _ => xs.length - (intOf z).toNat)
 case atStart => exact ⟨0, Nat.zero_le _, rfl, zd (by rw [List.take_zero, laid_nil]; exact za HL2), zd (ZR.refl _ _)⟩
 case round =>
  obtain ⟨k, hk, rfl, HL, HT⟩ := hrel;have hT := za HT
  have hWr : wr.heap[W]? = w2.heap[W]? := hT.block W hW2.lt (by
   rintro (h | ⟨_, _, h⟩)
   ·exact (za HL2).notCells hW2.cells h
   ·exact absurd (hW2.unique h) (by decide))
  have d4 : wr.cell? ⟨W, 4, none⟩ = some (.map (some Mp)) := (World.cell?_of_block (w := w2) (a := ⟨W, 4, none⟩) hWr).trans e4;have hszr := hT.size;have hW2l := hW2.lt;have hM2l := hM2.lt
  have hWlr : W < wr.heap.size := by omega
  have hWlr1 : W < wr.heap.size + 1 := by omega
  have nW : ¬ W = wr.heap.size := by omega
  by_cases hlt : k < xs.length
  ·have hx := hpcs xs[k] (List.getElem_mem hlt)
   have hptr : ZM wr w.heap.size (.slice pa xs.length pcap) xs := hrow2.block fun j hj => hT.block j (hrow2.lt j hj).2 (by
    rintro (h | ⟨_, _, h⟩)
    ·exact (za HL2).notCells (hrow2.ty hj).cells h
    ·exact absurd ((hrow2.ty hj).unique h) (by decide))
   have hTyM : ∀ q, zx w2 q 95 -> zx wr q 95 := fun q hq => hq.same (hT.block q hq.lt (by
    rintro (h | ⟨_, _, h⟩)
    ·exact (za HL2).notCells hq.cells h
    ·exact absurd (hq.unique h) (by decide)))
   have hMr := hTyM M hM2;have hmem : ∀ p, ∀ q ∈ laid ls M (xs.take k) p, zx wr q 95 := laid_mem ls M (xs.take k) (fun p q hq => hTyM q (hlm2 p q hq)) hMr;have hlen := laid_len ls M (xs.take k) hls;obtain ⟨pb, poff, hpa, hpb, c0, c1, c2⟩ := UP hptr k hlt;have htk : xs.take (k + 1) = xs.take k ++ [xs[k]] := List.take_succ_eq_append_getElem hlt;have hin_ := laid_in ls M (xs.take k) xs[k];have hnew_ := laid_new ls M (xs.take k) xs[k];rw [← htk] at hin_ hnew_
   generalize xs[k] = X at *
   obtain ⟨Xp, Xf, Xt⟩ := X;dsimp only at hx c0 c1 c2 hin_ hnew_;have HL0 := za HL;obtain ⟨f, hmap, hrows, hdis, havd⟩ := HL0;obtain ⟨fa, fcap, hfv, hfc, hptrs⟩ := xF (hrows Xp);have hrowX := hrows Xp;have hmemX := hmem Xp;have hlenX := hlen Xp;obtain ⟨qs, hqs⟩ : ∃ qs, laid ls M (xs.take k) Xp = qs := ⟨_, rfl⟩;rw [hqs] at hfv hptrs hfc hmemX hlenX hrowX hin_ hnew_;have hwf := Xq (v := Xp) (by omega) (by omega);have hA : Below wr.heap.size wr (wr.alloc (.cells #[.int .i64 Xp, .int .i64 Xf, .int .i64 Xt] 103)) := bw0
   have hlk : ∀ g : GrW (wr.alloc (.cells #[.int .i64 Xp, .int .i64 Xf, .int .i64 Xt] 103)), (Instr.lookup 72 (.map (some Mp)) (.int .i64 Xp) false).run Tryz.prog g.w = .ok (.slice fa qs.length fcap) g.w := fun g => by
    rw [← hfv];exact ((hmap.below hA).below g.below).look hwf
   subst hpa
   by_cases hin : M ∈ qs
   ·have HIN := zd (hin_ hin);have HI := zd hin;have hpb2 := hpb.2;clear hin_ hnew_ hin hqs hfv;go_wp2_with fail;refine zt (by kernel_rfl) (by kernel_rfl) (fun hgn hgc => ?_)
    repeat (go_big_quiet_step (first
     | (go_at_call 91; rename_i g; exact g.call (pContains_T fa fcap qs M _ ((hptrs.below hA).below g.below) (by omega) (((hMr.below hA).below g.below).cells) (fun q hq => (((hmemX q hq).below hA).below g.below).cells) (za HI)))))
    refine wpQuiet_nil ?_;intro wq hwq
    have hbq : Below wr.heap.size wr wq := by obtain ⟨g, rfl⟩ := hwq; exact below_then hA g.below
    clear hwq hgc hgn;go_wp2;refine ⟨⟨k + 1, by omega, by go_num, ?_, zd (hT.then_below hbq)⟩, by simp [intOf]; omega⟩;rw [za HIN];obtain ⟨f', h1, h2, h3, h4⟩ := (za HL).below hbq;exact zd ⟨f', h1.more (by omega), h2, h3, h4⟩
   ·have HNEW := zd (hnew_ hin);have HI := zd hin;have HQS := zd hqs;have HFV := zd hfv;have hpb2 := hpb.2;clear hin_ hnew_ hin hqs hfv;go_wp2_with fail;refine zt (by kernel_rfl) (by kernel_rfl) (fun hgn hgc => ?_)
    repeat (go_big_quiet_step (first
     | (go_at_call 91; rename_i g; exact g.call (pContains_F fa fcap qs M _ ((hptrs.below hA).below g.below) (by omega) (((hMr.below hA).below g.below).cells) (fun q hq => (((hmemX q hq).below hA).below g.below).cells) (za HI)))))
    refine wpQuiet_nil ?_;intro wq hwq
    have hbqA : Below (wr.alloc (.cells #[.int .i64 Xp, .int .i64 Xf, .int .i64 Xt] 103)).heap.size (wr.alloc (.cells #[.int .i64 Xp, .int .i64 Xf, .int .i64 Xt] 103)) wq := by obtain ⟨g, rfl⟩ := hwq; exact g.below
    have hbq : Below wr.heap.size wr wq := below_then hA hbqA;have hX : zg wq wr.heap.size [.int .i64 Xp, .int .i64 Xf, .int .i64 Xt] := (zf _ _ _).below hbqA;have x0 := hX.2.1 0 _ rfl;have xl := hX.1;have q4 := (hbq.cell (p := ⟨W, 4, none⟩) hWlr).trans d4;have hszq := hbq.size
    have nWq : ¬ W = wq.heap.size := by omega
    have nXq : ¬ wr.heap.size = wq.heap.size := by omega
    clear hwq hgc hgn hlk c0 c1 c2 d4
    have hlk0 : ∀ W', Below wq.heap.size wq W' -> (Instr.lookup 72 (.map (some Mp)) (.int .i64 Xp) false).run Tryz.prog W' = .ok (.slice fa qs.length fcap) W' := fun W' hW' => by
     rw [← za HFV];exact ((hmap.below hbq).below hW').look hwf
    have hlkA := fun (m : Nat) => hlk0 (wq.drewN m) bw0
    have hlkA0 := hlk0 wq.drew bw0;have hlkB := hlk0 (wq.alloc (.cells #[.pointer (some ⟨M, 0, none⟩)] 77)).drew bw0;have HLK := zd hlk0;clear hlk0
    have hrowS : YE wq base (.slice fa qs.length fcap) qs := by rw [← za HFV]; exact hrowX.below hbq
    have hmapQ := hmap.below hbq
    have hMpB : some Mp ≠ (Value.slice fa qs.length fcap).ownBlock := fun e => zZ.notCells ((za HL).below hbq) (hrowS.ty e.symm).cells rfl
    have hWq : W < wq.heap.size := by omega
    have hWB : some W ≠ (Value.slice fa qs.length fcap).ownBlock := fun e => absurd ((hrowS.ty e.symm).unique ((hW2.same hWr).below hbq)) (by decide)
    have hXB : some wr.heap.size ≠ (Value.slice fa qs.length fcap).ownBlock := fun e => absurd ((hrowS.ty e.symm).unique ((Zy _ _ _).below hbqA)) (by decide)
    have hWMp : some W ≠ some Mp := fun e => (za HL2).notCells hW2.cells (by simpa using e)
    have hXMp : some wr.heap.size ≠ some Mp := fun e => zZ.notCells ((za HL).below hbq) ((Zy _ _ _).below hbqA).cells (by simpa using e)
    have hNk : N + k < maxLen := by unfold maxLen; omega
    have hMpl := hmapQ.lt;obtain ⟨i0, hi, hz0, hz1, hz2⟩ := info_parts info_Ptr;go_wp2_with fail
    go_region_held3 (fun w' => w'.cell? ⟨W, 4, none⟩ = some (.map (some Mp)) /\ w'.cell? ⟨wr.heap.size, 0, none⟩ = some (.int .i64 Xp)) (((try dsimp only); (repeat' apply And.intro)) <;> (go_keep; done))
     (first
      | (refine step_append_lies _ (by rfl) (.tmp 44) (.tmp 46) 71 (by rfl) base 77 i0 (.pointer none) 1 8 Tryz.underlying71 hi hz0 hz1 hz2 rfl (by decide) (.slice fa qs.length fcap) qs.length (qs.flatMap prF) (by simp [Act.eval]) (hrowS.below bw0) ⟨wq.heap.size, 0, none⟩ 1 1 (prF M) (by simp [Act.eval]) rfl (pr_news (by first | exact zf _ _ _ | exact (zf _ _ _).drew)) (pr_one M) (by omega) (by unfold maxLen; omega) (by omega) (by first | omega | (simp; omega)) _ rfl ?_; intro g cap wa hown hgrow hat hltg; have a4 := (Yu hgrow (b := W) (o := 4) (by first | omega | (simp; omega)) hWB).trans (((bw0 : Below wq.heap.size wq _).cell (p := ⟨W, 4, none⟩) hWq).trans q4); have aX := (Yu hgrow (b := wr.heap.size) (o := 0) (by first | omega | (simp; omega)) hXB).trans (((bw0 : Below wq.heap.size wq _).cell (p := ⟨wr.heap.size, 0, none⟩) xl).trans x0); have hmA := (hmapQ.below bw0).of_block (hgrow.block Mp (by first | omega | (simp; omega)) hMpB); obtain ⟨wm, hst, hm3, hg3⟩ := hmA.store hNk hwf (.slice (some ⟨g, 0, none⟩) (qs.length + 1) cap); have m4 := (Yu hg3 (b := W) (o := 4) (Nat.lt_of_lt_of_le (by first | omega | (simp; omega)) hgrow.size) hWMp).trans a4; have mX := (Yu hg3 (b := wr.heap.size) (o := 0) (Nat.lt_of_lt_of_le (by first | omega | (simp; omega)) hgrow.size) hXMp).trans aX))
    all_goals go_wp2
    all_goals refine ⟨⟨k + 1, by omega, by go_num, ?_, ?_⟩, by simp [intOf]; omega⟩
    ·rw [za HNEW];exact zd (VW (Mb := M) (N := N + k) (Xp := Xp) hrows hdis havd (fun j hj => by have := hav j hj; have := (za HO2).size; omega) (za HFV) hmap (below_then hbq bw0) (zV.snoc hown) hgrow hat hm3 hg3)
    ·exact zd (((((hT.then_below hbq).then_below bw0).grown hgrow (fun j hj hl => UG hT hrowX (havd Xp) j (by rw [za HFV]; exact hj) hl)).grown hg3 (fun j hj _ => Or.inl (by simpa using hj.symm))))
    ·rw [za HNEW];exact zd (VW (Mb := M) (N := N + k) (Xp := Xp) hrows hdis havd (fun j hj => by have := hav j hj; have := (za HO2).size; omega) (za HFV) hmap (below_then hbq bw0) (zV.snoc hown) hgrow hat hm3 hg3)
    ·exact zd (((((hT.then_below hbq).then_below bw0).grown hgrow (fun j hj hl => UG hT hrowX (havd Xp) j (by rw [za HFV]; exact hj) hl)).grown hg3 (fun j hj _ => Or.inl (by simpa using hj.symm))))
  ·have hkl : k = xs.length := by omega
   have HTK : Hid (xs.take k = xs) := by unfold Hid; rw [hkl]; simp
   have hMr : wr.heap[M]? = w2.heap[M]? := hT.block M hM2l (by
    rintro (h | ⟨_, _, h⟩)
    ·exact (za HL2).notCells hM2.cells h
    ·exact absurd (hM2.unique h) (by decide))
   have hptr : ZM wr w.heap.size (.slice pa xs.length pcap) xs := hrow2.block fun j hj => hT.block j (hrow2.lt j hj).2 (by
    rintro (h | ⟨_, _, h⟩)
    ·exact (za HL2).notCells (hrow2.ty hj).cells h
    ·exact absurd ((hrow2.ty hj).unique h) (by decide))
   clear hkl d4;go_wp2
   go_end0
   rw [za HXS];refine ⟨⟨_, rfl⟩, ⟨_, (World.cell?_of_block (w := w2) (a := ⟨M, 413, none⟩) hMr).trans e413, hptr⟩, ?_, ?_, fun j hj => (World.cell?_of_block (w := w2) (a := ⟨M, j, none⟩) hMr).trans (eM j hj), fun j => (World.frozen?_of_block (w := w2) (a := ⟨M, j, none⟩) hMr).trans (eZ j), hM2.same hMr⟩
   ·have := za HL;rw [za HTK] at this;obtain ⟨f', h1, h2, h3, h4⟩ := this;exact ⟨f', h1.more (by omega), h2, h3, h4⟩
   ·have hO := za HO2;refine ⟨hT.os.trans hO.os, hT.tape.trans hO.tape, hT.output.trans hO.output, Nat.le_trans hO.size hT.size, fun j hj hs => ?_⟩
    have hjM : ¬ j = M := fun e => hs (Or.inl e)
    have hb2 := hO.block j hj hjM;rw [hT.block j (Nat.lt_of_lt_of_le hj hO.size) ?_, hb2];rintro (h | ⟨h1, h2, h3⟩)
    ·exact hs (Or.inr (Or.inl h))
    ·exact hs (Or.inr (Or.inr ⟨h1, h2, h3.same hb2.symm⟩))

instance (x y : Pt) : Decidable (yD x y) := inferInstanceAs (Decidable (_ /\ _ /\ _))
def yx (ps cs : List Pt) : Bool := ps.any fun y => cs.any fun x => decide (yD x y)
theorem hits_nil (cs : List Pt) : yx [] cs = false := rfl
theorem hits_snoc (ps : List Pt) (y : Pt) (cs : List Pt) : yx (ps ++ [y]) cs = (yx ps cs || cs.any fun x => decide (yD x y)) := by simp [yx, List.any_append]

def MvsAt (w : World) (ms : List Nat) (cv : Nat -> List Pt) : Prop :=
 ∀ i (h : i < ms.length), zx w ms[i] 95 /\ w.cell? ⟨ms[i], 412, none⟩ = some (.int .i64 i) /\ ∃ a c, w.cell? ⟨ms[i], 413, none⟩ = some (.slice a (cv i).length c) /\ Yb 0 w a (cv i) /\ (cv i).length <= 1048576
theorem MvsAt.below (h : MvsAt w ms cv) (hb : Below w.heap.size w w') : MvsAt w' ms cv := by
 intro i hi;obtain ⟨h1, h2, a, c, h3, h4, h5⟩ := h i hi;exact ⟨h1.below hb, (hb.cell (p := ⟨ms[i], 412, none⟩) h1.lt).trans h2, a, c, (hb.cell (p := ⟨ms[i], 413, none⟩) h1.lt).trans h3, h4.below hb, h5⟩

def vg (ms : List Nat) (fnd : Nat -> Bool) (i : Nat) : Value := if fnd i = true then .pointer (some ⟨ms.getD i 0, 0, none⟩) else .pointer none

theorem mv_eql_nn (w : World) : (binOp .eql 77 (.pointer none) (.pointer none)).run Tryz.prog w = .ok (.bool true) w := by kernel_rfl
theorem mv_eql_sn (w : World) (a : Addr) : (binOp .eql 77 (.pointer (some a)) (.pointer none)).run Tryz.prog w = .ok (.bool false) w := by kernel_rfl
theorem mv_neq_nn (w : World) : (binOp .neq 77 (.pointer none) (.pointer none)).run Tryz.prog w = .ok (.bool false) w := by kernel_rfl
theorem mv_neq_sn (w : World) (a : Addr) : (binOp .neq 77 (.pointer (some a)) (.pointer none)).run Tryz.prog w = .ok (.bool true) w := by kernel_rfl

theorem fnd_new (w : World) (ms : List Nat) : Zi (w.alloc (.cells #[Value.pointer none, .pointer none, .pointer none, .pointer none, .pointer none, .pointer none, .pointer none, .pointer none, .pointer none, .pointer none, .pointer none, .pointer none, .pointer none, .pointer none, .pointer none, .pointer none, .pointer none, .pointer none, .pointer none, .pointer none] 146)) w.heap.size 0 20 (vg ms fun _ => false) := by
 obtain ⟨h1, h2, h3⟩ := zf w #[Value.pointer none, .pointer none, .pointer none, .pointer none, .pointer none, .pointer none, .pointer none, .pointer none, .pointer none, .pointer none, .pointer none, .pointer none, .pointer none, .pointer none, .pointer none, .pointer none, .pointer none, .pointer none, .pointer none, .pointer none] 146;refine ⟨h1, fun j hj => ⟨?_, by rw [Nat.zero_add]; exact h3 j⟩⟩;rw [Nat.zero_add];refine h2 j _ ?_;simp only [vg]
 match j, hj with
 | 0, _ | 1, _ | 2, _ | 3, _ | 4, _ | 5, _ | 6, _ | 7, _ | 8, _ | 9, _ | 10, _ | 11, _ | 12, _ | 13, _ | 14, _ | 15, _ | 16, _ | 17, _ | 18, _ | 19, _ => rfl
 | n + 20, h => exact absurd h (by omega)
theorem fnd_set {fnd : Nat -> Bool} (h : Zi w F 0 20 (vg ms fnd)) {i : Nat} (hi : i < 20) : Zi (w.setCell ⟨F, i, none⟩ (.pointer (some ⟨ms.getD i 0, 0, none⟩))) F 0 20 (vg ms fun j => if j = i then true else fnd j) := by
 refine (h.set0 (i := i) hi _).congr fun j hj => ?_
 unfold vg
 by_cases e : j = i
 ·simp [e]
 ·simp [e]

theorem fnd_step {fnd fn2 tb : Nat -> Bool} {j : Nat} (h : ∀ i, fn2 i = (fnd i || (decide (i < ms.length) && (decide (ms.getD i 0 ∈ qs.take j) && tb i)))) (hm : m < ms.length) (hq : qs.take (j + 1) = qs.take j ++ [ms.getD m 0])
  (hinj : ∀ i, i < ms.length -> ms.getD i 0 = ms.getD m 0 -> i = m) (i : Nat) : (if i = m then (fn2 m || tb m) else fn2 i) = (fnd i || (decide (i < ms.length) && (decide (ms.getD i 0 ∈ qs.take (j + 1)) && tb i))) := by
 by_cases e : i = m
 ·rw [if_pos e, e, h m, hq]
  have h1 : decide (ms.getD m 0 ∈ qs.take j ++ [ms.getD m 0]) = true := by simp
  have h2 : decide (m < ms.length) = true := by simpa using hm
  rw [h1, h2]
  cases fnd m <;> cases tb m <;> simp
 ·rw [if_neg e, h i, hq]
  by_cases hi : i < ms.length
  ·have : decide (ms.getD i 0 ∈ qs.take j ++ [ms.getD m 0]) = decide (ms.getD i 0 ∈ qs.take j) := by
    have hne : ¬ ms.getD i 0 = ms.getD m 0 := fun h => e (hinj i hi h)
    simp only [List.mem_append, List.mem_singleton, hne, or_false]
   rw [this]
  ·simp [hi]
theorem fnd_last {fnd : Nat -> Bool} {y : Pt} (h : ∀ i, fnd i = (decide (i < ms.length) && yx ps (cv i))) (hout : ∀ i, i < ms.length -> (∃ x ∈ cv i, yD x y) -> ms.getD i 0 ∈ qs) (i : Nat) :
  (fnd i || (decide (i < ms.length) && (decide (ms.getD i 0 ∈ qs) && (cv i).any fun x => decide (yD x y)))) = (decide (i < ms.length) && yx (ps ++ [y]) (cv i)) := by
 rw [h i, hits_snoc]
 by_cases hi : i < ms.length
 ·by_cases ht : ((cv i).any fun x => decide (yD x y)) = true
  ·have hm : ms.getD i 0 ∈ qs := hout i hi (by simpa using ht);simp only [hi, hm, ht, decide_true, Bool.true_and, Bool.and_true]
  ·have ht2 : ((cv i).any fun x => decide (yD x y)) = false := by simpa using ht
   simp only [hi, ht2, decide_true, Bool.true_and, Bool.and_false, Bool.or_false]
 ·simp [hi]

def fndL (ms : List Nat) (fnd : Nat -> Bool) : List Value := (List.range 20).map (vg ms fnd)
theorem fndL_len (ms : List Nat) (fnd : Nat -> Bool) : (fndL ms fnd).length = 20 := by simp [fndL]
theorem idx20_0 (f : Nat -> Value) (W : World) : (Instr.index 146 (.agg ((List.range 20).map f).toArray) (.int .i64 ((0 : Nat) : Int))).run Tryz.prog W = .ok (f 0) W := by kernel_rfl
theorem idx20_1 (f : Nat -> Value) (W : World) : (Instr.index 146 (.agg ((List.range 20).map f).toArray) (.int .i64 ((1 : Nat) : Int))).run Tryz.prog W = .ok (f 1) W := by kernel_rfl
theorem idx20_2 (f : Nat -> Value) (W : World) : (Instr.index 146 (.agg ((List.range 20).map f).toArray) (.int .i64 ((2 : Nat) : Int))).run Tryz.prog W = .ok (f 2) W := by kernel_rfl
theorem idx20_3 (f : Nat -> Value) (W : World) : (Instr.index 146 (.agg ((List.range 20).map f).toArray) (.int .i64 ((3 : Nat) : Int))).run Tryz.prog W = .ok (f 3) W := by kernel_rfl
theorem idx20_4 (f : Nat -> Value) (W : World) : (Instr.index 146 (.agg ((List.range 20).map f).toArray) (.int .i64 ((4 : Nat) : Int))).run Tryz.prog W = .ok (f 4) W := by kernel_rfl
theorem idx20_5 (f : Nat -> Value) (W : World) : (Instr.index 146 (.agg ((List.range 20).map f).toArray) (.int .i64 ((5 : Nat) : Int))).run Tryz.prog W = .ok (f 5) W := by kernel_rfl
theorem idx20_6 (f : Nat -> Value) (W : World) : (Instr.index 146 (.agg ((List.range 20).map f).toArray) (.int .i64 ((6 : Nat) : Int))).run Tryz.prog W = .ok (f 6) W := by kernel_rfl
theorem idx20_7 (f : Nat -> Value) (W : World) : (Instr.index 146 (.agg ((List.range 20).map f).toArray) (.int .i64 ((7 : Nat) : Int))).run Tryz.prog W = .ok (f 7) W := by kernel_rfl
theorem idx20_8 (f : Nat -> Value) (W : World) : (Instr.index 146 (.agg ((List.range 20).map f).toArray) (.int .i64 ((8 : Nat) : Int))).run Tryz.prog W = .ok (f 8) W := by kernel_rfl
theorem idx20_9 (f : Nat -> Value) (W : World) : (Instr.index 146 (.agg ((List.range 20).map f).toArray) (.int .i64 ((9 : Nat) : Int))).run Tryz.prog W = .ok (f 9) W := by kernel_rfl
theorem idx20_10 (f : Nat -> Value) (W : World) : (Instr.index 146 (.agg ((List.range 20).map f).toArray) (.int .i64 ((10 : Nat) : Int))).run Tryz.prog W = .ok (f 10) W := by kernel_rfl
theorem idx20_11 (f : Nat -> Value) (W : World) : (Instr.index 146 (.agg ((List.range 20).map f).toArray) (.int .i64 ((11 : Nat) : Int))).run Tryz.prog W = .ok (f 11) W := by kernel_rfl
theorem idx20_12 (f : Nat -> Value) (W : World) : (Instr.index 146 (.agg ((List.range 20).map f).toArray) (.int .i64 ((12 : Nat) : Int))).run Tryz.prog W = .ok (f 12) W := by kernel_rfl
theorem idx20_13 (f : Nat -> Value) (W : World) : (Instr.index 146 (.agg ((List.range 20).map f).toArray) (.int .i64 ((13 : Nat) : Int))).run Tryz.prog W = .ok (f 13) W := by kernel_rfl
theorem idx20_14 (f : Nat -> Value) (W : World) : (Instr.index 146 (.agg ((List.range 20).map f).toArray) (.int .i64 ((14 : Nat) : Int))).run Tryz.prog W = .ok (f 14) W := by kernel_rfl
theorem idx20_15 (f : Nat -> Value) (W : World) : (Instr.index 146 (.agg ((List.range 20).map f).toArray) (.int .i64 ((15 : Nat) : Int))).run Tryz.prog W = .ok (f 15) W := by kernel_rfl
theorem idx20_16 (f : Nat -> Value) (W : World) : (Instr.index 146 (.agg ((List.range 20).map f).toArray) (.int .i64 ((16 : Nat) : Int))).run Tryz.prog W = .ok (f 16) W := by kernel_rfl
theorem idx20_17 (f : Nat -> Value) (W : World) : (Instr.index 146 (.agg ((List.range 20).map f).toArray) (.int .i64 ((17 : Nat) : Int))).run Tryz.prog W = .ok (f 17) W := by kernel_rfl
theorem idx20_18 (f : Nat -> Value) (W : World) : (Instr.index 146 (.agg ((List.range 20).map f).toArray) (.int .i64 ((18 : Nat) : Int))).run Tryz.prog W = .ok (f 18) W := by kernel_rfl
theorem idx20_19 (f : Nat -> Value) (W : World) : (Instr.index 146 (.agg ((List.range 20).map f).toArray) (.int .i64 ((19 : Nat) : Int))).run Tryz.prog W = .ok (f 19) W := by kernel_rfl
theorem idx20 (f : Nat -> Value) (W : World) (k : Nat) (hk : k < 20) : (Instr.index 146 (.agg ((List.range 20).map f).toArray) (.int .i64 (k : Int))).run Tryz.prog W = .ok (f k) W := by
 have h : k = 0 \/ k = 1 \/ k = 2 \/ k = 3 \/ k = 4 \/ k = 5 \/ k = 6 \/ k = 7 \/ k = 8 \/ k = 9 \/ k = 10 \/ k = 11 \/ k = 12 \/ k = 13 \/ k = 14 \/ k = 15 \/ k = 16 \/ k = 17 \/ k = 18 \/ k = 19 := by omega
 rcases h with rfl | rfl | rfl | rfl | rfl | rfl | rfl | rfl | rfl | rfl | rfl | rfl | rfl | rfl | rfl | rfl | rfl | rfl | rfl | rfl
 ·exact idx20_0 f W
 ·exact idx20_1 f W
 ·exact idx20_2 f W
 ·exact idx20_3 f W
 ·exact idx20_4 f W
 ·exact idx20_5 f W
 ·exact idx20_6 f W
 ·exact idx20_7 f W
 ·exact idx20_8 f W
 ·exact idx20_9 f W
 ·exact idx20_10 f W
 ·exact idx20_11 f W
 ·exact idx20_12 f W
 ·exact idx20_13 f W
 ·exact idx20_14 f W
 ·exact idx20_15 f W
 ·exact idx20_16 f W
 ·exact idx20_17 f W
 ·exact idx20_18 f W
 ·exact idx20_19 f W
theorem fnd_range {fnd : Nat -> Bool} (h : Zi w F 0 20 (vg ms fnd)) : w.rangeAt F 0 (fndL ms fnd) := by
 intro j v hv
 have hj : j < 20 := by have := (List.getElem?_eq_some_iff.1 hv).1; rwa [fndL_len] at this
 have : (fndL ms fnd)[j]? = some (vg ms fnd j) := by simp [fndL, hj]
 rw [this] at hv;rw [← hv];exact (h.2 j hj).1
theorem info_fnd : (Tryz.prog.info? 146).map (·.size) = some 20 := by kernel_rfl

theorem told_all (n : Nat) (p : Nat -> Bool) (hn : n <= 20) : ((List.range 20).filter fun i => decide (i < n) && p i) = (List.range n).filter p := by
 obtain ⟨m, hm⟩ : ∃ m, 20 = n + m := ⟨20 - n, by omega⟩;rw [hm, List.range_add, List.filter_append]
 have h1 : (List.filter (fun i => decide (i < n) && p i) (List.range n)) = (List.range n).filter p := by
  apply List.filter_congr;intro i hi
  have : i < n := by simpa using hi
  simp [this]
 have h2 : (List.filter (fun i => decide (i < n) && p i) ((List.range m).map (n + ·))) = [] := by
  rw [List.filter_eq_nil_iff];intro i hi;obtain ⟨j, _, rfl⟩ := List.mem_map.1 hi
  simp
  omega
 rw [h1, h2, List.append_nil]
theorem told_succ (n j : Nat) (p : Nat -> Bool) : ((List.range (j + 1)).filter fun i => decide (i < n) && p i) = ((List.range j).filter fun i => decide (i < n) && p i) ++ (if (decide (j < n) && p j) = true then [j] else []) := by
 rw [List.range_succ, List.filter_append]
 congr 1
 rw [List.filter_cons]
 split <;> rfl
end Go.Proofs.YthdioeofdofleaaGreatDoor
