import Derived.Test.YthdioeofdofleaaGreatDoorRows
import Derived.Test.YthdioeofdofleaaGreatDoorMRead
import Derived.Test.YthdioeofdofleaaGreatDoorMPlain
import Derived.LaidEqlPtr
import Derived.Lib.Builder
import Derived.Test.YthdioeofdofleaaGreatDoorMPlain2
import Derived.Test.YthdioeofdofleaaGreatDoorMPlain3
import Derived.Test.YthdioeofdofleaaGreatDoorMSpec9
set_option maxRecDepth 100000
namespace Go.Proofs.YthdioeofdofleaaGreatDoor
open Go.RowKit
variable {w w' : World} {b L L' : Nat}
def XP (w : World) (a : Option Addr) (ps : List Nat) : Prop :=
 ∀ i (h : i < ps.length), ∃ b off, a = some ⟨b, off, none⟩ /\ b < w.heap.size /\ w.cell? ⟨b, off + i, none⟩ = some (.pointer (some ⟨ps[i], 0, none⟩))
def Zh (w : World) (b : Nat) : Prop := ∃ c t, w.heap[b]? = some (.cells c t (0, 0))

theorem XP.below {a : Option Addr} {ps : List Nat} (h : XP w a ps) (hb : Below w.heap.size w w') : XP w' a ps := by
 intro i hi;obtain ⟨b, off, ha, hbs, hc⟩ := h i hi;exact ⟨b, off, ha, Nat.lt_of_lt_of_le hbs hb.size, (hb.cell hbs).trans hc⟩
theorem Zh.lt (h : Zh w b) : b < w.heap.size := by
 obtain ⟨c, t, h⟩ := h;exact (Array.getElem?_eq_some_iff.1 h).1
theorem Zh.below (h : Zh w b) (hb : Below w.heap.size w w') : Zh w' b := by
 have hlt := h.lt;obtain ⟨c, t, h⟩ := h;exact ⟨c, t, (hb.block b hlt).trans h⟩
theorem Zh.only {S : Nat -> Prop} (h : Zh w b) (ho : zP S w w') : Zh w' b := by
 obtain ⟨c, t, h⟩ := h;obtain ⟨c', h1, _⟩ := ho.shape b c t _ h;exact ⟨c', t, h1⟩

theorem mvPtr : Tryz.prog.underlying 77 = some (.pointer 95) := by kernel_rfl
theorem mvInfo : (Tryz.prog.info? 95).map (fun i => i.size) = some 414 := by kernel_rfl
theorem mvInfo' : ∃ j, Tryz.prog.info? 95 = some j /\ j.size ≠ 0 := by
 have h := mvInfo
 cases hj : Tryz.prog.info? 95 with
 | none => rw [hj] at h; simp at h
 | some j => rw [hj] at h; simp at h; exact ⟨j, rfl, by omega⟩

theorem Ud (w : World) (m : Nat) : (binOp .eql 77 (.pointer (some ⟨m, 0, none⟩)) (.pointer (some ⟨m, 0, none⟩))).run Tryz.prog w = .ok (.bool true) w := by
 obtain ⟨j, hj, _⟩ := mvInfo';exact run_eql_ptr_same w _ mvPtr hj
theorem VV (w : World) {m q : Nat} (hne : ¬ m = q) (hm : Zh w m) (hq : Zh w q) : (binOp .eql 77 (.pointer (some ⟨m, 0, none⟩)) (.pointer (some ⟨q, 0, none⟩))).run Tryz.prog w = .ok (.bool false) w := by
 obtain ⟨j, hj, hs⟩ := mvInfo';obtain ⟨c, t, h⟩ := hm;obtain ⟨c', t', h'⟩ := hq;exact run_eql_ptr_other w mvPtr hj hs (fun e => hne (congrArg Addr.block e)) h h'

set_option maxHeartbeats 2000000 in
theorem pIndex_any (a : Option Addr) (cap : Nat) (ps : List Nat) (m : Nat) (w : World) (h : XP w a ps) (hl : ps.length <= 1000000) (hm : Zh w m) (hps : ∀ q ∈ ps, Zh w q) :
  Calls Tryz.prog 121 #[.slice a ps.length cap, .pointer (some ⟨m, 0, none⟩)] w fun e w' => (∃ r : Int, e = .returned (.int .i64 r) /\ (0 <= r ↔ m ∈ ps)) /\ w' = w := by
 have HPS := zd hps;clear hps;go_enter Tryz.func121, Tryz.ntmps121;go_wp2_with fail
 go_loopw [8] (fun z wr => ∃ k : Nat, k <= ps.length /\ z = .int .i64 k /\ Hid (∀ j, j < k -> ps.getD j 0 ≠ m) /\ wr = w) (fun z _ => ps.length - (intOf z).toNat)
 case atStart => exact ⟨0, Nat.zero_le _, rfl, zd fun j hj => by omega, rfl⟩
 case round =>
  obtain ⟨k, hk, rfl, HNO, rfl⟩ := hrel
  by_cases hlt : k < ps.length
  ·obtain ⟨b, off, rfl, hb, c⟩ := h k hlt
   have hget : ps.getD k 0 = ps[k] := by simp [List.getElem?_eq_getElem hlt]
   have hmem : ps[k] ∈ ps := List.getElem_mem hlt
   generalize ps[k] = q at *
   by_cases hq : m = q
   ·have HM := zd hmem;subst hq;clear hget hmem;have he := Ud wr m;go_wp2;go_ret;exact ⟨⟨k, rfl, ⟨fun _ => za HM, fun _ => Int.natCast_nonneg k⟩⟩, rfl⟩
   ·have he := VV wr hq hm (za HPS q hmem);have HG := zd hget;clear hget hmem;go_wp2;refine ⟨⟨k + 1, by omega, by go_num, ?_, by first | rfl | trivial⟩, by simp [intOf]; omega⟩
    refine zd fun j hj => ?_
    by_cases e : j = k
    ·subst e; rw [za HG]; exact fun x => hq x.symm
    ·exact za HNO j (by omega)
  ·have HF : Hid (m ∉ ps) := fun hm => by
    obtain ⟨j, hj, e⟩ := List.getElem_of_mem hm;exact za HNO j (by omega) (by simp [List.getElem?_eq_getElem hj, e])
   go_wp2;go_ret;exact ⟨⟨-1, rfl, ⟨fun h => by omega, fun h => absurd h (za HF)⟩⟩, rfl⟩

set_option maxHeartbeats 2000000 in
theorem Vn (a : Option Addr) (cap : Nat) (ps : List Nat) (m : Nat) (w : World) (h : XP w a ps) (hl : ps.length <= 1000000) (hm : Zh w m) (hps : ∀ q ∈ ps, Zh w q) :
  Calls Tryz.prog 91 #[.slice a ps.length cap, .pointer (some ⟨m, 0, none⟩)] w fun e w' => yG (m ∈ ps) e /\ w' = w := by
 go_enter Tryz.func91, Tryz.ntmps91;go_wp2_with fail;refine (pIndex_any a cap ps m _ h hl hm hps).mono ?_;rintro e w1 ⟨⟨r, rfl, hr⟩, hw⟩;subst hw
 by_cases h0 : 0 <= r
 ·have HM := zd (hr.1 h0);clear hr;go_wp2;go_ret;exact ⟨zA (za HM), rfl⟩
 ·have HM : Hid (¬ m ∈ ps) := fun x => h0 (hr.2 x)
  clear hr;go_wp2;go_ret;have hd : decide (0 <= r) = false := decide_eq_false (by omega);exact ⟨by show yG _ (.returned (.bool (decide (0 <= r)))); rw [hd]; exact zk (za HM), rfl⟩

def yD (x y : Pt) : Prop := x.piece = y.piece /\ x.fr <= y.to /\ y.fr <= x.to
def YR (ps qs : List Pt) : Prop := ∃ i j, ∃ (h : i < ps.length) (h' : j < qs.length), yD ps[i] qs[j]

set_option maxHeartbeats 2000000 in
theorem touch_any (x y : Pt) (w : World) :
  Calls Tryz.prog 79 #[.agg #[.int .i64 x.piece, .int .i64 x.fr, .int .i64 x.to], .agg #[.int .i64 y.piece, .int .i64 y.fr, .int .i64 y.to]] w fun e w' => yG (yD x y) e /\ Below w.heap.size w w' := by
 obtain ⟨xp, xf, xt⟩ := x;obtain ⟨yp, yf, yt⟩ := y;dsimp only
 by_cases h1 : xp = yp
 ·subst h1
  by_cases h2 : xf <= yt
  ·by_cases h3 : yf <= xt
   ·go_enter Tryz.func79, Tryz.ntmps79;go_wp2;go_ret;exact ⟨zA ⟨rfl, h2, h3⟩, bw0⟩
   ·go_enter Tryz.func79, Tryz.ntmps79;go_wp2;go_ret;exact ⟨zk fun h => by have := h.2.2; dsimp only at this; omega, bw0⟩
  ·go_enter Tryz.func79, Tryz.ntmps79;go_wp2;go_ret;exact ⟨zk fun h => by have := h.2.1; dsimp only at this; omega, bw0⟩
 ·have h1b := ZO h1;have H1 := zd h1;clear h1;go_enter Tryz.func79, Tryz.ntmps79;go_wp2;go_ret;exact ⟨zk fun h => za H1 h.1, bw0⟩

set_option maxHeartbeats 4000000 in
theorem someTouch_any (a b : Option Addr) (ca cb : Nat) (ps qs : List Pt) (w : World) (hp : Yb L w a ps) (hq : Yb L' w b qs) (hl : ps.length <= 1048576) (hl' : qs.length <= 1048576) :
  Calls Tryz.prog 38 #[.slice a ps.length ca, .slice b qs.length cb] w fun e w' => yG (YR ps qs) e /\ Below w.heap.size w w' := by
 go_enter Tryz.func38, Tryz.ntmps38;go_wp2_with fail
 go_loopw [11] (fun z wr => ∃ k : Nat, k <= ps.length /\ z = .int .i64 k /\ (∀ i j (h : i < ps.length) (h' : j < qs.length), i < k -> ¬ yD ps[i] qs[j]) /\ Below w.heap.size w wr) (fun z _ => ps.length - (intOf z).toNat)
 case atStart => exact ⟨0, Nat.zero_le _, rfl, fun i j h h' h0 => by omega, Below.refl _ _⟩
 case round =>
  obtain ⟨k, hk, rfl, hno, hb⟩ := hrel;have HNO := zd hno;clear hno
  by_cases hlt : k < ps.length
  ·obtain ⟨pb, poff, rfl, hpb, p0, p1, p2⟩ := hp.below hb k hlt;have hpb2 := hpb.2;go_wp2_with fail
   go_loopw [17] (fun z wq => ∃ m : Nat, m <= qs.length /\ z = .int .i64 m /\ (∀ j (h' : j < qs.length), j < m -> ¬ yD ps[k] qs[j]) /\ zg wq wr.heap.size [.int .i64 ps[k].piece, .int .i64 ps[k].fr, .int .i64 ps[k].to] /\ Below wr.heap.size wr wq) (fun z _ => qs.length - (intOf z).toNat)
   case atStart => exact ⟨0, Nat.zero_le _, rfl, fun j h' h0 => by omega, zf _ _ _, bw0⟩
   case round =>
    clear p0 p1 p2;obtain ⟨m, hm, rfl, hno2, hBx, hb2⟩ := hrel;have HNO2 := zd hno2;clear hno2;have hbw2 := below_then hb hb2
    by_cases hlt2 : m < qs.length
    ·obtain ⟨qb, qoff, rfl, hqb, q0, q1, q2⟩ := hq.below hbw2 m hlt2;have hqb2 := hqb.2;have x0 := hBx.2.1 0 _ rfl;have x1 := hBx.2.1 1 _ rfl;have x2 := hBx.2.1 2 _ rfl;have xl := hBx.1
     generalize hX : ps[k] = X at *
     generalize hY : qs[m] = Y at *
     have HX := zd hX;have HY := zd hY;clear hX hY;go_wp2_with fail;refine (touch_any X Y _).mono ?_;rintro e w3 ⟨⟨rfl, hr⟩ | ⟨rfl, hr⟩, hb3⟩
     ·have hbq3 : Below wr.heap.size wr w3 := below_then bw0 hb3;go_wp2;go_ret;exact ⟨zA ⟨k, m, hlt, hlt2, by rw [za HX, za HY]; exact hr⟩, below_then hbw2 hbq3⟩
     ·have hbq3 : Below wr.heap.size wr w3 := below_then bw0 hb3;have HR := zd hr;clear hr;go_wp2;refine ⟨⟨m + 1, by omega, by go_num, fun j h' h0 => ?_, hBx.below hbq3, below_then hb2 hbq3⟩, by simp [intOf]; omega⟩
      by_cases e : j = m
      ·subst e;rw [za HY];exact za HR
      ·exact za HNO2 j h' (by omega)
    ·go_wp2;refine ⟨⟨k + 1, by omega, by go_num, fun i j h h' h0 => ?_, hbw2⟩, by simp [intOf]; omega⟩
     by_cases e : i = k
     ·subst e;exact za HNO2 j h' (by omega)
     ·exact za HNO i j h h' (by omega)
  ·go_wp2;go_ret;exact ⟨zk fun ⟨i, j, h, h', ht⟩ => za HNO i j h h' (by omega) ht, hb⟩

set_option maxHeartbeats 4000000 in
theorem xd (a b : Option Addr) (ca cb : Nat) (ps qs : List Pt) (w : World) (hp : Yb L w a ps) (hq : Yb L' w b qs) (hl : ps.length <= 1048576) (hl' : qs.length <= 1048576) :
  Calls Tryz.prog 34 #[.slice a ps.length ca, .slice b qs.length cb] w fun e w' => yG (YR ps qs) e /\ Below w.heap.size w w' := by
 go_enter Tryz.func34, Tryz.ntmps34;go_wp2_with fail
 go_loopw [11] (fun z wr => ∃ k : Nat, k <= ps.length /\ z = .int .i64 k /\ (∀ i j (h : i < ps.length) (h' : j < qs.length), i < k -> ¬ yD ps[i] qs[j]) /\ Below w.heap.size w wr) (fun z _ => ps.length - (intOf z).toNat)
 case atStart => exact ⟨0, Nat.zero_le _, rfl, fun i j h h' h0 => by omega, Below.refl _ _⟩
 case round =>
  obtain ⟨k, hk, rfl, hno, hb⟩ := hrel;have HNO := zd hno;clear hno
  by_cases hlt : k < ps.length
  ·obtain ⟨pb, poff, rfl, hpb, p0, p1, p2⟩ := hp.below hb k hlt;have hpb2 := hpb.2;go_wp2_with fail
   go_loopw [17] (fun z wq => ∃ m : Nat, m <= qs.length /\ z = .int .i64 m /\ (∀ j (h' : j < qs.length), j < m -> ¬ yD ps[k] qs[j]) /\ zg wq wr.heap.size [.int .i64 ps[k].piece, .int .i64 ps[k].fr, .int .i64 ps[k].to] /\ Below wr.heap.size wr wq) (fun z _ => qs.length - (intOf z).toNat)
   case atStart => exact ⟨0, Nat.zero_le _, rfl, fun j h' h0 => by omega, zf _ _ _, bw0⟩
   case round =>
    clear p0 p1 p2;obtain ⟨m, hm, rfl, hno2, hBx, hb2⟩ := hrel;have HNO2 := zd hno2;clear hno2;have hbw2 := below_then hb hb2
    by_cases hlt2 : m < qs.length
    ·obtain ⟨qb, qoff, rfl, hqb, q0, q1, q2⟩ := hq.below hbw2 m hlt2;have hqb2 := hqb.2;have x0 := hBx.2.1 0 _ rfl;have x1 := hBx.2.1 1 _ rfl;have x2 := hBx.2.1 2 _ rfl;have xl := hBx.1
     have hstep : ¬ yD ps[k] qs[m] -> ∀ j (h' : j < qs.length), j < m + 1 -> ¬ yD ps[k] qs[j] := fun hn j h' h0 => by
      by_cases e : j = m
      ·subst e;exact hn
      ·exact za HNO2 j h' (by omega)
     generalize hX : ps[k] = X at *
     have HX := zd hX;clear hX
     generalize hY : qs[m] = Y at *
     have HY := zd hY;clear hY;obtain ⟨xp, xf, xt⟩ := X;obtain ⟨yp, yf, yt⟩ := Y;have HSTEP := zd hstep;clear hstep HNO2;dsimp only at x0 x1 x2 q0 q1 q2
     by_cases h1 : xp = yp
     ·subst h1
      by_cases h2 : xf <= yt
      ·by_cases h3 : yf <= xt
       ·go_wp2;go_ret;exact ⟨zA ⟨k, m, hlt, hlt2, by rw [za HX, za HY]; exact ⟨rfl, h2, h3⟩⟩, below_then hbw2 bw0⟩
       ·go_wp2;refine ⟨⟨m + 1, by omega, by go_num, za HSTEP fun h => h3 h.2.2, hBx.below bw0, below_then hb2 bw0⟩, by simp [intOf]; omega⟩
      ·go_wp2;refine ⟨⟨m + 1, by omega, by go_num, za HSTEP fun h => h2 h.2.1, hBx.below bw0, below_then hb2 bw0⟩, by simp [intOf]; omega⟩
     ·have h1b := ZO h1;have H1 := zd h1;clear h1;go_wp2;refine ⟨⟨m + 1, by omega, by go_num, za HSTEP fun h => za H1 h.1, hBx.below bw0, below_then hb2 bw0⟩, by simp [intOf]; omega⟩
    ·go_wp2;refine ⟨⟨k + 1, by omega, by go_num, fun i j h h' h0 => ?_, hbw2⟩, by simp [intOf]; omega⟩
     by_cases e : i = k
     ·subst e;exact za HNO2 j h' (by omega)
     ·exact za HNO i j h h' (by omega)
  ·go_wp2;go_ret;exact ⟨zk fun ⟨i, j, h, h', ht⟩ => za HNO i j h h' (by omega) ht, hb⟩

def xT (p : Pt) : List Value := [.int .i64 p.piece, .int .i64 p.fr, .int .i64 p.to]
theorem ptF_len (p : Pt) : (xT p).length = 3 := rfl

theorem Xz : (Tryz.prog.info? 103).map (fun i => (i.zero, i.size, i.bytes)) = some (some (.agg #[.int .i64 0, .int .i64 0, .int .i64 0]), 3, 24) := by kernel_rfl

abbrev ZM (w : World) (base : Nat) (v : Value) (ps : List Pt) : Prop := zV w base 103 3 xT v ps

set_option maxHeartbeats 2000000 in
theorem xL (v : Value) (n : Nt) (s : St) (a b : Int) (w : World) (hv : zE L w v n) (hs : zy n s) (hlen : lenOf n s.piece <= 10000000) (h0 : 0 <= lenOf n s.piece) (ha : 0 <= a /\ a <= 10000000) (hb : 0 <= b /\ b <= 10000000) :
  Calls Tryz.prog 73 #[v, .int .i64 s.piece, .int .i64 s.way, .int .i64 a, .int .i64 b] w fun e w' => e = .returned (.agg #[.int .i64 (Zs n s a b).piece, .int .i64 (Zs n s a b).fr, .int .i64 (Zs n s a b).to]) /\ Below w.heap.size w w' := by
 obtain ⟨x, c, ca, cc, rfl, hp, hj⟩ := hv;obtain ⟨p, y⟩ := s;obtain ⟨⟨h1, h2⟩, hy⟩ := hs;dsimp only at h1 h2 hy hlen h0 ⊢;obtain ⟨pb, poff, rfl, hpb, c1⟩ := hp.len h1 h2;obtain ⟨pn, rfl⟩ := Int.eq_ofNat_of_zero_le h1;simp only [Int.toNat_natCast] at c1;have w1 := zj (x := lenOf n pn - b) (by omega) (by omega);have w2 := zj (x := lenOf n pn - a) (by omega) (by omega)
 rcases hy with rfl | rfl
 ·have HP : Hid (Zs n ⟨pn, 1⟩ a b = ⟨pn, a, b⟩) := by unfold Hid; simp [Zs]
  go_enter Tryz.func73, Tryz.ntmps73;go_wp2;exact bodyPost_ret (v := .agg #[.int .i64 pn, .int .i64 a, .int .i64 b]) (by simp [results, Tryz.results73, go_sem]) rfl ⟨by rw [za HP], bw0⟩
 ·have HP : Hid (Zs n ⟨pn, -1⟩ a b = ⟨pn, lenOf n pn - b, lenOf n pn - a⟩) := by unfold Hid; simp [Zs]
  go_enter Tryz.func73, Tryz.ntmps73;go_wp2;exact bodyPost_ret (v := .agg #[.int .i64 pn, .int .i64 (lenOf n pn - b), .int .i64 (lenOf n pn - a)]) (by simp [results, Tryz.results73, go_sem]) rfl ⟨by rw [za HP], bw0⟩

def zi (n : Nt) (t : Tr) : List Pt := ZJ n t.long (zm n t.front) ⟨t.front.piece, t.front.way⟩ t.back

set_option maxHeartbeats 4000000 in
theorem yX (v tv : Value) (n : Nt) (t : Tr) (w : World) (hv : zE L w v n) (htv : Vh L' w tv t) (hG : zr n) (hF : zD n t) :
  Calls Tryz.prog 35 #[v, tv] w fun e w' => ∃ u, e = .returned u /\ ZM w' w.heap.size u (zi n t) /\ Below w.heap.size w w' := by
 have hvv := hv;obtain ⟨x, c, ca, cc, rfl, hp, hj⟩ := hv;obtain ⟨ba, bc, rfl, hst⟩ := htv;unfold zi;obtain ⟨⟨fp, fa, fy⟩, long, back⟩ := t;obtain ⟨hS, hlong, h200, hback⟩ := hF;dsimp only at hst hlong h200 hback hS ⊢;have hsteps := yM hback;have hlen := hG.len hS.1.1 hS.1.2;dsimp only at hlen
 have hbeh : 0 <= zm n ⟨fp, fa, fy⟩ /\ zm n ⟨fp, fa, fy⟩ <= 10000000 := by
  have h3 := hS.2.2;dsimp only at h3;unfold zm Zl
  split <;> dsimp only <;> omega
 obtain ⟨i0, hi, hz0, hz1, hz2⟩ := info_parts Xz;have HST := zd hsteps;have HS := zd hS;have HB := zd hback;clear hsteps hback;go_enter Tryz.func35, Tryz.ntmps35;go_wp2_with fail;refine (YC _ n ⟨fp, fa, fy⟩ _ (hvv.below ?_) hS hlen.2).mono ?_
 ·exact bw0
 rintro e w1 ⟨rfl, hb1⟩;have hbw1 : Below w.heap.size w w1 := below_then bw0 hb1;have hBn1 : zg w1 w.heap.size [.slice x n.pieces.length ca, .slice c n.joints.length cc] := ((zf _ _ _).alloc _).below hb1;have hBt1 : zg w1 (w.heap.size + 1) [.int .i64 fp, .int .i64 fa, .int .i64 fy, .int .i64 long, .slice ba back.length bc] := (zp _ _ _ (by simp)).below hb1;have b0 := hBt1.2.1 0 _ rfl;have b2 := hBt1.2.1 2 _ rfl;have n1 := hBt1.1;obtain ⟨beh, hbe⟩ : ∃ beh, zm n ⟨fp, fa, fy⟩ = beh := ⟨_, rfl⟩;rw [hbe] at HB hbeh ⊢;have HBE := zd hbe;clear hbe hS;go_wp2_with fail
 go_loopw [5, 6, 7, 9] (fun u l y z wr => ∃ (k : Nat) (left al hv : Int) (at_ : St) (ps : List Pt), k <= back.length /\ l = .int .i64 left /\ y = .int .i64 al /\ z = .int .i64 k /\ left = long - (hv - al) /\ (0 < left /\ left <= 100000) /\ (0 <= al /\ al <= 10000000) /\ zy n at_
   /\ Hid (ZE n long hv at_ (back.drop k)) /\ Hid (ps ++ ZJ n left al at_ (back.drop k) = ZJ n long beh ⟨fp, fy⟩ back) /\ ps.length <= k
   /\ Hid (ZM wr (w1.heap.size + 1) u ps) /\ zg wr w.heap.size [.slice x n.pieces.length ca, .slice c n.joints.length cc] /\ zg wr (w.heap.size + 1) [.int .i64 fp, .int .i64 fa, .int .i64 fy, .int .i64 long, .slice ba back.length bc]
   /\ zg wr w1.heap.size [.int .i64 at_.piece, .int .i64 at_.way] /\ Below w.heap.size w wr) (fun _ _ _ z _ => back.length - (intOf z).toNat)
 case atStart => exact ⟨0, long, beh, beh, ⟨fp, fy⟩, [], Nat.zero_le _, rfl, rfl, rfl, by omega, by omega, hbeh, ⟨(za HS).1, (za HS).2.1⟩, zd (by simpa using za HB), zd (by simp), by simp, zd (zV.nil _ _ _ _ _), hBn1.alloc _, hBt1.alloc _, zf _ _ _, below_then hbw1 bw0⟩
 case round =>
  clear b0 b2 hBn1 hBt1;obtain ⟨k, left, al, hv, at_, ps, hk, rfl, rfl, rfl, hleft, hl01, hal, hok, HBK, HPS, hpl, HROW, hBn, hBt, hBa, hb⟩ := hrel;have HOK := zd hok;have HLEFT := zd hleft;have nn := hBn.1;have nt := hBt.1;have na := hBa.1;have hszr := hb.size;have hsz1 := hbw1.size;have d0 := hBa.2.1 0 _ rfl;have d1 := hBa.2.1 1 _ rfl;have dz := hBa.2.2;have a0 := hBn.2.1 0 _ rfl;have a1 := hBn.2.1 1 _ rfl;have t4 := hBt.2.1 4 _ rfl;have hlat := hG.len hok.1.1 hok.1.2;clear hok
  by_cases hlt : k < back.length
  ·have hdrop : back.drop k = back[k] :: back.drop (k + 1) := List.drop_eq_getElem_cons hlt;obtain ⟨sb, soff, rfl, hsb, s0w, s1w⟩ := hst k hlt;have s0 := (hb.cell hsb.2).trans s0w;have s1 := (hb.cell hsb.2).trans s1w;have hoks := za HST back[k] (List.getElem_mem hlt)
   generalize hx : back[k] = sk at *
   obtain ⟨sp, sy⟩ := sk;have hlss := hG.len hoks.1.1 hoks.1.2;have HBK2 := za HBK;rw [hdrop] at HBK2;simp only [ZE] at HBK2
   have hlo : al < left := by have := HBK2.2.1; omega
   have HB4 := zd HBK2.2.2.2;have HOKS := zd hoks;have HD := zd hdrop;clear HBK2 HBK hx hdrop hleft;dsimp only at s0 s1 s0w s1w hlss;have hsp := hoks.1;dsimp only at hsp;clear hoks;obtain ⟨spn, rfl⟩ := Int.eq_ofNat_of_zero_le hsp.1;obtain ⟨pb, poff, rfl, hpb, c1w⟩ := hp.len hsp.1 hsp.2;have c1 := (hb.cell hpb).trans c1w;simp only [Int.toNat_natCast] at c1
   have hpb2 : pb < wr.heap.size := by omega
   have hsb2 : sb < wr.heap.size := by omega
   have ne5 : ¬ sb = w1.heap.size := by omega
   have ne1 : ¬ pb = w1.heap.size := by omega
   have ne2 : ¬ w.heap.size = w1.heap.size := by omega
   have ne4 : ¬ w.heap.size + 1 = w1.heap.size := by omega
   have HSTEP : ∀ (qs : List Pt), Hid (qs ++ ZJ n (left - al) (lenOf n spn) ⟨spn, sy⟩ (back.drop (k + 1)) = ZJ n left al at_ (back.drop k)) -> Hid ((ps ++ qs) ++ ZJ n (left - al) (lenOf n spn) ⟨spn, sy⟩ (back.drop (k + 1)) = ZJ n long beh ⟨fp, fy⟩ back) := fun qs h => by
    unfold Hid at *
    rw [List.append_assoc, h, HPS]
   by_cases h0 : al = 0
   ·subst h0
    have q1 : (left == 0) = false := by simp; omega
    have q2 : ((k : Int) == (back.length : Int)) = false := by simp; omega
    go_wp2;refine ⟨⟨k + 1, left, lenOf n spn, hv + lenOf n spn, ⟨spn, sy⟩, ps, by omega, rfl, rfl, by go_num, by have := za HLEFT; omega, hl01, by omega, za HOKS, HB4, ?_, by omega, zd (((za HROW).setCell (by simp) _).setCell (by simp) _), ?_, ?_, ?_, ?_⟩, by simp [intOf]; omega⟩
    ·have := HSTEP [] (zd (by
      rw [za HD];simp only [ZJ]
      have e1 : (if (0 : Int) > left then left else 0) = 0 := by split <;> omega
      rw [e1, if_neg (by omega), if_neg (show ¬ left - 0 = 0 by omega)]))
     simpa using this
    ·exact (hBn.apart (p := ⟨w1.heap.size, 0, none⟩) (show w.heap.size ≠ w1.heap.size by omega) _).apart (p := ⟨w1.heap.size, 1, none⟩) (show w.heap.size ≠ w1.heap.size by omega) _
    ·exact (hBt.apart (p := ⟨w1.heap.size, 0, none⟩) (show w.heap.size + 1 ≠ w1.heap.size by omega) _).apart (p := ⟨w1.heap.size, 1, none⟩) (show w.heap.size + 1 ≠ w1.heap.size by omega) _
    ·exact hBa.set2 _ _
    ·exact (ZW hb)
   ·have hp0 : 0 < al := by omega
    go_wp2_with fail;refine (xL _ n at_ 0 al _ (hvv.below hb) (za HOK) (by omega) (by omega) (by omega) hal).mono ?_;rintro e w2 ⟨rfl, hb2⟩;have hrow2 := (za HROW).below hb2;have hbw2 := below_then hb hb2;have hBn2 := hBn.below hb2;have hBt2 := hBt.below hb2;have hBa2 := hBa.below hb2;obtain ⟨pt, hpt⟩ : ∃ pt, Zs n at_ 0 al = pt := ⟨_, rfl⟩;have HPT := zd hpt;rw [hpt];obtain ⟨qp, qf, qt⟩ := pt;clear hpt d0 d1 dz a0 a1 t4;dsimp only
    go_wp2_with (at_builtin; refine wpList_append_own _ rfl (.tmp 33) (.tmp 44) 93 rfl (w1.heap.size + 1) 103 i0 (.agg #[.int .i64 0, .int .i64 0, .int .i64 0]) 3 24 Tryz.underlying93 hi hz0 hz1 hz2 rfl (by decide) _ _ _ rfl (hrow2.alloc _) ⟨w2.heap.size, 0, none⟩ 1 1 (xT ⟨qp, qf, qt⟩) rfl rfl ?c1 ?c2 ?c3 ?c4 ?c5 ?_)
    case c1 =>
     intro j u hj
     match j, hj with
     | 0, hj => simp [xT] at hj; subst hj; simp [Addr.add]
     | 1, hj => simp [xT] at hj; subst hj; simp [Addr.add]
     | 2, hj => simp [xT] at hj; subst hj; simp [Addr.add]
    case c2 => intro u hu; simp [xT] at hu; rcases hu with rfl | rfl | rfl <;> rfl
    case c3 => unfold maxLen; omega
    case c4 => omega
    case c5 => have := hb2.size; simp; omega
    intro v' w3 hown' hgrow _;have hrow3 : ZM w3 (w1.heap.size + 1) v' (ps ++ [⟨qp, qf, qt⟩]) := zV.snoc hown';have hsz2 := hb2.size;have hb3 : Below w.heap.size w w3 := ZL hrow2 hbw2 hgrow (by omega) (by omega);have hBn3 := zG hrow2 hgrow (by omega) hBn2;have hBt3 := zG hrow2 hgrow (by omega) hBt2;have hBa3 := zG hrow2 hgrow (by omega) hBa2;have HROW3 := zd hrow3;clear hrow3 hown' hgrow hrow2 hBn2 hBt2 hBa2;have d0 := hBa3.2.1 0 _ rfl;have d1 := hBa3.2.1 1 _ rfl;have dz := hBa3.2.2;have a0 := hBn3.2.1 0 _ rfl;have t4 := hBt3.2.1 4 _ rfl;have n3 := hBa3.1;have n4 := hBt3.1;have c1' := (hb3.cell hpb).trans c1w;simp only [Int.toNat_natCast] at c1';have s0' := (hb3.cell hsb.2).trans s0w;have s1' := (hb3.cell hsb.2).trans s1w;clear s0 s1 s0w s1w c1 c1w
    have q1 : (left - al == 0) = false := by simp; omega
    have q2 : ((k : Int) == (back.length : Int)) = false := by simp; omega
    go_wp2;refine ⟨⟨k + 1, left - al, lenOf n spn, hv + lenOf n spn, ⟨spn, sy⟩, ps ++ [⟨qp, qf, qt⟩], by omega, rfl, rfl, by go_num, by have := za HLEFT; omega, ⟨by omega, by omega⟩, by omega, za HOKS, HB4, ?_, by simp; omega, zd (((za HROW3).setCell (by simp) _).setCell (by simp) _), ?_, ?_, ?_, ?_⟩, by simp [intOf]; omega⟩
    ·exact HSTEP [⟨qp, qf, qt⟩] (zd (by
      rw [za HD];simp only [ZJ]
      have e1 : (if al > left then left else al) = al := by split <;> omega
      rw [e1, if_pos hp0, if_neg (show ¬ left - al = 0 by omega), show al - al = 0 by omega, za HPT]))
    ·exact (hBn3.apart (p := ⟨w1.heap.size, 0, none⟩) (show w.heap.size ≠ w1.heap.size by omega) _).apart (p := ⟨w1.heap.size, 1, none⟩) (show w.heap.size ≠ w1.heap.size by omega) _
    ·exact (hBt3.apart (p := ⟨w1.heap.size, 0, none⟩) (show w.heap.size + 1 ≠ w1.heap.size by omega) _).apart (p := ⟨w1.heap.size, 1, none⟩) (show w.heap.size + 1 ≠ w1.heap.size by omega) _
    ·exact hBa3.set2 _ _
    ·exact (ZW hb3)
  ·have hkl : k = back.length := by omega
   have hdrop : back.drop k = [] := by rw [hkl]; simp
   rw [hdrop] at HBK HPS;have hBK := za HBK;simp only [ZE] at hBK
   have hlo : left <= al := by omega
   have e1 : (if al > left then left else al) = left := by split <;> omega
   have HPS' : Hid (ps ++ [Zs n at_ (al - left) al] = ZJ n long beh ⟨fp, fy⟩ back) := by
    have := za HPS;simp only [ZJ] at this;rw [e1, if_pos hl01.1] at this;exact this
   clear HBK HPS hBK hleft e1 hdrop hkl
   by_cases hgt : left < al
   ·go_wp2_with fail;refine (xL _ n at_ (al - left) al _ (hvv.below hb) (za HOK) (by omega) (by omega) (by omega) hal).mono ?_;rintro e w2 ⟨rfl, hb2⟩;have hrow2 := (za HROW).below hb2;have hbw2 := below_then hb hb2;have hBt2 := hBt.below hb2;obtain ⟨pt, hpt⟩ : ∃ pt, Zs n at_ (al - left) al = pt := ⟨_, rfl⟩;have HPT := zd hpt;rw [hpt];obtain ⟨qp, qf, qt⟩ := pt;clear hpt d0 d1 dz a0 a1 t4;dsimp only
    go_wp2_with (at_builtin; refine wpList_append_own _ rfl (.tmp 33) (.tmp 44) 93 rfl (w1.heap.size + 1) 103 i0 (.agg #[.int .i64 0, .int .i64 0, .int .i64 0]) 3 24 Tryz.underlying93 hi hz0 hz1 hz2 rfl (by decide) _ _ _ rfl (hrow2.alloc _) ⟨w2.heap.size, 0, none⟩ 1 1 (xT ⟨qp, qf, qt⟩) rfl rfl ?d1 ?d2 ?d3 ?d4 ?d5 ?_)
    case d1 =>
     intro j u hj
     match j, hj with
     | 0, hj => simp [xT] at hj; subst hj; simp [Addr.add]
     | 1, hj => simp [xT] at hj; subst hj; simp [Addr.add]
     | 2, hj => simp [xT] at hj; subst hj; simp [Addr.add]
    case d2 => intro u hu; simp [xT] at hu; rcases hu with rfl | rfl | rfl <;> rfl
    case d3 => unfold maxLen; omega
    case d4 => omega
    case d5 => have := hb2.size; simp; omega
    intro v' w3 hown' hgrow _;have hrow3 : ZM w3 (w1.heap.size + 1) v' (ps ++ [⟨qp, qf, qt⟩]) := zV.snoc hown';have hsz2 := hb2.size;have hb3 : Below w.heap.size w w3 := ZL hrow2 hbw2 hgrow (by omega) (by omega);have hBt3 := zG hrow2 hgrow (by omega) hBt2;have t4 := hBt3.2.1 4 _ rfl;have HROW3 := zd hrow3;clear hrow3 hown' hgrow hrow2 hBt2;go_wp2;go_ret;refine ⟨v', rfl, ?_, hb3⟩;rw [za HBE, ← za HPS', za HPT];exact (za HROW3).mono (by omega)
   ·have heq : al = left := by omega
    subst heq;go_wp2_with fail;refine (xL _ n at_ 0 al _ (hvv.below hb) (za HOK) (by omega) (by omega) (by omega) hal).mono ?_;rintro e w2 ⟨rfl, hb2⟩;have hrow2 := (za HROW).below hb2;have hbw2 := below_then hb hb2;have hBt2 := hBt.below hb2;rw [show al - al = 0 by omega] at HPS';obtain ⟨pt, hpt⟩ : ∃ pt, Zs n at_ 0 al = pt := ⟨_, rfl⟩;have HPT := zd hpt;rw [hpt];obtain ⟨qp, qf, qt⟩ := pt;clear hpt d0 d1 dz a0 a1 t4;dsimp only
    go_wp2_with (at_builtin; refine wpList_append_own _ rfl (.tmp 33) (.tmp 44) 93 rfl (w1.heap.size + 1) 103 i0 (.agg #[.int .i64 0, .int .i64 0, .int .i64 0]) 3 24 Tryz.underlying93 hi hz0 hz1 hz2 rfl (by decide) _ _ _ rfl (hrow2.alloc _) ⟨w2.heap.size, 0, none⟩ 1 1 (xT ⟨qp, qf, qt⟩) rfl rfl ?e1 ?e2 ?e3 ?e4 ?e5 ?_)
    case e1 =>
     intro j u hj
     match j, hj with
     | 0, hj => simp [xT] at hj; subst hj; simp [Addr.add]
     | 1, hj => simp [xT] at hj; subst hj; simp [Addr.add]
     | 2, hj => simp [xT] at hj; subst hj; simp [Addr.add]
    case e2 => intro u hu; simp [xT] at hu; rcases hu with rfl | rfl | rfl <;> rfl
    case e3 => unfold maxLen; omega
    case e4 => omega
    case e5 => have := hb2.size; simp; omega
    intro v' w3 hown' hgrow _;have hrow3 : ZM w3 (w1.heap.size + 1) v' (ps ++ [⟨qp, qf, qt⟩]) := zV.snoc hown';have hsz2 := hb2.size;have hb3 : Below w.heap.size w w3 := ZL hrow2 hbw2 hgrow (by omega) (by omega);have hBt3 := zG hrow2 hgrow (by omega) hBt2;have t4 := hBt3.2.1 4 _ rfl;have HROW3 := zd hrow3;clear hrow3 hown' hgrow hrow2 hBt2;go_wp2;go_ret;refine ⟨v', rfl, ?_, hb3⟩;rw [za HBE, ← za HPS', za HPT];exact (za HROW3).mono (by omega)

set_option maxHeartbeats 2000000 in
theorem touches1_any (x y : Pt) (P : Nat) (w : World) (h : zg w P [.int .i64 y.piece, .int .i64 y.fr, .int .i64 y.to]) :
  Calls Tryz.prog 104 #[.agg #[.int .i64 x.piece, .int .i64 x.fr, .int .i64 x.to], .pointer (some ⟨P, 0, none⟩)] w fun e w' => yG (yD x y) e /\ Below w.heap.size w w' := by
 have p0 := h.2.1 0 _ rfl;have p1 := h.2.1 1 _ rfl;have p2 := h.2.1 2 _ rfl;have pl := h.1;go_enter Tryz.func104, Tryz.ntmps104;go_wp2_with fail;refine (touch_any x y _).mono ?_;rintro e w1 ⟨hr, hb1⟩;have hbw : Below w.heap.size w w1 := below_then bw0 hb1
 rcases hr with ⟨rfl, hr⟩ | ⟨rfl, hr⟩
 ·have HR := zd hr;clear hr;go_wp2;go_ret;exact ⟨zA (za HR), hbw⟩
 ·have HR := zd hr;clear hr;go_wp2;go_ret;exact ⟨zk (za HR), hbw⟩

set_option maxHeartbeats 2000000 in
theorem fIndex_any (a : Option Addr) (ca : Nat) (ps : List Pt) (y : Pt) (P : Nat) (w : World) (hp : Yb L w a ps) (hl : ps.length <= 1048576) (h : zg w P [.int .i64 y.piece, .int .i64 y.fr, .int .i64 y.to]) :
  Calls Tryz.prog 133 #[.slice a ps.length ca, .func (.func 104) #[] #[.pointer (some ⟨P, 0, none⟩)]] w fun e w' => (∃ r : Int, e = .returned (.int .i64 r) /\ (0 <= r ↔ ∃ x ∈ ps, yD x y)) /\ Below w.heap.size w w' := by
 have hpp := hp
 have hcf : ∀ (x : Value) (W : World), (callFunc 104 #[x, .pointer (some ⟨P, 0, none⟩)]).run Tryz.prog W = .ok (.enter 104 #[x, .pointer (some ⟨P, 0, none⟩)]) W := fun _ _ => by kernel_rfl
 go_enter Tryz.func133, Tryz.ntmps133;go_wp2_with fail
 go_loopw [8] (fun z wr => ∃ k : Nat, k <= ps.length /\ z = .int .i64 k /\ Hid (∀ j (h : j < ps.length), j < k -> ¬ yD ps[j] y) /\ Below w.heap.size w wr) (fun z _ => ps.length - (intOf z).toNat)
 case atStart => exact ⟨0, Nat.zero_le _, rfl, zd fun j _ hj => by omega, Below.refl _ _⟩
 case round =>
  obtain ⟨k, hk, rfl, HNO, hb⟩ := hrel
  by_cases hlt : k < ps.length
  ·obtain ⟨b, off, rfl, hbs, c0w, c1w, c2w⟩ := hpp k hlt;have c0 := (hb.cell hbs.2).trans c0w;have c1 := (hb.cell hbs.2).trans c1w;have c2 := (hb.cell hbs.2).trans c2w;have hx : ps[k] ∈ ps := List.getElem_mem hlt;have HX := zd hx;have HB := zd (h.below hb)
   have HGET : Hid (∀ z, ps[k] = z -> z ∈ ps) := fun z e => e ▸ hx
   clear hx;go_wp2_with fail;refine (touches1_any ps[k] y P _ ((za HB).below ?_)).mono ?_
   ·exact bw0
   rintro e w1 ⟨⟨rfl, ht⟩ | ⟨rfl, ht⟩, hb1⟩
   ·have HT := zd ht;clear ht;go_wp2;go_ret;exact ⟨⟨k, rfl, ⟨fun _ => ⟨_, za HX, za HT⟩, fun _ => Int.natCast_nonneg k⟩⟩, below_then hb (below_then bw0 hb1)⟩
   ·have HT := zd ht;clear ht;go_wp2;refine ⟨⟨k + 1, by omega, by go_num, ?_, below_then hb (below_then bw0 hb1)⟩, by simp [intOf]; omega⟩
    refine zd fun j hj hjk => ?_
    by_cases e : j = k
    ·subst e; exact za HT
    ·exact za HNO j hj (by omega)
  ·have HF : Hid (¬ ∃ x ∈ ps, yD x y) := by
    rintro ⟨x, hx, ht⟩;obtain ⟨j, hj, rfl⟩ := List.getElem_of_mem hx;exact za HNO j hj (by omega) ht
   go_wp2;go_ret;exact ⟨⟨-1, rfl, ⟨fun h => by omega, fun h => absurd h (za HF)⟩⟩, hb⟩

set_option maxHeartbeats 2000000 in
theorem fContains_any (a : Option Addr) (ca : Nat) (ps : List Pt) (y : Pt) (P : Nat) (w : World) (hp : Yb L w a ps) (hl : ps.length <= 1048576) (h : zg w P [.int .i64 y.piece, .int .i64 y.fr, .int .i64 y.to]) :
  Calls Tryz.prog 103 #[.slice a ps.length ca, .func (.func 104) #[] #[.pointer (some ⟨P, 0, none⟩)]] w fun e w' => yG (∃ x ∈ ps, yD x y) e /\ Below w.heap.size w w' := by
 go_enter Tryz.func103, Tryz.ntmps103;go_wp2_with fail;refine (fIndex_any a ca ps y P _ hp hl h).mono ?_;rintro e w1 ⟨⟨r, rfl, hr⟩, hb1⟩
 by_cases h0 : 0 <= r
 ·have HM := zd (hr.1 h0);clear hr;go_wp2;go_ret;exact ⟨zA (za HM), hb1⟩
 ·have HM : Hid (¬ ∃ x ∈ ps, yD x y) := fun x => h0 (hr.2 x)
  clear hr;go_wp2;go_ret;have hd : decide (0 <= r) = false := decide_eq_false (by omega);exact ⟨by show yG _ (.returned (.bool (decide (0 <= r)))); rw [hd]; exact zk (za HM), hb1⟩

set_option maxHeartbeats 2000000 in
theorem touches_any (M : Nat) (a : Option Addr) (ca : Nat) (ps : List Pt) (y : Pt) (w : World) (hM : M < w.heap.size) (hc : w.cell? ⟨M, 413, none⟩ = some (.slice a ps.length ca)) (hp : Yb L w a ps) (hl : ps.length <= 1048576) :
  Calls Tryz.prog 62 #[.pointer (some ⟨M, 0, none⟩), .agg #[.int .i64 y.piece, .int .i64 y.fr, .int .i64 y.to]] w fun e w' => yG (∃ x ∈ ps, yD x y) e /\ Below w.heap.size w w' := by
 have hmf : ∀ (fn : Fn) (first cap : Array Value) (W : World), (Instr.makeFunc fn first cap).run Tryz.prog W = .ok (.func fn first cap) W := fun _ _ _ _ => rfl
 go_enter Tryz.func62, Tryz.ntmps62;go_wp2_with fail;refine (fContains_any a ca ps y w.heap.size _ (hp.below ?_) hl ?_).mono ?_
 ·exact bw0
 ·first | exact zf _ _ _ | exact (zf _ _ _).drew | exact zp _ _ _ (by simp)
 rintro e w1 ⟨⟨rfl, ht⟩ | ⟨rfl, ht⟩, hb1⟩
 ·have HT := zd ht;clear ht;go_wp2;go_ret;exact ⟨zA (za HT), below_then bw0 hb1⟩
 ·have HT := zd ht;clear ht;go_wp2;go_ret;exact ⟨zk (za HT), below_then bw0 hb1⟩
end Go.Proofs.YthdioeofdofleaaGreatDoor
