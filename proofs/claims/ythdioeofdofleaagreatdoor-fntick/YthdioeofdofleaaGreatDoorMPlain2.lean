import Derived.Test.YthdioeofdofleaaGreatDoorMPlain
import Derived.Test.YthdioeofdofleaaGreatDoorMRead
import Derived.BigQuiet
import Derived.BigRegion
import Derived.Deep.QuietTactic
import Derived.Deep.RegionWith
import Derived.Deep.RegionHeld3
import Derived.Test.YthdioeofdofleaaGreatDoorRows
import Derived.WalkSpells
set_option maxRecDepth 100000
namespace Go.Proofs.YthdioeofdofleaaGreatDoor
open Go.RowKit
variable {x b p s : Int} {a : Option Addr} {e : Ed} {k k' i i' L L' U N base sz m : Nat} {js : List Jt} {w w' : World} {v : Value} {n : Nt} {vs : List Value} {S : Nat -> Prop} {f : Nat -> Value}
structure St where
 piece : Int
 way : Int

variable {es : List St}
structure Sp where
 piece : Int
 at_ : Int
 way : Int

structure Tr where
 front : Sp
 long : Int
 back : List St

variable {t : Tr}
structure Pt where
 piece : Int
 fr : Int
 to : Int

variable {ps : List Pt}
def inB (x a b : Int) : Bool := decide (a <= x /\ x <= b)
theorem vL {a : Int} (h : a <= x /\ x <= b) : inB x a b = true := by simp [inB, h]
theorem XA {a : Int} (h : ¬ (a <= x /\ x <= b)) : inB x a b = false := by simp [inB]; omega

def lenOf (n : Nt) (p : Int) : Int := (n.pieces[p.toNat]?.map Pc.len).getD 0
def hd (p way : Int) : Ed := ⟨p, if way = 1 then 1 else 0⟩

def Zt (n : Nt) (s : Sp) : Prop := (0 <= s.piece /\ s.piece < n.pieces.length) /\ (s.way = 1 \/ s.way = -1) /\ (0 <= s.at_ /\ s.at_ <= lenOf n s.piece)
def Zl (n : Nt) (s : Sp) : Int := if s.way = 1 then lenOf n s.piece - s.at_ else s.at_
def zm (n : Nt) (s : Sp) : Int := lenOf n s.piece - Zl n s

def zX (js : List Jt) (e : Ed) (i k : Nat) : Prop := ∃ (h : i < js.length) (h' : k < js[i].ends.length), js[i].ends[k] = e

def Zv (j : Jt) (k : Nat) : Ed := j.ends.getD k ⟨0, 0⟩

def ZP (j : Jt) (k : Nat) : List Ed :=
 if j.kind = 2 then [Zv j (1 - k)]
 else if j.kind = 3 then (if k = 0 then [Zv j 1, Zv j 2] else [Zv j 0])
 else if j.kind = 4 then [Zv j (if k = 0 then 1 else if k = 1 then 0 else if k = 2 then 3 else 2)]
 else []

def Joined (n : Nt) (a b : St) : Prop := ∃ i k, ∃ h : i < n.joints.length, zX n.joints (hd a.piece a.way) i k /\ hd b.piece (-b.way) ∈ ZP n.joints[i] k

def zy (n : Nt) (s : St) : Prop := (0 <= s.piece /\ s.piece < n.pieces.length) /\ (s.way = 1 \/ s.way = -1)

def ZE (n : Nt) (long : Int) : Int -> St -> List St -> Prop
 | have_, _, [] => long <= have_
 | have_, ahead, s :: r => zy n s /\ have_ < long /\ Joined n s ahead /\ ZE n long (have_ + lenOf n s.piece) s r

def zD (n : Nt) (t : Tr) : Prop :=
 Zt n t.front /\ (1 <= t.long /\ t.long <= 100000) /\ t.back.length <= 200 /\ ZE n t.long (zm n t.front) ⟨t.front.piece, t.front.way⟩ t.back
def zJ (n : Nt) (t : Tr) : Prop := Zz n 0 0 /\ zD n t

theorem XL {es : List Ed} (h : k < es.length) (he : es[k] = e) : 1 <= ZN es e.piece e.side := by
 unfold ZN;apply List.one_le_countP_iff.2;exact ⟨es[k], List.getElem_mem h, by rw [he]; simp [isEd]⟩

theorem UF {es : List Ed} (h : k < es.length) (h' : k' < es.length) (he : es[k] = e) (he' : es[k'] = e) (hne : k < k') : 2 <= ZN es e.piece e.side := by
 have h1 : ZN es e.piece e.side = ZN (es.take k') e.piece e.side + ZN (es.drop k') e.piece e.side := by
  unfold ZN;rw [← List.countP_append, List.take_append_drop]
 have h2 : 1 <= ZN (es.take k') e.piece e.side := XL (k := k) (by simp; omega) (by simpa using he);have h3 : 1 <= ZN (es.drop k') e.piece e.side := XL (k := 0) (by simp; omega) (by simpa using he');omega

theorem uses_ge (h : i < js.length) : ZN js[i].ends p s <= ZZ js p s := by
 induction js generalizing i with
 | nil => simp at h
 | cons j r ih =>
  cases i with
  | zero => simp [ZZ]
  | succ i =>
   have := ih (i := i) (by simpa using h)
   simp [ZZ] at this ⊢
   omega

theorem uses_two (h : i < js.length) (h' : i' < js.length) (hne : i < i') : ZN js[i].ends p s + ZN js[i'].ends p s <= ZZ js p s := by
 induction js generalizing i i' with
 | nil => simp at h
 | cons j r ih =>
  cases i with
  | zero =>
   cases i' with
   | zero => omega
   | succ i' =>
    have := uses_ge (js := r) (p := p) (s := s) (i := i') (by simpa using h')
    simp [ZZ] at this ⊢
    omega
  | succ i =>
   cases i' with
   | zero => omega
   | succ i' =>
    have := ih (i := i) (i' := i') (by simpa using h) (by simpa using h') (by omega)
    simp [ZZ] at this ⊢
    omega

theorem zQ (hu : ZZ js e.piece e.side = 1) (h : zX js e i k) (g : zX js e i' k') : i = i' /\ k = k' := by
 obtain ⟨hi, hk, he⟩ := h;obtain ⟨gi, gk, ge⟩ := g;have h1 := XL hk he;have h2 := XL gk ge
 rcases Nat.lt_trichotomy i i' with hlt | rfl | hgt
 ·have := uses_two (p := e.piece) (s := e.side) hi gi hlt; omega
 ·rcases Nat.lt_trichotomy k k' with klt | rfl | kgt
  ·have := UF hk gk he ge klt; have := uses_ge (p := e.piece) (s := e.side) hi; omega
  ·exact ⟨rfl, rfl⟩
  ·have := UF gk hk ge he kgt; have := uses_ge (p := e.piece) (s := e.side) hi; omega
 ·have := uses_two (p := e.piece) (s := e.side) gi hi hgt; omega

theorem yk (hu : ZZ js e.piece e.side = 1) : ∃ i k, zX js e i k := by
 induction js with
 | nil => simp [ZZ] at hu
 | cons j r ih =>
  by_cases hj : ZN j.ends e.piece e.side = 0
  ·have : ZZ r e.piece e.side = 1 := by simp [ZZ] at hu ⊢; omega
   obtain ⟨i, k, hi, hk, he⟩ := ih this;exact ⟨i + 1, k, by simpa using hi, by simpa using hk, by simpa using he⟩
  ·have : 0 < j.ends.countP (isEd e.piece e.side) := by unfold ZN at hj; omega
   obtain ⟨x, hx, hxe⟩ := List.countP_pos_iff.1 this;obtain ⟨k, hk, hxk⟩ := List.getElem_of_mem hx;refine ⟨0, k, by simp, by simpa using hk, ?_⟩
   simp [isEd] at hxe
   have : x = e := by cases x; cases e; simp_all
   simpa [this] using hxk

def yw (L : Nat) (w : World) (a : Option Addr) (es : List St) : Prop :=
 ∀ i (h : i < es.length), ∃ b off, a = some ⟨b, off, none⟩ /\ (L <= b /\ b < w.heap.size) /\ w.cell? ⟨b, off + i * 2, none⟩ = some (.int .i64 es[i].piece) /\ w.cell? ⟨b, off + i * 2 + 1, none⟩ = some (.int .i64 es[i].way)

theorem yw.keeps (h : yw L w a es) (hk : yH L w w') : yw L w' a es := by
 intro i hi;obtain ⟨b, off, ha, hlt, c0, c1⟩ := h i hi;exact ⟨b, off, ha, ⟨hlt.1, Nat.lt_of_lt_of_le hlt.2 hk.1⟩, by rw [hk.cell hlt]; exact c0, by rw [hk.cell hlt]; exact c1⟩

theorem yw.below (h : yw L w a es) (hb : Below w.heap.size w w') : yw L w' a es := h.keeps (zT L hb)

theorem yw.mono (h : yw L w a es) (hL : L' <= L) : yw L' w a es := by
 intro i hi;obtain ⟨b, off, ha, hlt, r⟩ := h i hi;exact ⟨b, off, ha, ⟨Nat.le_trans hL hlt.1, hlt.2⟩, r⟩

def rowSt (es : List St) (f : Nat -> Value) (k : Nat) : Prop :=
 ∀ i (h : i < es.length), i < k -> f (i * 2) = .int .i64 es[i].piece /\ f (i * 2 + 1) = .int .i64 es[i].way

def YD (L U : Nat) (w : World) (a : Option Addr) (es : List St) : Prop :=
 ∃ b f, a = some ⟨b, 0, none⟩ /\ (L <= b /\ b < U) /\ w.rowIs b 87 (es.length * 2) f /\ rowSt es f es.length

theorem YD.at (h : YD L U w a es) : yw L w a es := by
 obtain ⟨b, f, rfl, hb, hrow, hf⟩ := h;intro i hi;obtain ⟨e0, e1⟩ := hf i hi hi;refine ⟨b, 0, rfl, ⟨hb.1, hrow.lt⟩, ?_, ?_⟩
 ·rw [← e0, hrow.cell (by omega)]; simp
 ·rw [← e1, hrow.cell (by omega)]; simp

theorem YD.stays (h : YD L U w a es) (hk : XI L U w w') : YD L U w' a es := by
 obtain ⟨b, f, ha, hb, hrow, hf⟩ := h;exact ⟨b, f, ha, hb, hrow.of_block (hk b hb.1 hb.2), hf⟩

theorem YD.mono {U' : Nat} (h : YD L U w a es) (hL : L' <= L) (hU : U <= U') : YD L' U' w a es := by
 obtain ⟨b, f, ha, hb, r⟩ := h;exact ⟨b, f, ha, ⟨by omega, by omega⟩, r⟩

theorem Xy : (Tryz.prog.info? 87).map (fun i => (i.zero, i.size, i.bytes)) = some (some (.agg #[.int .i64 0, .int .i64 0]), 2, 16) := by kernel_rfl

def Vh (L : Nat) (w : World) (v : Value) (t : Tr) : Prop :=
 ∃ a cap, v = .agg #[.int .i64 t.front.piece, .int .i64 t.front.at_, .int .i64 t.front.way, .int .i64 t.long, .slice a t.back.length cap] /\ yw L w a t.back
def TrOwn (L U : Nat) (w : World) (v : Value) (t : Tr) : Prop :=
 ∃ a, v = .agg #[.int .i64 t.front.piece, .int .i64 t.front.at_, .int .i64 t.front.way, .int .i64 t.long, .slice a t.back.length t.back.length] /\ YD L U w a t.back
theorem Vh.keeps (h : Vh L w v t) (hk : yH L w w') : Vh L w' v t := by
 obtain ⟨a, cap, hv, hs⟩ := h;exact ⟨a, cap, hv, hs.keeps hk⟩
theorem Vh.below (h : Vh L w v t) (hb : Below w.heap.size w w') : Vh L w' v t := h.keeps (zT L hb)
theorem TrOwn.at (h : TrOwn L U w v t) : Vh L w v t := by
 obtain ⟨a, hv, hs⟩ := h;exact ⟨a, _, hv, hs.at⟩
theorem TrOwn.stays (h : TrOwn L U w v t) (hk : XI L U w w') : TrOwn L U w' v t := by
 obtain ⟨a, hv, hs⟩ := h;exact ⟨a, hv, hs.stays hk⟩

theorem l1in_B (x a b : Int) (w : World) :
  Calls Tryz.prog 32 #[.int .i64 x, .int .i64 a, .int .i64 b] w fun e w' => e = .returned (.bool (inB x a b)) /\ w' = w :=
 (Ym x a b w).mono fun e w' ⟨he, hw⟩ => ⟨by
  rcases he with ⟨rfl, h⟩ | ⟨rfl, h⟩
  ·rw [vL h]
  ·rw [XA h], hw⟩

theorem uI (x a b : Int) (w : World) (h : inB x a b = true) :
  Calls Tryz.prog 32 #[.int .i64 x, .int .i64 a, .int .i64 b] w fun e w' => e = .returned (.bool true) /\ w' = w :=
 (l1in_B x a b w).mono fun e w' ⟨he, hw⟩ => ⟨by rw [he, h], hw⟩
theorem uJ (x a b : Int) (w : World) (h : inB x a b = false) :
  Calls Tryz.prog 32 #[.int .i64 x, .int .i64 a, .int .i64 b] w fun e w' => e = .returned (.bool false) /\ w' = w :=
 (l1in_B x a b w).mono fun e w' ⟨he, hw⟩ => ⟨by rw [he, h], hw⟩

theorem Yh.len (h : Yh L w a n.pieces) (h0 : 0 <= p) (h1 : p < n.pieces.length) :
  ∃ b off, a = some ⟨b, off, none⟩ /\ b < w.heap.size /\ w.cell? ⟨b, off + p.toNat * 4 + 1, none⟩ = some (.int .i64 (lenOf n p)) := by
 obtain ⟨b, off, ha, hb, _, c1, _, _⟩ := h p.toNat (by omega);refine ⟨b, off, ha, hb.2, ?_⟩;rw [c1]
 simp [lenOf, List.getElem?_eq_getElem (show p.toNat < n.pieces.length by omega)]

theorem zj (h0 : -1000000000000000 <= x) (h1 : x <= 1000000000000000) : IntKind.i64.wrap x = x := by
 rw [IntKind.wrap_i64];omega

set_option maxHeartbeats 2000000 in
theorem qe (v : Value) (n : Nt) (s : Sp) (w : World) (hv : zE L w v n) (hl : n.pieces.length <= 1048576) :
  Calls Tryz.prog 86 #[v, .agg #[.int .i64 s.piece, .int .i64 s.at_, .int .i64 s.way]] w fun e w' => yG (Zt n s) e /\ Below w.heap.size w w' := by
 obtain ⟨a, c, ca, cc, rfl, hp, hj⟩ := hv;obtain ⟨p, q, y⟩ := s;dsimp only;have hwr := zj (x := (n.pieces.length : Int) - 1) (by omega) (by omega)
 by_cases h1 : 0 <= p /\ p <= (n.pieces.length : Int) - 1
 ·have e1 := vL h1;obtain ⟨b, off, rfl, hb, c1⟩ := hp.len h1.1 (by omega);obtain ⟨pn, rfl⟩ := Int.eq_ofNat_of_zero_le h1.1;simp only [Int.toNat_natCast] at c1
  have hlt : (pn : Int) < (n.pieces.length : Int) := by omega
  have hnn : (0 : Int) <= (pn : Int) := by omega
  by_cases hy : y = 1 \/ y = -1
  ·rcases hy with rfl | rfl
   all_goals
    by_cases h3 : 0 <= q /\ q <= lenOf n pn
    ·have e3 := vL h3;go_enter Tryz.func86, Tryz.ntmps86;go_wp2_with fail
     go_quiet ((go_at_call 32; first | exact Calls.quiet_of_same (uI _ _ _ _ (by assumption)) | exact Calls.quiet_of_same (uJ _ _ _ _ (by assumption))))
     go_wp2;go_ret;exact ⟨zA ⟨⟨hnn, hlt⟩, by simp, h3⟩, bw0⟩
    ·have e3 := XA h3;go_enter Tryz.func86, Tryz.ntmps86;go_wp2_with fail
     go_quiet ((go_at_call 32; first | exact Calls.quiet_of_same (uI _ _ _ _ (by assumption)) | exact Calls.quiet_of_same (uJ _ _ _ _ (by assumption))))
     go_wp2;go_ret;exact ⟨zk fun h => h3 h.2.2, bw0⟩
  ·have y1 : (y == 1) = false := by simp; omega
   have y2 : (y == -1) = false := by simp; omega
   have HY := zd hy;clear hy;go_enter Tryz.func86, Tryz.ntmps86;go_wp2_with fail
   go_quiet ((go_at_call 32; first | exact Calls.quiet_of_same (uI _ _ _ _ (by assumption)) | exact Calls.quiet_of_same (uJ _ _ _ _ (by assumption))))
   go_wp2;go_ret;exact ⟨zk fun h => za HY h.2.1, bw0⟩
 ·have e1 := XA h1;go_enter Tryz.func86, Tryz.ntmps86;go_wp2_with fail
  go_quiet ((go_at_call 32; first | exact Calls.quiet_of_same (uI _ _ _ _ (by assumption)) | exact Calls.quiet_of_same (uJ _ _ _ _ (by assumption))))
  go_wp2;go_ret;exact ⟨zk fun h => h1 ⟨h.1.1, by have := h.1.2; dsimp only at this; omega⟩, bw0⟩

set_option maxHeartbeats 400000 in
theorem yW (p y : Int) (w : World) :
  Calls Tryz.prog 69 #[.int .i64 p, .int .i64 y] w fun e w' => e = .returned (.agg #[.int .i64 (hd p y).piece, .int .i64 (hd p y).side]) /\ Below w.heap.size w w' := by
 by_cases hy : y = 1
 ·subst hy;go_enter Tryz.func69, Tryz.ntmps69;go_wp2;exact bodyPost_ret (v := .agg #[.int .i64 p, .int .i64 1]) (by simp [results, Tryz.results69, go_sem]) rfl ⟨by simp [hd], bw0⟩
 ·have y1 : (y == 1) = false := by simp; omega
  have HY := zd hy;clear hy;go_enter Tryz.func69, Tryz.ntmps69;go_wp2;exact bodyPost_ret (v := .agg #[.int .i64 p, .int .i64 0]) (by simp [results, Tryz.results69, go_sem]) rfl ⟨by simp [hd, za HY], bw0⟩

set_option maxHeartbeats 1000000 in
theorem qh (v : Value) (n : Nt) (s : Sp) (w : World) (hv : zE L w v n) (hs : Zt n s) (hlen : lenOf n s.piece <= 10000000) :
  Calls Tryz.prog 67 #[v, .agg #[.int .i64 s.piece, .int .i64 s.at_, .int .i64 s.way]] w fun e w' => e = .returned (.int .i64 (Zl n s)) /\ Below w.heap.size w w' := by
 obtain ⟨a, c, ca, cc, rfl, hp, hj⟩ := hv;obtain ⟨p, q, y⟩ := s;obtain ⟨⟨h0, h1⟩, hy, h2, h3⟩ := hs;dsimp only at h0 h1 hy h2 h3 hlen ⊢;obtain ⟨b, off, rfl, hb, c1⟩ := hp.len h0 h1;obtain ⟨pn, rfl⟩ := Int.eq_ofNat_of_zero_le h0;simp only [Int.toNat_natCast] at c1;have hwr := zj (x := lenOf n pn - q) (by omega) (by omega)
 rcases hy with rfl | rfl
 ·go_enter Tryz.func67, Tryz.ntmps67;go_wp2_with fail
  go_quiet (fail)
  go_wp2;go_ret;exact ⟨by simp [Zl], bw0⟩
 ·go_enter Tryz.func67, Tryz.ntmps67;go_wp2;go_ret;exact ⟨by simp [Zl], bw0⟩

set_option maxHeartbeats 2000000 in
theorem YC (v : Value) (n : Nt) (s : Sp) (w : World) (hv : zE L w v n) (hs : Zt n s) (hlen : lenOf n s.piece <= 10000000) :
    Calls Tryz.prog 72 #[v, .agg #[.int .i64 s.piece, .int .i64 s.at_, .int .i64 s.way]] w fun e w' => e = .returned (.int .i64 (zm n s)) /\ Below w.heap.size w w' := by
  have hvv := hv;obtain ⟨a, c, ca, cc, rfl, hp, hj⟩ := hv;obtain ⟨p, q, y⟩ := s;obtain ⟨⟨h0, h1⟩, hy, h2, h3⟩ := hs;dsimp only at h0 h1 hy h2 h3 hlen ⊢;obtain ⟨b, off, rfl, hb, c1⟩ := hp.len h0 h1;obtain ⟨pn, rfl⟩ := Int.eq_ofNat_of_zero_le h0;simp only [Int.toNat_natCast] at c1;have hs' : Zt n ⟨pn, q, y⟩ := ⟨⟨h0, h1⟩, hy, h2, h3⟩
  have hr0 : 0 <= Zl n ⟨pn, q, y⟩ /\ Zl n ⟨pn, q, y⟩ <= 10000000 := by unfold Zl; split <;> dsimp only <;> omega
  have hr : -10000000 <= lenOf n pn - Zl n ⟨pn, q, y⟩ /\ lenOf n pn - Zl n ⟨pn, q, y⟩ <= 10000000 := by omega
  have hwr := zj (x := lenOf n pn - Zl n ⟨pn, q, y⟩) (by omega) (by omega)
  have hb2 : b < w.heap.size + 1 + 1 := by omega
  go_enter Tryz.func72, Tryz.ntmps72;go_wp2_with fail
  go_region_held3 (fun w' => w'.cell? ⟨w.heap.size, 0, none⟩ = some (.slice (some ⟨b, off, none⟩) n.pieces.length ca) /\ w'.cell? ⟨w.heap.size, 1, none⟩ = some (.slice c n.joints.length cc)
      /\ w'.cell? ⟨w.heap.size + 1, 0, none⟩ = some (.int .i64 pn) /\ w'.cell? ⟨w.heap.size + 1, 1, none⟩ = some (.int .i64 q) /\ w'.cell? ⟨w.heap.size + 1, 2, none⟩ = some (.int .i64 y)
      /\ w'.cell? ⟨b, off + pn * 4 + 1, none⟩ = some (.int .i64 (lenOf n pn)) ) (((try dsimp only); (repeat' apply And.intro)) <;> (go_keep; done))
    (first | (go_at_call 67; refine (qh _ n ⟨pn, q, y⟩ _ (hvv.below bw0) hs' hlen).mono ?_; rintro e w1 ⟨rfl, hb1⟩; obtain ⟨hc1, hf1⟩ := yT hb1; have q0 := hc1 w.heap.size 0 (by simp <;> omega); have q1 := hc1 w.heap.size 1 (by simp <;> omega)))
  all_goals have hbw := Below.trans (bw0 : Below w.heap.size w _) (hb1.mono (by simp <;> omega))
  all_goals go_wp2
  all_goals go_ret
  all_goals exact ⟨by simp [zm], hbw⟩

set_option maxHeartbeats 1000000 in
theorem xM (v : Value) (n : Nt) (p s : Int) (w : World) (hv : zE L w v n) (hl' : n.joints.length <= 1048576) (hle : ∀ i (h : i < n.joints.length), n.joints[i].ends.length <= 1048576) (hex : ∃ i k, zX n.joints ⟨p, s⟩ i k) :
    Calls Tryz.prog 105 #[v, .agg #[.int .i64 p, .int .i64 s]] w fun e w' => ∃ i k : Nat, e = .returned (.tuple #[.int .i64 i, .int .i64 k]) /\ zX n.joints ⟨p, s⟩ i k /\ Below w.heap.size w w' := by
  obtain ⟨a, c, ca, cc, rfl, hp, hj⟩ := hv;have HEX := zd hex;clear hex;go_enter Tryz.func105, Tryz.ntmps105;go_wp2_with fail
  go_loopw [13] (fun x wr => ∃ k : Nat, k <= n.joints.length /\ x = .int .i64 k /\ (∀ i' k', zX n.joints ⟨p, s⟩ i' k' -> k <= i')
    /\ zg wr (w.heap.size + 1) [.int .i64 p, .int .i64 s] /\ Below w.heap.size w wr) (fun x _ => n.joints.length - (intOf x).toNat)
  case atStart => exact ⟨0, Nat.zero_le _, rfl, fun _ _ _ => Nat.zero_le _, zp _ _ _ (by simp), bw0⟩
  case round =>
    obtain ⟨k, hk, rfl, hno, hB2, hb⟩ := hrel;have HNO := zd hno;have n2 := hB2.1;have hsz := hb.size;clear hno
    by_cases hlt : k < n.joints.length
    · obtain ⟨b, off, ea, ec, rfl, hbs, c0, c1, c2, he⟩ := hj.below hb k hlt
      have hlen := hle k hlt;go_wp2_with fail
      go_loopw [21] (fun x wq => ∃ m : Nat, m <= n.joints[k].ends.length /\ x = .int .i64 m /\ (∀ k', zX n.joints ⟨p, s⟩ k k' -> m <= k')
        /\ zg wq (w.heap.size + 1) [.int .i64 p, .int .i64 s] /\ Below wr.heap.size wr wq) (fun x _ => n.joints[k].ends.length - (intOf x).toNat)
      case atStart => exact ⟨0, Nat.zero_le _, rfl, fun _ _ => Nat.zero_le _, hB2.below bw0, bw0⟩
      case round =>
        clear n2 hB2;obtain ⟨m, hm, rfl, hno2, hB2, hb2⟩ := hrel;have HNO2 := zd hno2;clear hno2;have n2 := hB2.1;have hsz2 := hb2.size;have d0 := hB2.2.1 0 _ rfl;have d1 := hB2.2.1 1 _ rfl
        by_cases hlt2 : m < n.joints[k].ends.length
        · obtain ⟨b2, off2, rfl, hbs2, e0, e1⟩ := he.below hb2 m hlt2
          generalize hx : n.joints[k].ends[m] = ed at *
          obtain ⟨p0, s0⟩ := ed;dsimp only at e0 e1;have HX := zd hx;clear hx
          by_cases hE : p0 = p /\ s0 = s
          · obtain ⟨rfl, rfl⟩ := hE
            go_wp2;go_ret2;exact ⟨k, m, rfl, ⟨hlt, hlt2, za HX⟩, below_then hb (ZW hb2)⟩
          · have HE := zd hE
            clear hE;go_wp2
            all_goals first
              | (exfalso; exact za HE ⟨by assumption, by assumption⟩)
              | (refine ⟨⟨m + 1, by omega, by go_num, fun k' hk' => ?_, hB2.below bw0, Below.alloc hb2 hb2.size _⟩, by simp [intOf]; omega⟩
                 have h1 := za HNO2 k' hk'
                 by_cases e : k' = m
                 · subst e
                   obtain ⟨_, _, h3⟩ := hk';rw [za HX] at h3
                   simp at h3
                   exact absurd h3 (za HE)
                 · omega)
        · go_wp2
          refine ⟨⟨k + 1, by omega, by go_num, fun i' k' hs' => ?_, hB2, below_then hb hb2⟩, by simp [intOf]; omega⟩;have h1 := za HNO i' k' hs'
          by_cases e : i' = k
          · subst e
            have h2 := za HNO2 k' hs';obtain ⟨_, h3, _⟩ := hs';omega
          · omega
    · exfalso
      obtain ⟨i, k', hs'⟩ := za HEX;have := za HNO i k' hs';obtain ⟨h3, _⟩ := hs';omega

set_option maxHeartbeats 400000 in
theorem xx (x m : Int) (w : World) :
  Calls Tryz.prog 75 #[.int .i64 x, .int .i64 m] w fun e w' => yG (1 <= x /\ x <= m) e /\ w' = w := by
 by_cases h : 1 <= x
 ·go_enter Tryz.func75, Tryz.ntmps75;go_wp2;go_ret;exact ⟨yo (by simp; omega), rfl⟩
 ·go_enter Tryz.func75, Tryz.ntmps75;go_wp2;go_ret;exact ⟨yo (by simp; omega), rfl⟩

set_option maxHeartbeats 400000 in
theorem qr (c : UInt8) (w : World) :
  Calls Tryz.prog 153 #[.int .u8 c.toNat] w fun e w' => yG (Un c) e /\ w' = w := by
 go_enter Tryz.func153, Tryz.ntmps153;go_wp2
 all_goals go_ret
 all_goals refine ⟨yo ?_, rfl⟩
 all_goals unfold Un
 all_goals simp at *
 all_goals omega

set_option maxHeartbeats 400000 in
theorem VB (s : ByteArray) (w : World) (hs : s.size <= maxLen) :
  Calls Tryz.prog 147 #[.string s] w fun e w' => yG (IsNm s) e /\ w' = w := by
 unfold maxLen at hs;go_enter Tryz.func147, Tryz.ntmps147;go_wp2_with fail;refine (xx _ _ _).mono ?_;rintro e w1 ⟨⟨rfl, hr⟩ | ⟨rfl, hr⟩, rfl⟩
 ·go_wp2_with fail
  go_loop [3] (fun i => ∃ k : Nat, k <= s.size /\ i = .int .i64 k /\ ∀ j (h : j < s.size), j < k -> Un s[j]) (fun i => s.size - (intOf i).toNat)
  case atStart => exact ⟨0, Nat.zero_le _, rfl, fun j h h' => by omega⟩
  case round =>
   obtain ⟨k, hk, rfl, hall⟩ := hrel
   by_cases hlt : k < s.size
   ·go_wp2_with fail;refine (qr _ _).mono ?_;rintro e w1 ⟨⟨rfl, hr'⟩ | ⟨rfl, hr'⟩, rfl⟩
    ·go_wp2;refine ⟨⟨k + 1, by omega, by go_num, fun j h h' => ?_⟩, by simp [intOf]; omega⟩
     by_cases e : j = k
     ·subst e; exact hr'
     ·exact hall j h (by omega)
    ·go_wp2;go_ret;exact ⟨zk fun hn => hr' (hn.2.2 k hlt), rfl⟩
   ·go_wp2;go_ret;exact ⟨zA ⟨by omega, by omega, fun i hi => hall i hi (by omega)⟩, rfl⟩
 ·go_wp2;go_ret;exact ⟨zk fun hn => hr ⟨by have := hn.1; omega, by have := hn.2.1; omega⟩, rfl⟩

set_option maxHeartbeats 400000 in
theorem pieceFits_any (s : ByteArray) (l sp br : Int) (w : World) (hs : s.size <= maxLen) :
  Calls Tryz.prog 137 #[.agg #[.string s, .int .i64 l, .int .i64 sp, .int .i64 br]] w fun e w' => yG (PcFits ⟨s, l, sp, br⟩) e /\ Below w.heap.size w w' := by
 go_enter Tryz.func137, Tryz.ntmps137;go_wp2_with fail;refine (VB _ _ hs).mono ?_;rintro e w1 ⟨⟨rfl, h1⟩ | ⟨rfl, h1⟩, rfl⟩
 rotate_left
 ·go_wp2;go_ret;exact ⟨zk fun h => h1 h.1, bw0⟩
 go_wp2_with fail;refine (xx _ _ _).mono ?_;rintro e w1 ⟨⟨rfl, h2⟩ | ⟨rfl, h2⟩, rfl⟩
 rotate_left
 ·go_wp2;go_ret;exact ⟨zk fun h => h2 h.2.1, bw0⟩
 go_wp2_with fail;refine (xx _ _ _).mono ?_;rintro e w1 ⟨⟨rfl, h3⟩ | ⟨rfl, h3⟩, rfl⟩
 rotate_left
 ·go_wp2;go_ret;exact ⟨zk fun h => h3 h.2.2.1, bw0⟩
 go_wp2_with fail;refine (xx _ _ _).mono ?_;rintro e w1 ⟨⟨rfl, h4⟩ | ⟨rfl, h4⟩, rfl⟩
 rotate_left
 ·go_wp2;go_ret;exact ⟨zk fun h => h4 h.2.2.2, bw0⟩
 go_wp2;go_ret;exact ⟨zA ⟨h1, h2, h3, h4⟩, bw0⟩

theorem Xq {v : Int} (h0 : 0 <= v) (h1 : v <= 1048576) : (Lit.int .i64 v).wf = true := WalkArith.wf_i64 (by omega)

set_option maxHeartbeats 1000000 in
theorem UC (a : Option Addr) (ps : List Pc) (cap : Nat) (w : World) (hp : Yh L w a ps) (hl : ps.length <= 100) (hnm : ∀ i (h : i < ps.length), ps[i].name.size <= maxLen) :
  Calls Tryz.prog 117 #[.slice a ps.length cap] w fun e w' => ∃ r : Int, e = .returned (.int .i64 r) /\ Zc (ve ps) ps.length r /\ Below w.heap.size w w' := by
 have hmm := @run_makeMap Tryz.prog;go_enter Tryz.func117, Tryz.ntmps117;go_wp2_with fail
 go_loopw [11] (fun x wr => ∃ k : Nat, k <= ps.length /\ x = .int .i64 k /\ (∀ j, j < k -> ¬ ve ps j) /\ yE wr w.heap.size k (fun s => ∃ j, ∃ h : j < ps.length, j < k /\ ps[j].name = s) /\ Below w.heap.size w wr) (fun x _ => ps.length - (intOf x).toNat)
 case atStart => exact ⟨0, Nat.zero_le _, rfl, fun j h => by omega, (seen_made w).congr fun s => ⟨False.elim, fun ⟨j, _, h, _⟩ => by omega⟩, bw0⟩
 case round =>
  obtain ⟨k, hk, rfl, hall, hS, hb⟩ := hrel;clear hmm
  by_cases hlt : k < ps.length
  ·obtain ⟨b, off, rfl, hbs, c0, c1, c2, c3⟩ := hp.below hb k hlt;have hs := hnm k hlt;have n1 := hS.lt;have hb0 : Below wr.heap.size wr (wr.alloc (.cells #[.string ps[k].name, .int .i64 ps[k].len, .int .i64 ps[k].speed, .int .i64 ps[k].brake] 121)) := bw0;obtain ⟨c, bb, hlk, hbb⟩ := (hS.below hb0).look hs;have HBB := zd hbb;clear hbb
   cases bb
   ·go_wp2_with fail;refine (pieceFits_any _ _ _ _ _ hs).mono ?_;rintro e w1 ⟨⟨rfl, hr⟩ | ⟨rfl, hr⟩, hb1⟩
    ·have hb2 : Below wr.heap.size wr w1 := below_then hb0 hb1;obtain ⟨w2, hst, hS2, hg2⟩ := (hS.below hb2).store (by unfold maxLen; omega) hs (v := (k : Int)) (Xq (by omega) (by omega))
     have hf0 : w1.cell? ⟨wr.heap.size, 0, none⟩ = some (.string ps[k].name) := by rw [hb1.cell (by simp)]; simp
     go_wp2;refine ⟨⟨k + 1, by omega, by go_num, fun j h => ?_, hS2.congr fun s => ?_, ?_⟩, by simp [intOf]; omega⟩
     ·by_cases e : j = k
      ·subst e;rintro ⟨_, hbad | ⟨j2, hj2, he⟩⟩
       ·exact hbad hr
       ·exact absurd ((za HBB).2 ⟨j2, by omega, hj2, he⟩) (by simp)
      ·exact hall j (by omega)
     ·constructor
      ·rintro (rfl | ⟨j, h1, h2, h3⟩)
       ·exact ⟨k, hlt, by omega, rfl⟩
       ·exact ⟨j, h1, by omega, h3⟩
      ·rintro ⟨j, h1, h2, h3⟩
       by_cases e : j = k
       ·subst e; exact Or.inl h3.symm
       ·exact Or.inr ⟨j, h1, by omega, h3⟩
     ·exact (below_then hb hb2).grown hg2 (by have := hb2.size; omega) (fun q hq => by cases hq; omega)
    ·go_wp2;go_ret;exact ⟨k, rfl, yc hlt ⟨hlt, Or.inl hr⟩ hall, below_then hb (below_then hb0 hb1)⟩
   ·go_wp2;go_ret;obtain ⟨j, h1, h2, h3⟩ := (za HBB).1 (by simp);exact ⟨k, rfl, yc hlt ⟨hlt, Or.inr ⟨j, h2, h3⟩⟩ hall, below_then hb hb0⟩
  ·go_wp2;go_ret;exact ⟨-1, rfl, xm fun j h => hall j (by omega), hb⟩

def ShV (v : Value) (kind : Int) (es : List Ed) : Prop :=
 (∃ a, es = [a] /\ kind = 1 /\ v = .iface 230 (.agg #[.int .i64 a.piece, .int .i64 a.side]))
 \/ (∃ a b, es = [a, b] /\ kind = 2 /\ v = .iface 232 (.agg #[.int .i64 a.piece, .int .i64 a.side, .int .i64 b.piece, .int .i64 b.side]))
 \/ (∃ a b c, es = [a, b, c] /\ kind = 3 /\ v = .iface 189 (.agg #[.int .i64 a.piece, .int .i64 a.side, .int .i64 b.piece, .int .i64 b.side, .int .i64 c.piece, .int .i64 c.side]))
 \/ (∃ a b c d, es = [a, b, c, d] /\ kind = 4 /\ v = .iface 234 (.agg #[.int .i64 a.piece, .int .i64 a.side, .int .i64 b.piece, .int .i64 b.side, .int .i64 c.piece, .int .i64 c.side, .int .i64 d.piece, .int .i64 d.side]))

def vQ (kind : Int) (es : List Ed) : Prop := (1 <= kind /\ kind <= 4) /\ (es.length : Int) = kind

theorem Vb {es : List Ed} (h : zg w N vs) (hv : ∀ i (h : i < es.length), vs[i * 2]? = some (.int .i64 es[i].piece) /\ vs[i * 2 + 1]? = some (.int .i64 es[i].side)) (hL : L <= N) : Yo L w (some ⟨N, 0, none⟩) es := by
 intro i hi;exact ⟨N, 0, rfl, ⟨hL, h.1⟩, by simpa using h.2.1 _ _ (hv i hi).1, by simpa using h.2.1 _ _ (hv i hi).2⟩

set_option maxHeartbeats 1000000 in
theorem ends1_any (a : Ed) (w : World) :
  Calls Tryz.prog 180 #[.agg #[.int .i64 a.piece, .int .i64 a.side]] w fun e w' => ∃ B, e = .returned (.slice (some ⟨B, 0, none⟩) 1 1) /\ Yo w.heap.size w' (some ⟨B, 0, none⟩) [a] /\ Below w.heap.size w w' := by
 go_enter Tryz.func180, Tryz.ntmps180;go_wp2;go_ret;refine ⟨w.heap.size + 1, rfl, Vb (zp _ _ _ (by simp)) (fun i hi => ?_) (by omega), bw0⟩
 have hi' : i = 0 := by simp at hi; omega
 subst hi'; simp

set_option maxHeartbeats 1000000 in
theorem ends2_any (a b : Ed) (w : World) :
  Calls Tryz.prog 181 #[.agg #[.int .i64 a.piece, .int .i64 a.side, .int .i64 b.piece, .int .i64 b.side]] w fun e w' => ∃ B, e = .returned (.slice (some ⟨B, 0, none⟩) 2 2) /\ Yo w.heap.size w' (some ⟨B, 0, none⟩) [a, b] /\ Below w.heap.size w w' := by
 go_enter Tryz.func181, Tryz.ntmps181;go_wp2;go_ret;refine ⟨w.heap.size + 1, rfl, Vb (zp _ _ _ (by simp)) (fun i hi => ?_) (by omega), bw0⟩
 have hi' : i = 0 \/ i = 1 := by simp at hi; omega
 rcases hi' with rfl | rfl <;> simp

set_option maxHeartbeats 1000000 in
theorem ends3_any (a b c : Ed) (w : World) :
  Calls Tryz.prog 176 #[.agg #[.int .i64 a.piece, .int .i64 a.side, .int .i64 b.piece, .int .i64 b.side, .int .i64 c.piece, .int .i64 c.side]] w fun e w' => ∃ B, e = .returned (.slice (some ⟨B, 0, none⟩) 3 3) /\ Yo w.heap.size w' (some ⟨B, 0, none⟩) [a, b, c] /\ Below w.heap.size w w' := by
 go_enter Tryz.func176, Tryz.ntmps176;go_wp2;go_ret;refine ⟨w.heap.size + 1, rfl, Vb (zp _ _ _ (by simp)) (fun i hi => ?_) (by omega), bw0⟩
 have hi' : i = 0 \/ i = 1 \/ i = 2 := by simp at hi; omega
 rcases hi' with rfl | rfl | rfl <;> simp

set_option maxHeartbeats 1000000 in
theorem ends4_any (a b c d : Ed) (w : World) :
  Calls Tryz.prog 182 #[.agg #[.int .i64 a.piece, .int .i64 a.side, .int .i64 b.piece, .int .i64 b.side, .int .i64 c.piece, .int .i64 c.side, .int .i64 d.piece, .int .i64 d.side]] w fun e w' => ∃ B, e = .returned (.slice (some ⟨B, 0, none⟩) 4 4) /\ Yo w.heap.size w' (some ⟨B, 0, none⟩) [a, b, c, d] /\ Below w.heap.size w w' := by
 go_enter Tryz.func182, Tryz.ntmps182;go_wp2;go_ret;refine ⟨w.heap.size + 1, rfl, Vb (zp _ _ _ (by simp)) (fun i hi => ?_) (by omega), bw0⟩
 have hi' : i = 0 \/ i = 1 \/ i = 2 \/ i = 3 := by simp at hi; omega
 rcases hi' with rfl | rfl | rfl | rfl <;> simp

set_option maxHeartbeats 1000000 in
theorem xZ (kd : Int) (s : ByteArray) (ea : Option Addr) (es : List Ed) (cap : Nat) (w : World) (hp : Yo L w ea es) (h : vQ kd es) :
  Calls Tryz.prog 90 #[.agg #[.int .i64 kd, .string s, .slice ea es.length cap]] w fun e w' => ∃ v, e = .returned (.tuple #[v, .bool true]) /\ ShV v kd es /\ Below w.heap.size w w' := by
 obtain ⟨⟨hk1, hk4⟩, hlen⟩ := h
 have h4 : kd = 1 \/ kd = 2 \/ kd = 3 \/ kd = 4 := by omega
 clear hk1 hk4
 rcases h4 with rfl | rfl | rfl | rfl
 ·match es, hlen, hp with
  | [a], _, hp =>
   clear hlen;obtain ⟨B, off, rfl, hbs, x0, y0⟩ := hp 0 (by simp)
   simp at x0 y0
   go_enter Tryz.func90, Tryz.ntmps90;go_wp2;go_ret2;exact ⟨_, rfl, Or.inl ⟨_, rfl, rfl, rfl⟩, bw0⟩
 ·match es, hlen, hp with
  | [a, b], _, hp =>
   clear hlen;obtain ⟨B, off, rfl, hbs, x0, y0⟩ := hp 0 (by simp);obtain ⟨B1, off1, hq1, hbs1, x1, y1⟩ := hp 1 (by simp)
   obtain ⟨rfl, rfl⟩ : B = B1 /\ off = off1 := by simpa using hq1
   clear hq1
   simp at x0 y0 x1 y1
   go_enter Tryz.func90, Tryz.ntmps90;go_wp2
   go_quiet (fail)
   go_wp2;go_ret2;exact ⟨_, rfl, Or.inr (Or.inl ⟨_, _, rfl, rfl, rfl⟩), bw0⟩
 ·match es, hlen, hp with
  | [a, b, c], _, hp =>
   clear hlen;obtain ⟨B, off, rfl, hbs, x0, y0⟩ := hp 0 (by simp);obtain ⟨B1, off1, hq1, hbs1, x1, y1⟩ := hp 1 (by simp)
   obtain ⟨rfl, rfl⟩ : B = B1 /\ off = off1 := by simpa using hq1
   clear hq1;obtain ⟨B2, off2, hq2, hbs2, x2, y2⟩ := hp 2 (by simp)
   obtain ⟨rfl, rfl⟩ : B = B2 /\ off = off2 := by simpa using hq2
   clear hq2
   simp at x0 y0 x1 y1 x2 y2
   go_enter Tryz.func90, Tryz.ntmps90;go_wp2
   go_quiet (fail)
   go_wp2;go_ret2;exact ⟨_, rfl, Or.inr (Or.inr (Or.inl ⟨_, _, _, rfl, rfl, rfl⟩)), bw0⟩
 ·match es, hlen, hp with
  | [a, b, c, d], _, hp =>
   clear hlen;obtain ⟨B, off, rfl, hbs, x0, y0⟩ := hp 0 (by simp);obtain ⟨B1, off1, hq1, hbs1, x1, y1⟩ := hp 1 (by simp)
   obtain ⟨rfl, rfl⟩ : B = B1 /\ off = off1 := by simpa using hq1
   clear hq1;obtain ⟨B2, off2, hq2, hbs2, x2, y2⟩ := hp 2 (by simp)
   obtain ⟨rfl, rfl⟩ : B = B2 /\ off = off2 := by simpa using hq2
   clear hq2;obtain ⟨B3, off3, hq3, hbs3, x3, y3⟩ := hp 3 (by simp)
   obtain ⟨rfl, rfl⟩ : B = B3 /\ off = off3 := by simpa using hq3
   clear hq3
   simp at x0 y0 x1 y1 x2 y2 x3 y3
   go_enter Tryz.func90, Tryz.ntmps90;go_wp2
   go_quiet (fail)
   go_wp2;go_ret2;exact ⟨_, rfl, Or.inr (Or.inr (Or.inr ⟨_, _, _, _, rfl, rfl, rfl⟩)), bw0⟩

theorem ZO {a : Int} (h : a ≠ b) : (a == b) = false := beq_eq_false_iff_ne.2 h

set_option maxHeartbeats 1000000 in
theorem shapeOf_no (kd : Int) (s : ByteArray) (ea : Option Addr) (es : List Ed) (cap : Nat) (w : World) (h : ¬ vQ kd es) :
  Calls Tryz.prog 90 #[.agg #[.int .i64 kd, .string s, .slice ea es.length cap]] w fun e w' => e = .returned (.tuple #[.nilIface, .bool false]) /\ Below w.heap.size w w' := by
 have h5 : (kd = 1 \/ kd = 2 \/ kd = 3 \/ kd = 4) \/ (kd ≠ 1 /\ kd ≠ 2 /\ kd ≠ 3 /\ kd ≠ 4) := by omega
 rcases h5 with (rfl | rfl | rfl | rfl) | ⟨n1, n2, n3, n4⟩
 ·have hl := ZO (a := (es.length : Int)) (b := 1) fun e => h ⟨by omega, e⟩
  clear h;go_enter Tryz.func90, Tryz.ntmps90;go_wp2;go_ret2;exact ⟨rfl, bw0⟩
 ·have hl := ZO (a := (es.length : Int)) (b := 2) fun e => h ⟨by omega, e⟩
  clear h;go_enter Tryz.func90, Tryz.ntmps90;go_wp2;go_ret2;exact ⟨rfl, bw0⟩
 ·have hl := ZO (a := (es.length : Int)) (b := 3) fun e => h ⟨by omega, e⟩
  clear h;go_enter Tryz.func90, Tryz.ntmps90;go_wp2;go_ret2;exact ⟨rfl, bw0⟩
 ·have hl := ZO (a := (es.length : Int)) (b := 4) fun e => h ⟨by omega, e⟩
  clear h;go_enter Tryz.func90, Tryz.ntmps90;go_wp2;go_ret2;exact ⟨rfl, bw0⟩
 ·have m1 := ZO n1;have m2 := ZO n2;have m3 := ZO n3;have m4 := ZO n4;clear h n1 n2 n3 n4;go_enter Tryz.func90, Tryz.ntmps90;go_wp2;go_ret2;exact ⟨rfl, bw0⟩

def RetEs (N : Nat) (es : List Ed) (e : Ending) (w' : World) : Prop := ∃ a cap, e = .returned (.slice a (List.length es) cap) /\ Yo N w' a es

set_option maxHeartbeats 4000000 in
theorem xo (j : Jt) (k : Nat) (ea : Option Addr) (cap : Nat) (w : World) (hp : Yo L w ea j.ends) (hK : vQ j.kind j.ends) (hk : k < j.ends.length) :
  Calls Tryz.prog 106 #[.agg #[.int .i64 j.kind, .string j.name, .slice ea j.ends.length cap], .int .i64 k] w fun e w' => RetEs w.heap.size (ZP j k) e w' /\ Below w.heap.size w w' := by
 obtain ⟨kd, nm, es⟩ := j;obtain ⟨⟨hk1, hk4⟩, hlen⟩ := hK;dsimp only at hk1 hk4 hlen hp hk ⊢
 have h4 : kd = 1 \/ kd = 2 \/ kd = 3 \/ kd = 4 := by omega
 clear hk1 hk4
 rcases h4 with rfl | rfl | rfl | rfl
 ·match es, hlen, hp, hk with
  | [a], _, hp, hk =>
   clear hlen;obtain ⟨B, off, rfl, hbs, x0, y0⟩ := hp 0 (by simp)
   simp at x0 y0 hk
   obtain rfl : k = 0 := by omega
   go_enter Tryz.func106, Tryz.ntmps106;go_wp2;go_ret;exact ⟨⟨none, 0, by simp [ZP], fun i hi => by simp [ZP] at hi⟩, bw0⟩
 ·match es, hlen, hp, hk with
  | [a, b], _, hp, hk =>
   clear hlen;obtain ⟨B, off, rfl, hbs, x0, y0⟩ := hp 0 (by simp);obtain ⟨B1, off1, hq1, hbs1, x1, y1⟩ := hp 1 (by simp)
   obtain ⟨rfl, rfl⟩ : B = B1 /\ off = off1 := by simpa using hq1
   clear hq1
   simp at x0 y0 x1 y1 hk
   have hk' : k = 0 \/ k = 1 := by omega
   rcases hk' with rfl | rfl
   all_goals
    go_enter Tryz.func106, Tryz.ntmps106;go_wp2;go_ret;refine ⟨⟨some ⟨w.heap.size + 1, 0, none⟩, 1, by simp [ZP], fun i hi => ?_⟩, bw0⟩
    have hi' : i = 0 := by simp [ZP] at hi; omega
    subst hi'; refine ⟨w.heap.size + 1, 0, rfl, ⟨by omega, by simp⟩, ?_, ?_⟩ <;> simp [ZP, Zv]
 ·match es, hlen, hp, hk with
  | [a, b, c], _, hp, hk =>
   clear hlen;obtain ⟨B, off, rfl, hbs, x0, y0⟩ := hp 0 (by simp);obtain ⟨B1, off1, hq1, hbs1, x1, y1⟩ := hp 1 (by simp)
   obtain ⟨rfl, rfl⟩ : B = B1 /\ off = off1 := by simpa using hq1
   clear hq1;obtain ⟨B2, off2, hq2, hbs2, x2, y2⟩ := hp 2 (by simp)
   obtain ⟨rfl, rfl⟩ : B = B2 /\ off = off2 := by simpa using hq2
   clear hq2
   simp at x0 y0 x1 y1 x2 y2 hk
   have hk' : k = 0 \/ k = 1 \/ k = 2 := by omega
   rcases hk' with rfl | rfl | rfl
   ·go_enter Tryz.func106, Tryz.ntmps106;go_wp2
    go_region
    go_wp2;go_ret;refine ⟨⟨some ⟨w.heap.size + 1, 0, none⟩, 2, by simp [ZP], fun i hi => ?_⟩, bw0⟩
    have hi' : i = 0 \/ i = 1 := by simp [ZP] at hi; omega
    rcases hi' with rfl | rfl <;> refine ⟨w.heap.size + 1, 0, rfl, ⟨by omega, by simp⟩, ?_, ?_⟩ <;> simp [ZP, Zv]
   all_goals
    go_enter Tryz.func106, Tryz.ntmps106;go_wp2;go_ret;refine ⟨⟨some ⟨w.heap.size + 1, 0, none⟩, 1, by simp [ZP], fun i hi => ?_⟩, bw0⟩
    have hi' : i = 0 := by simp [ZP] at hi; omega
    subst hi'; refine ⟨w.heap.size + 1, 0, rfl, ⟨by omega, by simp⟩, ?_, ?_⟩ <;> simp [ZP, Zv]
 ·match es, hlen, hp, hk with
  | [a, b, c, d], _, hp, hk =>
   clear hlen;obtain ⟨B, off, rfl, hbs, x0, y0⟩ := hp 0 (by simp);obtain ⟨B1, off1, hq1, hbs1, x1, y1⟩ := hp 1 (by simp)
   obtain ⟨rfl, rfl⟩ : B = B1 /\ off = off1 := by simpa using hq1
   clear hq1;obtain ⟨B2, off2, hq2, hbs2, x2, y2⟩ := hp 2 (by simp)
   obtain ⟨rfl, rfl⟩ : B = B2 /\ off = off2 := by simpa using hq2
   clear hq2;obtain ⟨B3, off3, hq3, hbs3, x3, y3⟩ := hp 3 (by simp)
   obtain ⟨rfl, rfl⟩ : B = B3 /\ off = off3 := by simpa using hq3
   clear hq3
   simp at x0 y0 x1 y1 x2 y2 x3 y3 hk
   have hk' : k = 0 \/ k = 1 \/ k = 2 \/ k = 3 := by omega
   rcases hk' with rfl | rfl | rfl | rfl
   all_goals
    go_enter Tryz.func106, Tryz.ntmps106;go_wp2
    go_region
    go_wp2;go_ret;refine ⟨⟨some ⟨w.heap.size + 1 + 1, 0, none⟩, 1, by simp [ZP], fun i hi => ?_⟩, bw0⟩
    have hi' : i = 0 := by simp [ZP] at hi; omega
    subst hi'; refine ⟨w.heap.size + 1 + 1, 0, rfl, ⟨by omega, by simp⟩, ?_, ?_⟩ <;> simp [ZP, Zv] <;> first | exact (zp _ _ _ (by simp)).2.1 0 _ rfl | exact (zp _ _ _ (by simp)).2.1 1 _ rfl

structure zr (n : Nt) : Prop where
  fits : ∀ i (h : i < n.joints.length), Xo n.pieces.length n.joints[i]
  once : ∀ p : Nat, p < n.pieces.length -> ∀ s : Int, s = 0 \/ s = 1 -> ZZ n.joints p s = 1
  np : n.pieces.length <= 100
  nj : n.joints.length <= 120
  lens : ∀ i (h : i < n.pieces.length), 1 <= n.pieces[i].len /\ n.pieces[i].len <= 10000000

theorem zr.kind (h : zr n) (hi : i < n.joints.length) : vQ n.joints[i].kind n.joints[i].ends := ⟨(h.fits i hi).1, (h.fits i hi).2.1⟩
theorem zr.ends (h : zr n) : ∀ i (hi : i < n.joints.length), n.joints[i].ends.length <= 1048576 := fun i hi => by
  have h1 := (h.fits i hi).2.1;have h2 := (h.fits i hi).1.2;omega
theorem zr.hd (h : zr n) (h0 : 0 <= p) (h1 : p < n.pieces.length) (y : Int) : ZZ n.joints (hd p y).piece (hd p y).side = 1 := by
  obtain ⟨pn, rfl⟩ := Int.eq_ofNat_of_zero_le h0;have := h.once pn (by omega) (Go.Proofs.YthdioeofdofleaaGreatDoor.hd pn y).side (by unfold Go.Proofs.YthdioeofdofleaaGreatDoor.hd; dsimp only; split <;> simp)
  simpa [Go.Proofs.YthdioeofdofleaaGreatDoor.hd] using this
theorem zr.len (h : zr n) (h0 : 0 <= p) (h1 : p < n.pieces.length) : 1 <= lenOf n p /\ lenOf n p <= 10000000 := by
  have := h.lens p.toNat (by omega);unfold lenOf;rw [List.getElem?_eq_getElem (show p.toNat < n.pieces.length by omega)]
  simpa using this

theorem Zu (h : Zz n 0 0) : zr n := by
  have hF := (vG h).2;unfold Zz at h
  by_cases ho : n.pieces.length = 0 \/ 100 < n.pieces.length \/ 120 < n.joints.length
  · have := (h.1 ho).1; omega
  · obtain ⟨r2, r3, r4, r5, h2, h2a, h2b⟩ := h.2 ho
    by_cases e2 : r2 = -1
    · obtain ⟨h3, h3a, h3b⟩ := h2b e2
      by_cases e3 : r3 = -1
      · obtain ⟨h4, h4a, h4b⟩ := h3b e3
        by_cases e4 : r4 = -1
        · obtain ⟨h5, h5a, h5b⟩ := h4b e4
          by_cases e5 : r5 = -1
          · subst e2 e5
            have g2 : ∀ k, k < n.pieces.length -> ¬ ve n.pieces k := by
              rcases h2 with ⟨_, g⟩ | ⟨i, _, hi, _⟩
              · exact g
              · omega
            have g5 : ∀ k, k < n.pieces.length -> ¬ Bad5 n.joints k := by
              rcases h5 with ⟨_, g⟩ | ⟨i, _, hi, _⟩
              · exact g
              · omega
            refine ⟨hF, fun p hp s hs => ?_, by omega, by omega, fun i hi => ?_⟩
            · have := g5 p hp
              unfold Bad5 at this
              rcases hs with rfl | rfl
              · exact Classical.byContradiction fun hc => this (Or.inl hc)
              · exact Classical.byContradiction fun hc => this (Or.inr hc)
            · have := g2 i hi
              exact Classical.byContradiction fun hc => this ⟨hi, Or.inl fun hf => hc hf.2.1⟩
          · have := (h5a e5).1; omega
        · have := (h4a e4).1; omega
      · have := (h3a e3).1; omega
    · have := (h2a e2).1; omega

set_option maxHeartbeats 2000000 in
theorem VZ (v : Value) (n : Nt) (a b : St) (w : World) (hv : zE L w v n) (hG : zr n) (ha : zy n a) (hb : zy n b) :
    Calls Tryz.prog 88 #[v, .agg #[.int .i64 a.piece, .int .i64 a.way], .agg #[.int .i64 b.piece, .int .i64 b.way]] w fun e w' => yG (Joined n a b) e /\ Below w.heap.size w w' := by
  have hvv := hv;obtain ⟨x, c, ca, cc, rfl, hp, hj⟩ := hv;obtain ⟨i0, k0, hst⟩ := yk (hG.hd ha.1.1 ha.1.2 a.way)
  have hJ : Joined n a b ↔ ∃ h : i0 < n.joints.length, hd b.piece (-b.way) ∈ ZP n.joints[i0] k0 := by
    constructor
    · rintro ⟨i, k, h, h1, h2⟩
      obtain ⟨rfl, rfl⟩ := zQ (hG.hd ha.1.1 ha.1.2 a.way) hst h1;exact ⟨h, h2⟩
    · rintro ⟨h, h2⟩
      exact ⟨i0, k0, h, hst, h2⟩
  have HJ := zd hJ;have hneg : IntKind.i64.wrap (-b.way) = -b.way := zj (by have := hb.2; omega) (by have := hb.2; omega);clear hJ;obtain ⟨ap, ay⟩ := a;obtain ⟨bp, by_⟩ := b;dsimp only at hst hneg ⊢;have HST := zd hst;clear hst;go_enter Tryz.func88, Tryz.ntmps88;go_wp2_with fail
  go_region_held3 (fun w' => w'.cell? ⟨w.heap.size, 0, none⟩ = some (.slice x n.pieces.length ca) /\ w'.cell? ⟨w.heap.size, 1, none⟩ = some (.slice c n.joints.length cc)
      /\ w'.cell? ⟨w.heap.size + 1, 0, none⟩ = some (.int .i64 ap) /\ w'.cell? ⟨w.heap.size + 1, 1, none⟩ = some (.int .i64 ay))
    (((try dsimp only); (repeat' apply And.intro)) <;> (go_keep; done))
    (first
      | (go_at_call 69; refine (yW _ _ _).mono ?_; rintro e w1 ⟨rfl, hb1⟩; obtain ⟨hc1, hf1⟩ := yT hb1; have q0 := hc1 w.heap.size 0 (by simp <;> omega); have q1 := hc1 w.heap.size 1 (by simp <;> omega); have q2 := hc1 (w.heap.size + 1) 0 (by simp <;> omega); have q3 := hc1 (w.heap.size + 1) 1 (by simp <;> omega))
      | (go_at_call 105; refine (xM _ n _ _ _ (hvv.below (below_then bw0 hb1)) (by have := hG.nj; omega) hG.ends ⟨_, _, za HST⟩).mono ?_; rintro e w2 ⟨i1, k1, rfl, hs1, hb2⟩; obtain ⟨hc2, hf2⟩ := yT hb2; have r0 := hc2 w.heap.size 0 (by have := hb1.size; simp at this ⊢; omega); have r1 := hc2 w.heap.size 1 (by have := hb1.size; simp at this ⊢; omega); have r2 := hc2 (w.heap.size + 1) 0 (by have := hb1.size; simp at this ⊢; omega); have r3 := hc2 (w.heap.size + 1) 1 (by have := hb1.size; simp at this ⊢; omega)))
  have hbw2 : Below w.heap.size w w2 := below_then (below_then bw0 hb1) hb2;have hBn : zg w2 w.heap.size [.slice x n.pieces.length ca, .slice c n.joints.length cc] := (((zf w #[.slice x n.pieces.length ca, .slice c n.joints.length cc] 26).below bw0).below hb1).below hb2;have hBb : zg w2 (w.heap.size + 1 + 1) [.int .i64 bp, .int .i64 by_] := (((zp _ #[.int .i64 bp, .int .i64 by_] 87 (N := w.heap.size + 1 + 1) (by simp)).below (Below.drew (Below.refl _ _))).below hb1).below hb2;obtain ⟨rfl, rfl⟩ := zQ (hG.hd ha.1.1 ha.1.2 ay) (za HST) hs1;clear hc1 hf1 hc2 hf2 hb1 hb2;have s0 := hBb.2.1 0 _ rfl;have s1 := hBb.2.1 1 _ rfl;obtain ⟨hi0, hk0, he0⟩ := hs1;clear he0;go_wp2_with fail;refine (yW _ _ _).mono ?_;rintro e w3 ⟨rfl, hb3⟩;have hbw3 := below_then hbw2 hb3;have hBn3 := hBn.below hb3;have t1 := hBn3.2.1 1 _ rfl;have hsz3 := hbw3.size;have nn3 := hBn3.1;obtain ⟨jb, joff, ea, ec, rfl, hjb, c0, c1, c2, hes⟩ := hj.below hbw3 i0 hi0;have hb3w : Below w3.heap.size w3 (w3.alloc (.cells #[.int .i64 (hd bp (-by_)).piece, .int .i64 (hd bp (-by_)).side] 156)) := bw0;have hes' := hes.below hb3w;go_wp2_with fail;refine (xo n.joints[i0] k0 ea ec _ hes' (hG.kind hi0) hk0).mono ?_;rintro e w4 ⟨⟨aa, acap, rfl, hea⟩, hb4⟩;have hbw4 := below_then hbw3 (below_then hb3w hb4);have hWt : zg w4 w3.heap.size [.int .i64 (hd bp (-by_)).piece, .int .i64 (hd bp (-by_)).side] := (zf _ _ _).below hb4
  generalize hac : ZP n.joints[i0] k0 = ac at *
  generalize hhd : hd bp (-by_) = want at *
  obtain ⟨wp, wsd⟩ := want;dsimp only at hWt;have HAC := zd hac;have HHD := zd hhd;clear hac hhd
  have hJ2 : Hid (Joined n ⟨ap, ay⟩ ⟨bp, by_⟩ ↔ ∃ k, ∃ h : k < ac.length, ac[k] = ⟨wp, wsd⟩) := by
    refine (za HJ).trans ⟨fun ⟨h, hm⟩ => ?_, fun ⟨k, h, hm⟩ => ?_⟩
    · rw [za HAC] at hm
      obtain ⟨k, h, he⟩ := List.getElem_of_mem hm;exact ⟨k, h, he⟩
    · refine ⟨hi0, ?_⟩
      rw [za HAC, ← hm];exact List.getElem_mem h
  have hacl : ac.length <= 2 := by
    rw [← za HAC];unfold ZP
    split
    · simp
    · split
      · split <;> simp
      · split <;> simp
  clear HJ t1 s0 s1 c0 c1 c2;go_wp2_with fail
  go_loopw [36] (fun z wr => ∃ k : Nat, k <= ac.length /\ z = .int .i64 k /\ (∀ q (h : q < ac.length), q < k -> ac[q] ≠ ⟨wp, wsd⟩) /\ zg wr w3.heap.size [.int .i64 wp, .int .i64 wsd] /\ Below w4.heap.size w4 wr) (fun z _ => ac.length - (intOf z).toNat)
  case atStart => exact ⟨0, Nat.zero_le _, rfl, fun q h h' => by omega, hWt, Below.refl _ _⟩
  case round =>
    obtain ⟨k, hk, rfl, hno, hW, hb⟩ := hrel;have d0 := hW.2.1 0 _ rfl;have d1 := hW.2.1 1 _ rfl;have n3 := hW.1;have hsz4 := hb.size
    by_cases hlt : k < ac.length
    · obtain ⟨b2, off2, rfl, hbs2, e0, e1⟩ := hea.below hb k hlt
      have HNO := zd hno;clear hno
      generalize hx : ac[k] = ed at *
      obtain ⟨p0, q0⟩ := ed;dsimp only at e0 e1;have HX := zd hx;clear hx
      by_cases hE : p0 = wp /\ q0 = wsd
      · obtain ⟨rfl, rfl⟩ := hE
        go_wp2;go_ret;exact ⟨zA ((za hJ2).2 ⟨k, hlt, za HX⟩), below_then hbw4 (ZW hb)⟩
      · have HE := zd hE
        clear hE;go_wp2
        all_goals first
          | (exfalso; exact za HE ⟨by assumption, by assumption⟩)
          | (refine ⟨⟨k + 1, by omega, by go_num, fun q h h' => ?_, hW.below bw0, Below.alloc hb hb.size _⟩, by simp [intOf]; omega⟩
             by_cases e : q = k
             · subst e
               rw [za HX];intro hc
               simp at hc
               exact za HE hc
             · exact za HNO q h (by omega))
    · go_wp2
      go_ret;refine ⟨zk fun hJ3 => ?_, below_then hbw4 hb⟩;obtain ⟨q, h, he⟩ := (za hJ2).1 hJ3;exact hno q h (by omega) he

def Yb (L : Nat) (w : World) (a : Option Addr) (ps : List Pt) : Prop :=
 ∀ i (h : i < ps.length), ∃ b off, a = some ⟨b, off, none⟩ /\ (L <= b /\ b < w.heap.size) /\ w.cell? ⟨b, off + i * 3, none⟩ = some (.int .i64 ps[i].piece) /\ w.cell? ⟨b, off + i * 3 + 1, none⟩ = some (.int .i64 ps[i].fr) /\ w.cell? ⟨b, off + i * 3 + 2, none⟩ = some (.int .i64 ps[i].to)
theorem Yb.keeps (h : Yb L w a ps) (hk : yH L w w') : Yb L w' a ps := by
 intro i hi;obtain ⟨b, off, ha, hlt, c0, c1, c2⟩ := h i hi;exact ⟨b, off, ha, ⟨hlt.1, Nat.lt_of_lt_of_le hlt.2 hk.1⟩, by rw [hk.cell hlt]; exact c0, by rw [hk.cell hlt]; exact c1, by rw [hk.cell hlt]; exact c2⟩
theorem Yb.below (h : Yb L w a ps) (hb : Below w.heap.size w w') : Yb L w' a ps := h.keeps (zT L hb)

theorem zg.onlyS (h : zg w N vs) (ho : zP S w w') (hN : ¬ S N) : zg w' N vs := by
 have hb := ho.block N h.1 hN;exact ⟨Nat.lt_of_lt_of_le h.1 ho.size, fun i v hi => by rw [World.cell?_of_block (w := w) (a := ⟨N, i, none⟩) hb]; exact h.2.1 i v hi, fun i => by rw [World.frozen?_of_block (w := w) (a := ⟨N, i, none⟩) hb]; exact h.2.2 i⟩

theorem zV.only {α : Type} {e : TypeId} {f : α -> List Value} {xs : List α} (h : zV w base e sz f v xs) (ho : zP S w w') (hS : ∀ k, v.ownBlock = some k -> ¬ S k) : zV w' base e sz f v xs :=
 h.block fun k hk => ho.block k (h.lt k hk).2 (hS k hk)

theorem zV.own {α : Type} {e : TypeId} {f : α -> List Value} {cap : Nat} {xs : List α} (h : zV w base e sz f (.slice a m cap) xs) : OwnL w a (xs.length * sz) (fun j => ((xs.flatMap f)[j]?).getD undef) := by
 intro hpos;obtain ⟨hlen, ⟨hv, h0⟩ | ⟨g, cap', cur, hv, hb, hh, hc1, hc2, hc3, hc4⟩⟩ := h
 ·rw [h0] at hpos;omega
 ·simp at hv
  obtain ⟨rfl, _, _⟩ := hv
  have hlt : g < w.heap.size := by
   by_cases hlt : g < w.heap.size
   ·exact hlt
   ·rw [Array.getElem?_eq_none (by omega)] at hh
    simp at hh
  refine ⟨g, 0, rfl, hlt, fun j hj => ⟨?_, ?_⟩⟩
  ·unfold World.cell?;rw [hh]
   have hle : xs.length * sz <= cur.size := by rw [hc3]; exact Nat.mul_le_mul_right _ hc1
   have h1 : (xs.flatMap f)[j]? = cur[j]? := by
    rw [← hc4]
    simp [hj]
   show _ = some (((xs.flatMap f)[j]?).getD undef)
   rw [h1]
   simp [show j < cur.size by omega]
  ·unfold World.frozen?;rw [hh]
   simp

theorem OwnL.below (h : OwnL w a m f) (hb : Below w.heap.size w w') : OwnL w' a m f := fun hp => by
 obtain ⟨b, off, ha, hc⟩ := h hp;exact ⟨b, off, ha, hc.below hb⟩

theorem OwnL.only (h : OwnL w a m f) (ho : zP S w w') (hS : ∀ k, blk a k -> ¬ S k) : OwnL w' a m f := fun hp => by
 obtain ⟨b, off, ha, hc⟩ := h hp;exact ⟨b, off, ha, hc.of_block (ho.block b hc.1 (hS b ⟨b, off, ha, rfl⟩)) ho.size⟩

theorem vP.below (h : vP L U w v n) (hb : Below w.heap.size w w') (hU : U <= w.heap.size) : vP L U w' v n := h.stays (uY hb hU)

theorem YD.below (h : YD L U w a es) (hb : Below w.heap.size w w') (hU : U <= w.heap.size) : YD L U w' a es := h.stays (uY hb hU)

theorem YD.own (h : YD L U w a es) : ∃ f, OwnL w a (es.length * 2) f /\ ∀ k, blk a k -> L <= k /\ k < U := by
 obtain ⟨b, f, rfl, hb, hrow, _⟩ := h;refine ⟨f, fun _ => ⟨b, 0, rfl, own_row hrow⟩, fun k hk => ?_⟩;obtain ⟨b', off, ha, rfl⟩ := hk
 simp at ha
 obtain ⟨rfl, _⟩ := ha;exact hb

theorem zV.apart {α β : Type} {base' : Nat} {e e' : TypeId} {sz' : Nat} {f : α -> List Value} {f' : β -> List Value} {v' : Value} {xs : List α} {ys : List β} (h : zV w base e sz f v xs) (h' : zV w base' e' sz' f' v' ys) (hne : e ≠ e') :
  ∀ k, v.ownBlock = some k -> v'.ownBlock ≠ some k := by
 intro k hk hk';obtain ⟨_, ⟨rfl, _⟩ | ⟨g, cap, cur, rfl, _, hh, _⟩⟩ := h
 ·simp [Value.ownBlock] at hk
 ·obtain ⟨_, ⟨rfl, _⟩ | ⟨g', cap', cur', rfl, _, hh', _⟩⟩ := h'
  ·simp [Value.ownBlock] at hk'
  ·simp [Value.ownBlock] at hk hk'
   subst hk;subst hk';rw [hh] at hh'
   simp at hh'
   exact hne hh'.2
theorem zV.kept {α : Type} {e : TypeId} {f : α -> List Value} {xs : List α} {row : Option Nat} (h : zV w base e sz f v xs) (hg : w.grownBy w' row) (hne : ∀ k, v.ownBlock = some k -> row ≠ some k) : zV w' base e sz f v xs :=
 h.block fun k hk => hg.block k (h.lt k hk).2 (fun e => hne k hk e.symm)
theorem zg.grownE {row : Option Nat} (h : zg w N vs) (hg : w.grownBy w' row) (hne : row ≠ some N) : zg w' N vs := by
 have hb : w'.heap[N]? = w.heap[N]? := hg.block N h.1 (fun e => hne e.symm);exact ⟨Nat.lt_of_lt_of_le h.1 hg.size, fun i v hi => by rw [World.cell?_of_block (w := w) (a := ⟨N, i, none⟩) hb]; exact h.2.1 i v hi, fun i => by rw [World.frozen?_of_block (w := w) (a := ⟨N, i, none⟩) hb]; exact h.2.2 i⟩
end Go.Proofs.YthdioeofdofleaaGreatDoor
