import Derived.Test.YtjacbppeebnjfaaGreatMPlain
import Derived.Test.YtjacbppeebnjfaaGreatMRead
import Derived.Test.YtjacbppeebnjfaaGreatMEq
import Derived.BigQuiet
import Derived.Deep.RegionWith
namespace Go.Proofs.YtjacbppeebnjfaaGreat

structure St where
 piece : Int
 way : Int

structure Sp where
 piece : Int
 at_ : Int
 way : Int

structure Tr where
 front : Sp
 long : Int
 back : List St

structure Pt where
 piece : Int
 fr : Int
 to : Int

def inB (x a b : Int) : Bool := decide (a ≤ x ∧ x ≤ b)
theorem inB_true {x a b : Int} (h : a ≤ x ∧ x ≤ b) : inB x a b = true := by simp [inB, h]
theorem inB_false {x a b : Int} (h : ¬ (a ≤ x ∧ x ≤ b)) : inB x a b = false := by simp [inB]; omega

def lenOf (n : Nt) (p : Int) : Int := (n.pieces[p.toNat]?.map Pc.len).getD 0
def hd (p way : Int) : Ed := ⟨p, if way = 1 then 1 else 0⟩

def SpotOk (n : Nt) (s : Sp) : Prop := (0 ≤ s.piece ∧ s.piece < n.pieces.length) ∧ (s.way = 1 ∨ s.way = -1) ∧ (0 ≤ s.at_ ∧ s.at_ ≤ lenOf n s.piece)
def room (n : Nt) (s : Sp) : Int := if s.way = 1 then lenOf n s.piece - s.at_ else s.at_
def behind (n : Nt) (s : Sp) : Int := lenOf n s.piece - room n s

def StandsAt (js : List Jt) (e : Ed) (i k : Nat) : Prop := ∃ (h : i < js.length) (h' : k < js[i].ends.length), js[i].ends[k] = e

def endOf (j : Jt) (k : Nat) : Ed := j.ends.getD k ⟨0, 0⟩

def across (j : Jt) (k : Nat) : List Ed :=
 if j.kind = 2 then [endOf j (1 - k)]
 else if j.kind = 3 then (if k = 0 then [endOf j 1, endOf j 2] else [endOf j 0])
 else if j.kind = 4 then [endOf j (if k = 0 then 1 else if k = 1 then 0 else if k = 2 then 3 else 2)]
 else []

def Joined (n : Nt) (a b : St) : Prop := ∃ i k, ∃ h : i < n.joints.length, StandsAt n.joints (hd a.piece a.way) i k ∧ hd b.piece (-b.way) ∈ across n.joints[i] k

def StepOk (n : Nt) (s : St) : Prop := (0 ≤ s.piece ∧ s.piece < n.pieces.length) ∧ (s.way = 1 ∨ s.way = -1)

def BackOk (n : Nt) (long : Int) : Int → St → List St → Prop
 | have_, _, [] => long ≤ have_
 | have_, ahead, s :: r => StepOk n s ∧ have_ < long ∧ Joined n s ahead ∧ BackOk n long (have_ + lenOf n s.piece) s r

def TrainFits (n : Nt) (t : Tr) : Prop :=
 SpotOk n t.front ∧ (1 ≤ t.long ∧ t.long ≤ 100000) ∧ t.back.length ≤ 200 ∧ BackOk n t.long (behind n t.front) ⟨t.front.piece, t.front.way⟩ t.back
def TrainRight (n : Nt) (t : Tr) : Prop := NetRes n 0 0 ∧ TrainFits n t

theorem usesIn_pos {es : List Ed} {e : Ed} {k : Nat} (h : k < es.length) (he : es[k] = e) : 1 ≤ usesIn es e.piece e.side := by
 unfold usesIn
 apply List.one_le_countP_iff.2
 exact ⟨es[k], List.getElem_mem h, by rw [he]; simp [isEd]⟩

theorem usesIn_two {es : List Ed} {e : Ed} {k k' : Nat} (h : k < es.length) (h' : k' < es.length) (he : es[k] = e) (he' : es[k'] = e) (hne : k < k') : 2 ≤ usesIn es e.piece e.side := by
 have h1 : usesIn es e.piece e.side = usesIn (es.take k') e.piece e.side + usesIn (es.drop k') e.piece e.side := by
  unfold usesIn
  rw [← List.countP_append, List.take_append_drop]
 have h2 : 1 ≤ usesIn (es.take k') e.piece e.side := usesIn_pos (k := k) (by simp; omega) (by simpa using he)
 have h3 : 1 ≤ usesIn (es.drop k') e.piece e.side := usesIn_pos (k := 0) (by simp; omega) (by simpa using he')
 omega

theorem uses_ge {js : List Jt} {p s : Int} {i : Nat} (h : i < js.length) : usesIn js[i].ends p s ≤ uses js p s := by
 induction js generalizing i with
 | nil => simp at h
 | cons j r ih =>
  cases i with
  | zero => simp [uses]
  | succ i =>
   have := ih (i := i) (by simpa using h)
   simp [uses] at this ⊢
   omega

theorem uses_two {js : List Jt} {p s : Int} {i i' : Nat} (h : i < js.length) (h' : i' < js.length) (hne : i < i') : usesIn js[i].ends p s + usesIn js[i'].ends p s ≤ uses js p s := by
 induction js generalizing i i' with
 | nil => simp at h
 | cons j r ih =>
  cases i with
  | zero =>
   cases i' with
   | zero => omega
   | succ i' =>
    have := uses_ge (js := r) (p := p) (s := s) (i := i') (by simpa using h')
    simp [uses] at this ⊢
    omega
  | succ i =>
   cases i' with
   | zero => omega
   | succ i' =>
    have := ih (i := i) (i' := i') (by simpa using h) (by simpa using h') (by omega)
    simp [uses] at this ⊢
    omega

theorem stands_unique {js : List Jt} {e : Ed} (hu : uses js e.piece e.side = 1) {i k i' k' : Nat} (h : StandsAt js e i k) (g : StandsAt js e i' k') : i = i' ∧ k = k' := by
 obtain ⟨hi, hk, he⟩ := h
 obtain ⟨gi, gk, ge⟩ := g
 have h1 := usesIn_pos hk he
 have h2 := usesIn_pos gk ge
 rcases Nat.lt_trichotomy i i' with hlt | rfl | hgt
 ·have := uses_two (p := e.piece) (s := e.side) hi gi hlt; omega
 ·rcases Nat.lt_trichotomy k k' with klt | rfl | kgt
  ·have := usesIn_two hk gk he ge klt; have := uses_ge (p := e.piece) (s := e.side) hi; omega
  ·exact ⟨rfl, rfl⟩
  ·have := usesIn_two gk hk ge he kgt; have := uses_ge (p := e.piece) (s := e.side) hi; omega
 ·have := uses_two (p := e.piece) (s := e.side) gi hi hgt; omega

theorem stands_some {js : List Jt} {e : Ed} (hu : uses js e.piece e.side = 1) : ∃ i k, StandsAt js e i k := by
 induction js with
 | nil => simp [uses] at hu
 | cons j r ih =>
  by_cases hj : usesIn j.ends e.piece e.side = 0
  ·have : uses r e.piece e.side = 1 := by simp [uses] at hu ⊢; omega
   obtain ⟨i, k, hi, hk, he⟩ := ih this
   exact ⟨i + 1, k, by simpa using hi, by simpa using hk, by simpa using he⟩
  ·have : 0 < j.ends.countP (isEd e.piece e.side) := by unfold usesIn at hj; omega
   obtain ⟨x, hx, hxe⟩ := List.countP_pos_iff.1 this
   obtain ⟨k, hk, hxk⟩ := List.getElem_of_mem hx
   refine ⟨0, k, by simp, by simpa using hk, ?_⟩
   simp [isEd] at hxe
   have : x = e := by cases x; cases e; simp_all
   simpa [this] using hxk

end Go.Proofs.YtjacbppeebnjfaaGreat

namespace Go.Proofs.YtjacbppeebnjfaaGreat
open Go.RowKit

def StsAt (L : Nat) (w : World) (a : Option Addr) (es : List St) : Prop :=
 ∀ i (h : i < es.length), ∃ b off, a = some ⟨b, off, none⟩ ∧ (L ≤ b ∧ b < w.heap.size) ∧ w.cell? ⟨b, off + i * 2, none⟩ = some (.int .i64 es[i].piece) ∧ w.cell? ⟨b, off + i * 2 + 1, none⟩ = some (.int .i64 es[i].way)

theorem StsAt.keeps {L : Nat} {w w' : World} {a : Option Addr} {es : List St} (h : StsAt L w a es) (hk : Keeps L w w') : StsAt L w' a es := by
 intro i hi
 obtain ⟨b, off, ha, hlt, c0, c1⟩ := h i hi
 exact ⟨b, off, ha, ⟨hlt.1, Nat.lt_of_lt_of_le hlt.2 hk.1⟩, by rw [hk.cell hlt]; exact c0, by rw [hk.cell hlt]; exact c1⟩

theorem StsAt.below {L : Nat} {w w' : World} {a : Option Addr} {es : List St} (h : StsAt L w a es) (hb : Below w.heap.size w w') : StsAt L w' a es := h.keeps (keeps_below L hb)

theorem StsAt.mono {L L' : Nat} {w : World} {a : Option Addr} {es : List St} (h : StsAt L w a es) (hL : L' ≤ L) : StsAt L' w a es := by
 intro i hi
 obtain ⟨b, off, ha, hlt, r⟩ := h i hi
 exact ⟨b, off, ha, ⟨Nat.le_trans hL hlt.1, hlt.2⟩, r⟩

def rowSt (es : List St) (f : Nat → Value) (k : Nat) : Prop :=
 ∀ i (h : i < es.length), i < k → f (i * 2) = .int .i64 es[i].piece ∧ f (i * 2 + 1) = .int .i64 es[i].way

def StsOwn (L U : Nat) (w : World) (a : Option Addr) (es : List St) : Prop :=
 ∃ b f, a = some ⟨b, 0, none⟩ ∧ (L ≤ b ∧ b < U) ∧ w.rowIs b 67 (es.length * 2) f ∧ rowSt es f es.length

theorem StsOwn.at {L U : Nat} {w : World} {a : Option Addr} {es : List St} (h : StsOwn L U w a es) : StsAt L w a es := by
 obtain ⟨b, f, rfl, hb, hrow, hf⟩ := h
 intro i hi
 obtain ⟨e0, e1⟩ := hf i hi hi
 refine ⟨b, 0, rfl, ⟨hb.1, hrow.lt⟩, ?_, ?_⟩
 ·rw [← e0, hrow.cell (by omega)]; simp
 ·rw [← e1, hrow.cell (by omega)]; simp

theorem StsOwn.stays {L U : Nat} {w w' : World} {a : Option Addr} {es : List St} (h : StsOwn L U w a es) (hk : Stays L U w w') : StsOwn L U w' a es := by
 obtain ⟨b, f, ha, hb, hrow, hf⟩ := h
 exact ⟨b, f, ha, hb, hrow.of_block (hk b hb.1 hb.2), hf⟩

theorem StsOwn.mono {L U L' U' : Nat} {w : World} {a : Option Addr} {es : List St} (h : StsOwn L U w a es) (hL : L' ≤ L) (hU : U ≤ U') : StsOwn L' U' w a es := by
 obtain ⟨b, f, ha, hb, r⟩ := h
 exact ⟨b, f, ha, ⟨by omega, by omega⟩, r⟩

theorem info_Step : (Tryz.prog.info? 67).map (fun i => (i.zero, i.size, i.bytes)) = some (some (.agg #[.int .i64 0, .int .i64 0]), 2, 16) := by kernel_rfl

def TrAt (L : Nat) (w : World) (v : Value) (t : Tr) : Prop :=
 ∃ a cap, v = .agg #[.int .i64 t.front.piece, .int .i64 t.front.at_, .int .i64 t.front.way, .int .i64 t.long, .slice a t.back.length cap] ∧ StsAt L w a t.back
def TrOwn (L U : Nat) (w : World) (v : Value) (t : Tr) : Prop :=
 ∃ a, v = .agg #[.int .i64 t.front.piece, .int .i64 t.front.at_, .int .i64 t.front.way, .int .i64 t.long, .slice a t.back.length t.back.length] ∧ StsOwn L U w a t.back
theorem TrAt.keeps {L : Nat} {w w' : World} {v : Value} {t : Tr} (h : TrAt L w v t) (hk : Keeps L w w') : TrAt L w' v t := by
 obtain ⟨a, cap, hv, hs⟩ := h
 exact ⟨a, cap, hv, hs.keeps hk⟩
theorem TrAt.below {L : Nat} {w w' : World} {v : Value} {t : Tr} (h : TrAt L w v t) (hb : Below w.heap.size w w') : TrAt L w' v t := h.keeps (keeps_below L hb)
theorem TrOwn.at {L U : Nat} {w : World} {v : Value} {t : Tr} (h : TrOwn L U w v t) : TrAt L w v t := by
 obtain ⟨a, hv, hs⟩ := h
 exact ⟨a, _, hv, hs.at⟩
theorem TrOwn.stays {L U : Nat} {w w' : World} {v : Value} {t : Tr} (h : TrOwn L U w v t) (hk : Stays L U w w') : TrOwn L U w' v t := by
 obtain ⟨a, hv, hs⟩ := h
 exact ⟨a, hv, hs.stays hk⟩

end Go.Proofs.YtjacbppeebnjfaaGreat

namespace Go.Proofs.YtjacbppeebnjfaaGreat
open Go.RowKit

def PtsAt (L : Nat) (w : World) (a : Option Addr) (ps : List Pt) : Prop :=
 ∀ i (h : i < ps.length), ∃ b off, a = some ⟨b, off, none⟩ ∧ (L ≤ b ∧ b < w.heap.size) ∧ w.cell? ⟨b, off + i * 3, none⟩ = some (.int .i64 ps[i].piece) ∧ w.cell? ⟨b, off + i * 3 + 1, none⟩ = some (.int .i64 ps[i].fr) ∧ w.cell? ⟨b, off + i * 3 + 2, none⟩ = some (.int .i64 ps[i].to)
theorem PtsAt.keeps {L : Nat} {w w' : World} {a : Option Addr} {ps : List Pt} (h : PtsAt L w a ps) (hk : Keeps L w w') : PtsAt L w' a ps := by
 intro i hi
 obtain ⟨b, off, ha, hlt, c0, c1, c2⟩ := h i hi
 exact ⟨b, off, ha, ⟨hlt.1, Nat.lt_of_lt_of_le hlt.2 hk.1⟩, by rw [hk.cell hlt]; exact c0, by rw [hk.cell hlt]; exact c1, by rw [hk.cell hlt]; exact c2⟩
theorem PtsAt.below {L : Nat} {w w' : World} {a : Option Addr} {ps : List Pt} (h : PtsAt L w a ps) (hb : Below w.heap.size w w') : PtsAt L w' a ps := h.keeps (keeps_below L hb)

end Go.Proofs.YtjacbppeebnjfaaGreat
namespace Go.Proofs.YtjacbppeebnjfaaGreat
open Go.RowKit

theorem Boxed.onlyS {S : Nat → Prop} {w w' : World} {N : Nat} {vs : List Value} (h : Boxed w N vs) (ho : Only S w w') (hN : ¬ S N) : Boxed w' N vs := by
 have hb := ho.block N h.1 hN
 exact ⟨Nat.lt_of_lt_of_le h.1 ho.size, fun i v hi => by rw [World.cell?_of_block (w := w) (a := ⟨N, i, none⟩) hb]; exact h.2.1 i v hi, fun i => by rw [World.frozen?_of_block (w := w) (a := ⟨N, i, none⟩) hb]; exact h.2.2 i⟩

theorem Row.only {α : Type} {S : Nat → Prop} {w w' : World} {base : Nat} {e : TypeId} {sz : Nat} {f : α → List Value} {v : Value} {xs : List α} (h : Row w base e sz f v xs) (ho : Only S w w') (hS : ∀ k, v.ownBlock = some k → ¬ S k) : Row w' base e sz f v xs :=
 h.block fun k hk => ho.block k (h.lt k hk).2 (hS k hk)

theorem Row.own {α : Type} {w : World} {base : Nat} {e : TypeId} {sz : Nat} {f : α → List Value} {a : Option Addr} {m cap : Nat} {xs : List α} (h : Row w base e sz f (.slice a m cap) xs) : OwnL w a (xs.length * sz) (fun j => ((xs.flatMap f)[j]?).getD undef) := by
 intro hpos
 obtain ⟨hlen, ⟨hv, h0⟩ | ⟨g, cap', cur, hv, hb, hh, hc1, hc2, hc3, hc4⟩⟩ := h
 ·rw [h0] at hpos
  omega
 ·simp at hv
  obtain ⟨rfl, _, _⟩ := hv
  have hlt : g < w.heap.size := by
   by_cases hlt : g < w.heap.size
   ·exact hlt
   ·rw [Array.getElem?_eq_none (by omega)] at hh
    simp at hh
  refine ⟨g, 0, rfl, hlt, fun j hj => ⟨?_, ?_⟩⟩
  ·unfold World.cell?
   rw [hh]
   have hle : xs.length * sz ≤ cur.size := by rw [hc3]; exact Nat.mul_le_mul_right _ hc1
   have h1 : (xs.flatMap f)[j]? = cur[j]? := by
    rw [← hc4]
    simp [hj]
   show _ = some (((xs.flatMap f)[j]?).getD undef)
   rw [h1]
   simp [show j < cur.size by omega]
  ·unfold World.frozen?
   rw [hh]
   simp

theorem OwnL.below {w w' : World} {a : Option Addr} {m : Nat} {f : Nat → Value} (h : OwnL w a m f) (hb : Below w.heap.size w w') : OwnL w' a m f := fun hp => by
 obtain ⟨b, off, ha, hc⟩ := h hp
 exact ⟨b, off, ha, hc.below hb⟩

theorem OwnL.only {S : Nat → Prop} {w w' : World} {a : Option Addr} {m : Nat} {f : Nat → Value} (h : OwnL w a m f) (ho : Only S w w') (hS : ∀ k, blk a k → ¬ S k) : OwnL w' a m f := fun hp => by
 obtain ⟨b, off, ha, hc⟩ := h hp
 exact ⟨b, off, ha, hc.of_block (ho.block b hc.1 (hS b ⟨b, off, ha, rfl⟩)) ho.size⟩

theorem NetOwn.below {L U : Nat} {w w' : World} {v : Value} {n : Nt} (h : NetOwn L U w v n) (hb : Below w.heap.size w w') (hU : U ≤ w.heap.size) : NetOwn L U w' v n := h.stays (stays_below hb hU)

theorem StsOwn.below {L U : Nat} {w w' : World} {a : Option Addr} {es : List St} (h : StsOwn L U w a es) (hb : Below w.heap.size w w') (hU : U ≤ w.heap.size) : StsOwn L U w' a es := h.stays (stays_below hb hU)

theorem StsOwn.own {L U : Nat} {w : World} {a : Option Addr} {es : List St} (h : StsOwn L U w a es) : ∃ f, OwnL w a (es.length * 2) f ∧ ∀ k, blk a k → L ≤ k ∧ k < U := by
 obtain ⟨b, f, rfl, hb, hrow, _⟩ := h
 refine ⟨f, fun _ => ⟨b, 0, rfl, own_row hrow⟩, fun k hk => ?_⟩
 obtain ⟨b', off, ha, rfl⟩ := hk
 simp at ha
 obtain ⟨rfl, _⟩ := ha
 exact hb

end Go.Proofs.YtjacbppeebnjfaaGreat

namespace Go.Proofs.YtjacbppeebnjfaaGreat
open Go.RowKit

theorem Row.apart {α β : Type} {w : World} {base base' : Nat} {e e' : TypeId} {sz sz' : Nat} {f : α → List Value} {f' : β → List Value} {v v' : Value} {xs : List α} {ys : List β} (h : Row w base e sz f v xs) (h' : Row w base' e' sz' f' v' ys) (hne : e ≠ e') :
  ∀ k, v.ownBlock = some k → v'.ownBlock ≠ some k := by
 intro k hk hk'
 obtain ⟨_, ⟨rfl, _⟩ | ⟨g, cap, cur, rfl, _, hh, _⟩⟩ := h
 ·simp [Value.ownBlock] at hk
 ·obtain ⟨_, ⟨rfl, _⟩ | ⟨g', cap', cur', rfl, _, hh', _⟩⟩ := h'
  ·simp [Value.ownBlock] at hk'
  ·simp [Value.ownBlock] at hk hk'
   subst hk
   subst hk'
   rw [hh] at hh'
   simp at hh'
   exact hne hh'.2
theorem Row.kept {α : Type} {w w' : World} {base : Nat} {e : TypeId} {sz : Nat} {f : α → List Value} {v : Value} {xs : List α} {row : Option Nat} (h : Row w base e sz f v xs) (hg : w.grownBy w' row) (hne : ∀ k, v.ownBlock = some k → row ≠ some k) : Row w' base e sz f v xs :=
 h.block fun k hk => hg.block k (h.lt k hk).2 (fun e => hne k hk e.symm)
theorem Boxed.grownE {w w' : World} {N : Nat} {vs : List Value} {row : Option Nat} (h : Boxed w N vs) (hg : w.grownBy w' row) (hne : row ≠ some N) : Boxed w' N vs := by
 have hb : w'.heap[N]? = w.heap[N]? := hg.block N h.1 (fun e => hne e.symm)
 exact ⟨Nat.lt_of_lt_of_le h.1 hg.size, fun i v hi => by rw [World.cell?_of_block (w := w) (a := ⟨N, i, none⟩) hb]; exact h.2.1 i v hi, fun i => by rw [World.frozen?_of_block (w := w) (a := ⟨N, i, none⟩) hb]; exact h.2.2 i⟩
end Go.Proofs.YtjacbppeebnjfaaGreat

