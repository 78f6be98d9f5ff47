import Derived.WalkKit
import Derived.Deep.OwnRows
import Derived.WideShapes
import Derived.Deep.Draws
import Derived.Test.YtjacbppeebnjfaaGreatRows
import Derived.Maps.OwnSet
import Derived.BigQuiet
import Derived.Deep.Quiet
namespace Go.Proofs.YtjacbppeebnjfaaGreat

structure Pc where
 name : ByteArray
 len : Int
 speed : Int
 brake : Int

structure Ed where
 piece : Int
 side : Int

structure Jt where
 kind : Int
 name : ByteArray
 ends : List Ed

structure Nt where
 pieces : List Pc
 joints : List Jt

def Ed.val (e : Ed) : Value := .agg #[.int .i64 e.piece, .int .i64 e.side]

def IsNmB (c : UInt8) : Prop := (97 ≤ c.toNat ∧ c.toNat ≤ 122) ∨ (48 ≤ c.toNat ∧ c.toNat ≤ 57) ∨ c.toNat = 95
def IsNm (s : ByteArray) : Prop := 1 ≤ s.size ∧ s.size ≤ 20 ∧ ∀ i (h : i < s.size), IsNmB s[i]
def PcFits (p : Pc) : Prop := IsNm p.name ∧ (1 ≤ p.len ∧ p.len ≤ 10000000) ∧ (1 ≤ p.speed ∧ p.speed ≤ 10000) ∧ (1 ≤ p.brake ∧ p.brake ≤ 1000)
def BadPc (ps : List Pc) (i : Nat) : Prop := ∃ h : i < ps.length, ¬ PcFits ps[i] ∨ ∃ k, ∃ hk : k < i, ps[k].name = ps[i].name
def EdFits (np : Nat) (e : Ed) : Prop := (0 ≤ e.piece ∧ e.piece < np) ∧ (0 ≤ e.side ∧ e.side ≤ 1)
def JtFits (np : Nat) (j : Jt) : Prop := (1 ≤ j.kind ∧ j.kind ≤ 4) ∧ (j.ends.length : Int) = j.kind ∧ ∀ i (h : i < j.ends.length), EdFits np j.ends[i]
def Bad3 (np : Nat) (js : List Jt) (i : Nat) : Prop := ∃ h : i < js.length, ¬ JtFits np js[i]
def NmFits (js : List Jt) (i : Nat) (h : i < js.length) : Prop :=
 (js[i].kind < 3 → js[i].name = ByteArray.empty) ∧ (¬ js[i].kind < 3 → IsNm js[i].name ∧ ∀ k (hk : k < i), js[k].name ≠ js[i].name)
def Bad4 (js : List Jt) (i : Nat) : Prop := ∃ h : i < js.length, ¬ NmFits js i h
def isEd (p s : Int) (x : Ed) : Bool := decide (x.piece = p) && decide (x.side = s)
def usesIn (es : List Ed) (p s : Int) : Nat := es.countP (isEd p s)
def uses (js : List Jt) (p s : Int) : Nat := (js.map fun j => usesIn j.ends p s).sum
def Bad5 (js : List Jt) (i : Nat) : Prop := uses js i 0 ≠ 1 ∨ uses js i 1 ≠ 1

theorem usesIn_succ (es : List Ed) (p s : Int) (k : Nat) (h : k < es.length) : usesIn (es.take (k + 1)) p s = usesIn (es.take k) p s + (if isEd p s es[k] = true then 1 else 0) := by
 unfold usesIn
 rw [List.take_succ_eq_append_getElem h, List.countP_append]
 simp [List.countP_cons]

theorem usesIn_le (es : List Ed) (p s : Int) : usesIn es p s ≤ es.length := List.countP_le_length

theorem uses_succ (js : List Jt) (p s : Int) (k : Nat) (h : k < js.length) : uses (js.take (k + 1)) p s = uses (js.take k) p s + usesIn js[k].ends p s := by
 unfold uses
 rw [List.take_succ_eq_append_getElem h, List.map_append, List.sum_append]
 simp only [List.map_cons, List.map_nil, List.sum_cons, List.sum_nil, Nat.add_zero]

theorem uses_le (js : List Jt) (p s : Int) (M : Nat) (hM : ∀ i (h : i < js.length), js[i].ends.length ≤ M) (k : Nat) (hk : k ≤ js.length) : uses (js.take k) p s ≤ k * M := by
 induction k with
 | zero => simp [uses]
 | succ k ih =>
  rw [uses_succ js p s k (by omega)]
  have := ih (by omega)
  have h2 := usesIn_le js[k].ends p s
  have h3 := hM k (by omega)
  rw [Nat.add_mul]
  omega

def IsFirst (p : Nat → Prop) (n : Nat) (r : Int) : Prop := (r = -1 ∧ ∀ k, k < n → ¬ p k) ∨ ∃ i : Nat, i < n ∧ r = i ∧ p i ∧ ∀ k, k < i → ¬ p k

theorem IsFirst.unique {p : Nat → Prop} {n : Nat} {r s : Int} (h : IsFirst p n r) (g : IsFirst p n s) : r = s := by
 rcases h with ⟨rfl, h⟩ | ⟨i, hi, rfl, pi, h⟩ <;> rcases g with ⟨rfl, g⟩ | ⟨j, hj, rfl, pj, g⟩
 ·rfl
 ·exact absurd pj (h j hj)
 ·exact absurd pi (g i hi)
 ·rcases Nat.lt_trichotomy i j with hlt | heq | hgt
  ·exact absurd pi (g i hlt)
  ·rw [heq]
  ·exact absurd pj (h j hgt)

def NetRes (n : Nt) (c a : Int) : Prop :=
 let out := n.pieces.length = 0 ∨ 100 < n.pieces.length ∨ 120 < n.joints.length
 (out → c = 1 ∧ a = 0) ∧ (¬ out → ∃ r2 r3 r4 r5 : Int, IsFirst (BadPc n.pieces) n.pieces.length r2 ∧
  (r2 ≠ -1 → c = 2 ∧ a = r2) ∧ (r2 = -1 → IsFirst (Bad3 n.pieces.length n.joints) n.joints.length r3 ∧
   (r3 ≠ -1 → c = 3 ∧ a = r3) ∧ (r3 = -1 → IsFirst (Bad4 n.joints) n.joints.length r4 ∧
    (r4 ≠ -1 → c = 4 ∧ a = r4) ∧ (r4 = -1 → IsFirst (Bad5 n.joints) n.pieces.length r5 ∧
     (r5 ≠ -1 → c = 5 ∧ a = r5) ∧ (r5 = -1 → c = 0 ∧ a = 0)))))

theorem NetRes.unique {n : Nt} {c a c' a' : Int} (h : NetRes n c a) (g : NetRes n c' a') : c = c' ∧ a = a' := by
 unfold NetRes at h g
 by_cases ho : n.pieces.length = 0 ∨ 100 < n.pieces.length ∨ 120 < n.joints.length
 ·obtain ⟨rfl, rfl⟩ := h.1 ho
  obtain ⟨rfl, rfl⟩ := g.1 ho
  exact ⟨rfl, rfl⟩
 ·obtain ⟨r2, r3, r4, r5, h2, h2a, h2b⟩ := h.2 ho
  obtain ⟨s2, s3, s4, s5, g2, g2a, g2b⟩ := g.2 ho
  obtain rfl := h2.unique g2
  by_cases e2 : r2 = -1
  ·obtain ⟨h3, h3a, h3b⟩ := h2b e2
   obtain ⟨g3, g3a, g3b⟩ := g2b e2
   obtain rfl := h3.unique g3
   by_cases e3 : r3 = -1
   ·obtain ⟨h4, h4a, h4b⟩ := h3b e3
    obtain ⟨g4, g4a, g4b⟩ := g3b e3
    obtain rfl := h4.unique g4
    by_cases e4 : r4 = -1
    ·obtain ⟨h5, h5a, h5b⟩ := h4b e4
     obtain ⟨g5, g5a, g5b⟩ := g4b e4
     obtain rfl := h5.unique g5
     by_cases e5 : r5 = -1
     ·obtain ⟨rfl, rfl⟩ := h5b e5
      obtain ⟨rfl, rfl⟩ := g5b e5
      exact ⟨rfl, rfl⟩
     ·obtain ⟨rfl, rfl⟩ := h5a e5
      obtain ⟨rfl, rfl⟩ := g5a e5
      exact ⟨rfl, rfl⟩
    ·obtain ⟨rfl, rfl⟩ := h4a e4
     obtain ⟨rfl, rfl⟩ := g4a e4
     exact ⟨rfl, rfl⟩
   ·obtain ⟨rfl, rfl⟩ := h3a e3
    obtain ⟨rfl, rfl⟩ := g3a e3
    exact ⟨rfl, rfl⟩
  ·obtain ⟨rfl, rfl⟩ := h2a e2
   obtain ⟨rfl, rfl⟩ := g2a e2
   exact ⟨rfl, rfl⟩

theorem first_of {p : Nat → Prop} {n i : Nat} (hi : i < n) (hp : p i) (h : ∀ k, k < i → ¬ p k) : IsFirst p n i := Or.inr ⟨i, hi, rfl, hp, h⟩
theorem none_of {p : Nat → Prop} {n : Nat} (h : ∀ k, k < n → ¬ p k) : IsFirst p n (-1) := Or.inl ⟨rfl, h⟩

theorem netRes1 {n : Nt} (h : n.pieces.length = 0 ∨ 100 < n.pieces.length ∨ 120 < n.joints.length) : NetRes n 1 0 := ⟨fun _ => ⟨rfl, rfl⟩, fun g => absurd h g⟩
theorem netRes2 {n : Nt} {r : Int} (h : ¬ (n.pieces.length = 0 ∨ 100 < n.pieces.length ∨ 120 < n.joints.length)) (h2 : IsFirst (BadPc n.pieces) n.pieces.length r) (hr : r ≠ -1) : NetRes n 2 r :=
 ⟨fun g => absurd g h, fun _ => ⟨r, 0, 0, 0, h2, fun _ => ⟨rfl, rfl⟩, fun e => absurd e hr⟩⟩
theorem netRes3 {n : Nt} {r : Int} (h : ¬ (n.pieces.length = 0 ∨ 100 < n.pieces.length ∨ 120 < n.joints.length)) (h2 : IsFirst (BadPc n.pieces) n.pieces.length (-1))
  (h3 : IsFirst (Bad3 n.pieces.length n.joints) n.joints.length r) (hr : r ≠ -1) : NetRes n 3 r :=
 ⟨fun g => absurd g h, fun _ => ⟨-1, r, 0, 0, h2, fun e => absurd rfl e, fun _ => ⟨h3, fun _ => ⟨rfl, rfl⟩, fun e => absurd e hr⟩⟩⟩
theorem netRes4 {n : Nt} {r : Int} (h : ¬ (n.pieces.length = 0 ∨ 100 < n.pieces.length ∨ 120 < n.joints.length)) (h2 : IsFirst (BadPc n.pieces) n.pieces.length (-1))
  (h3 : IsFirst (Bad3 n.pieces.length n.joints) n.joints.length (-1)) (h4 : IsFirst (Bad4 n.joints) n.joints.length r) (hr : r ≠ -1) : NetRes n 4 r :=
 ⟨fun g => absurd g h, fun _ => ⟨-1, -1, r, 0, h2, fun e => absurd rfl e, fun _ => ⟨h3, fun e => absurd rfl e, fun _ => ⟨h4, fun _ => ⟨rfl, rfl⟩, fun e => absurd e hr⟩⟩⟩⟩
theorem netRes5 {n : Nt} {r : Int} (h : ¬ (n.pieces.length = 0 ∨ 100 < n.pieces.length ∨ 120 < n.joints.length)) (h2 : IsFirst (BadPc n.pieces) n.pieces.length (-1))
  (h3 : IsFirst (Bad3 n.pieces.length n.joints) n.joints.length (-1)) (h4 : IsFirst (Bad4 n.joints) n.joints.length (-1)) (h5 : IsFirst (Bad5 n.joints) n.pieces.length r) (hr : r ≠ -1) : NetRes n 5 r :=
 ⟨fun g => absurd g h, fun _ => ⟨-1, -1, -1, r, h2, fun e => absurd rfl e, fun _ => ⟨h3, fun e => absurd rfl e, fun _ => ⟨h4, fun e => absurd rfl e, fun _ => ⟨h5, fun _ => ⟨rfl, rfl⟩, fun e => absurd e hr⟩⟩⟩⟩⟩
theorem netRes0 {n : Nt} (h : ¬ (n.pieces.length = 0 ∨ 100 < n.pieces.length ∨ 120 < n.joints.length)) (h2 : IsFirst (BadPc n.pieces) n.pieces.length (-1))
  (h3 : IsFirst (Bad3 n.pieces.length n.joints) n.joints.length (-1)) (h4 : IsFirst (Bad4 n.joints) n.joints.length (-1)) (h5 : IsFirst (Bad5 n.joints) n.pieces.length (-1)) : NetRes n 0 0 :=
 ⟨fun g => absurd g h, fun _ => ⟨-1, -1, -1, -1, h2, fun e => absurd rfl e, fun _ => ⟨h3, fun e => absurd rfl e, fun _ => ⟨h4, fun e => absurd rfl e, fun _ => ⟨h5, fun e => absurd rfl e, fun _ => ⟨rfl, rfl⟩⟩⟩⟩⟩⟩

end Go.Proofs.YtjacbppeebnjfaaGreat

namespace Go.Proofs.YtjacbppeebnjfaaGreat
open Go.RowKit

def PcsAt (L : Nat) (w : World) (a : Option Addr) (ps : List Pc) : Prop :=
 ∀ i (h : i < ps.length), ∃ b off, a = some ⟨b, off, none⟩ ∧ (L ≤ b ∧ b < w.heap.size) ∧ w.cell? ⟨b, off + i * 4, none⟩ = some (.string ps[i].name) ∧ w.cell? ⟨b, off + i * 4 + 1, none⟩ = some (.int .i64 ps[i].len)
  ∧ w.cell? ⟨b, off + i * 4 + 2, none⟩ = some (.int .i64 ps[i].speed) ∧ w.cell? ⟨b, off + i * 4 + 3, none⟩ = some (.int .i64 ps[i].brake)

def EdsAt (L : Nat) (w : World) (a : Option Addr) (es : List Ed) : Prop :=
 ∀ i (h : i < es.length), ∃ b off, a = some ⟨b, off, none⟩ ∧ (L ≤ b ∧ b < w.heap.size) ∧ w.cell? ⟨b, off + i * 2, none⟩ = some (.int .i64 es[i].piece) ∧ w.cell? ⟨b, off + i * 2 + 1, none⟩ = some (.int .i64 es[i].side)

def JtsAt (L : Nat) (w : World) (a : Option Addr) (js : List Jt) : Prop :=
 ∀ i (h : i < js.length), ∃ b off ea ec, a = some ⟨b, off, none⟩ ∧ (L ≤ b ∧ b < w.heap.size) ∧ w.cell? ⟨b, off + i * 3, none⟩ = some (.int .i64 js[i].kind) ∧ w.cell? ⟨b, off + i * 3 + 1, none⟩ = some (.string js[i].name)
  ∧ w.cell? ⟨b, off + i * 3 + 2, none⟩ = some (.slice ea js[i].ends.length ec) ∧ EdsAt L w ea js[i].ends

def Keeps (L : Nat) (w w' : World) : Prop := w.heap.size ≤ w'.heap.size ∧ ∀ k, L ≤ k → k < w.heap.size → w'.heap[k]? = w.heap[k]?

theorem Keeps.cell {L : Nat} {w w' : World} (h : Keeps L w w') {b off : Nat} (hb : L ≤ b ∧ b < w.heap.size) : w'.cell? ⟨b, off, none⟩ = w.cell? ⟨b, off, none⟩ :=
 World.cell?_of_block (w := w) (a := ⟨b, off, none⟩) (h.2 b hb.1 hb.2)

theorem keeps_below {w w' : World} (L : Nat) (hb : Below w.heap.size w w') : Keeps L w w' := ⟨hb.size, fun k _ h => hb.block k h⟩

theorem keeps_setCell {L : Nat} (w : World) {p : Addr} (hp : p.block < L) (v : Value) : Keeps L w (w.setCell p v) :=
 ⟨by simp [World.setCell], fun k h _ => Below.heap_setCell w p v k (by omega)⟩

theorem Keeps.trans {L : Nat} {a b c : World} (h : Keeps L a b) (k : Keeps L b c) : Keeps L a c :=
 ⟨Nat.le_trans h.1 k.1, fun i hi hl => (k.2 i hi (Nat.lt_of_lt_of_le hl h.1)).trans (h.2 i hi hl)⟩

theorem PcsAt.keeps {L : Nat} {w w' : World} {a : Option Addr} {ps : List Pc} (h : PcsAt L w a ps) (hk : Keeps L w w') : PcsAt L w' a ps := by
 intro i hi
 obtain ⟨b, off, ha, hlt, c0, c1, c2, c3⟩ := h i hi
 exact ⟨b, off, ha, ⟨hlt.1, Nat.lt_of_lt_of_le hlt.2 hk.1⟩, by rw [hk.cell hlt]; exact c0, by rw [hk.cell hlt]; exact c1, by rw [hk.cell hlt]; exact c2, by rw [hk.cell hlt]; exact c3⟩

theorem EdsAt.keeps {L : Nat} {w w' : World} {a : Option Addr} {es : List Ed} (h : EdsAt L w a es) (hk : Keeps L w w') : EdsAt L w' a es := by
 intro i hi
 obtain ⟨b, off, ha, hlt, c0, c1⟩ := h i hi
 exact ⟨b, off, ha, ⟨hlt.1, Nat.lt_of_lt_of_le hlt.2 hk.1⟩, by rw [hk.cell hlt]; exact c0, by rw [hk.cell hlt]; exact c1⟩

theorem JtsAt.keeps {L : Nat} {w w' : World} {a : Option Addr} {js : List Jt} (h : JtsAt L w a js) (hk : Keeps L w w') : JtsAt L w' a js := by
 intro i hi
 obtain ⟨b, off, ea, ec, ha, hlt, c0, c1, c2, he⟩ := h i hi
 exact ⟨b, off, ea, ec, ha, ⟨hlt.1, Nat.lt_of_lt_of_le hlt.2 hk.1⟩, by rw [hk.cell hlt]; exact c0, by rw [hk.cell hlt]; exact c1, by rw [hk.cell hlt]; exact c2, he.keeps hk⟩

theorem PcsAt.below {L : Nat} {w w' : World} {a : Option Addr} {ps : List Pc} (h : PcsAt L w a ps) (hb : Below w.heap.size w w') : PcsAt L w' a ps := h.keeps (keeps_below L hb)
theorem EdsAt.below {L : Nat} {w w' : World} {a : Option Addr} {es : List Ed} (h : EdsAt L w a es) (hb : Below w.heap.size w w') : EdsAt L w' a es := h.keeps (keeps_below L hb)
theorem JtsAt.below {L : Nat} {w w' : World} {a : Option Addr} {js : List Jt} (h : JtsAt L w a js) (hb : Below w.heap.size w w') : JtsAt L w' a js := h.keeps (keeps_below L hb)

theorem PcsAt.mono {L L' : Nat} {w : World} {a : Option Addr} {ps : List Pc} (h : PcsAt L w a ps) (hL : L' ≤ L) : PcsAt L' w a ps := by
 intro i hi
 obtain ⟨b, off, ha, hlt, r⟩ := h i hi
 exact ⟨b, off, ha, ⟨Nat.le_trans hL hlt.1, hlt.2⟩, r⟩

theorem EdsAt.mono {L L' : Nat} {w : World} {a : Option Addr} {es : List Ed} (h : EdsAt L w a es) (hL : L' ≤ L) : EdsAt L' w a es := by
 intro i hi
 obtain ⟨b, off, ha, hlt, r⟩ := h i hi
 exact ⟨b, off, ha, ⟨Nat.le_trans hL hlt.1, hlt.2⟩, r⟩

theorem JtsAt.mono {L L' : Nat} {w : World} {a : Option Addr} {js : List Jt} (h : JtsAt L w a js) (hL : L' ≤ L) : JtsAt L' w a js := by
 intro i hi
 obtain ⟨b, off, ea, ec, ha, hlt, c0, c1, c2, he⟩ := h i hi
 exact ⟨b, off, ea, ec, ha, ⟨Nat.le_trans hL hlt.1, hlt.2⟩, c0, c1, c2, he.mono hL⟩

def NetAt (L : Nat) (w : World) (v : Value) (n : Nt) : Prop :=
 ∃ a c ca cc, v = .agg #[.slice a n.pieces.length ca, .slice c n.joints.length cc] ∧ PcsAt L w a n.pieces ∧ JtsAt L w c n.joints

theorem NetAt.keeps {L : Nat} {w w' : World} {v : Value} {n : Nt} (h : NetAt L w v n) (hb : Keeps L w w') : NetAt L w' v n := by
 obtain ⟨a, c, ca, cc, hv, hp, hj⟩ := h
 exact ⟨a, c, ca, cc, hv, hp.keeps hb, hj.keeps hb⟩
theorem NetAt.below {L : Nat} {w w' : World} {v : Value} {n : Nt} (h : NetAt L w v n) (hb : Below w.heap.size w w') : NetAt L w' v n := h.keeps (keeps_below L hb)

theorem empty_iff (s : ByteArray) : s.toList.isEmpty = true ↔ s = ByteArray.empty := by
 rw [List.isEmpty_iff]
 exact toList_nil_iff_emptyBytes s

theorem same_iff (a b : ByteArray) : (a.toList == b.toList) = true ↔ a = b := by
 rw [beq_iff_eq, ByteArray.toList_eq, ByteArray.toList_eq]
 exact ⟨fun h => WideShapes.bytes_inj h, fun h => by rw [h]⟩
theorem other_iff (a b : ByteArray) : (a.toList == b.toList) = false ↔ a ≠ b := by
 rw [Ne, ← same_iff a b, Bool.not_eq_true]

def RetB (p : Prop) (e : Ending) : Prop := (e = .returned (.bool true) ∧ p) ∨ (e = .returned (.bool false) ∧ ¬ p)
theorem retB_true {p : Prop} (h : p) : RetB p (.returned (.bool true)) := Or.inl ⟨rfl, h⟩
theorem retB_false {p : Prop} (h : ¬ p) : RetB p (.returned (.bool false)) := Or.inr ⟨rfl, h⟩
theorem retB_of {p : Prop} {r : Bool} (h : r = true ↔ p) : RetB p (.returned (.bool r)) := by
 cases r
 ·exact retB_false fun hp => by simpa using h.2 hp
 ·exact retB_true (h.1 rfl)

theorem hide {p : Prop} (h : p) : Hid p := h
theorem unhide {p : Prop} (h : Hid p) : p := h

theorem bcell {W w1 : World} (hb : Below W.heap.size W w1) : (∀ b o, b < W.heap.size → w1.cell? ⟨b, o, none⟩ = W.cell? ⟨b, o, none⟩) ∧ (∀ b o, b < W.heap.size → w1.frozen? ⟨b, o, none⟩ = W.frozen? ⟨b, o, none⟩) :=
 ⟨fun _ _ h => hb.cell h, fun _ _ h => hb.frozen h⟩

def Boxed (w : World) (N : Nat) (vs : List Value) : Prop := N < w.heap.size ∧ (∀ i v, vs[i]? = some v → w.cell? ⟨N, i, none⟩ = some v) ∧ ∀ i, w.frozen? ⟨N, i, none⟩ = false
theorem Boxed.below {w w' : World} {N : Nat} {vs : List Value} (h : Boxed w N vs) (hb : Below w.heap.size w w') : Boxed w' N vs :=
 ⟨Nat.lt_of_lt_of_le h.1 hb.size, fun i v hi => by rw [hb.cell h.1]; exact h.2.1 i v hi, fun i => by rw [hb.frozen h.1]; exact h.2.2 i⟩
theorem boxed_alloc (w : World) (c : Array Value) (t : TypeId) : Boxed (w.alloc (.cells c t)) w.heap.size c.toList := by
 have hblk : (w.alloc (.cells c t)).heap[w.heap.size]? = some (.cells c t) := Deep.blk_alloc_new _ _
 refine ⟨by simp, fun i v hi => ?_, fun i => ?_⟩
 ·unfold World.cell?
  rw [hblk]
  simpa using hi
 ·unfold World.frozen?
  rw [hblk]
  simp

theorem boxedN (w : World) (c : Array Value) (t : TypeId) {N : Nat} (h : N = w.heap.size) : Boxed (w.alloc (.cells c t)) N c.toList := h ▸ boxed_alloc w c t

theorem below_then {a b c : World} (h : Below a.heap.size a b) (k : Below b.heap.size b c) : Below a.heap.size a c := h.trans (k.mono h.size)

theorem below_draws {B : Nat} {a w : World} (h : Below B a w) (n : Nat) : Below B a (w.drewN n) := ⟨h.os, h.tape, h.output, h.size, h.block⟩

theorem bwS {B : Nat} {a w : World} {p : Addr} {u : Value} (h : Below B a w) (hp : B ≤ p.block := by first | omega | (simp <;> omega) | (simp [World.setCell] <;> omega)) : Below B a (w.setCell p u) := h.setCell hp u

theorem bwA {B : Nat} {a w : World} {o : Obj} (h : Below B a w) (hB : B ≤ w.heap.size := by first | omega | (simp <;> omega) | (simp [World.setCell] <;> omega)) : Below B a (w.alloc o) := h.alloc hB o

theorem bw0 {B : Nat} {a w : World} (h : Below B a w := by repeat (first | with_reducible exact Below.refl _ _ | (with_reducible refine Below.setCell ?bx ?bs _; case bs => (first | omega | (simp only [World.size_alloc]; omega) | (simp <;> omega) | (simp [World.setCell] <;> omega))) | (with_reducible refine Below.alloc ?bx ?bs _; case bs => (first | omega | (simp only [World.size_alloc]; omega) | (simp <;> omega) | (simp [World.setCell] <;> omega))) | (with_reducible refine Below.drew ?_) | refine bwS ?_ | refine bwA ?_ | refine Below.drew ?_ | refine below_draws ?_ _ | exact Below.refl _ _)) : Below B a w := h
theorem bw1 {B : Nat} {w a b : World} (h : Below B w a) (g : Below B a b := by repeat (first | with_reducible exact Below.refl _ _ | refine bwS ?_ | refine bwA ?_ | refine Below.drew ?_ | refine below_draws ?_ _ | exact Below.refl _ _)) : Below B w b := h.trans g

end Go.Proofs.YtjacbppeebnjfaaGreat

namespace Go.Proofs.YtjacbppeebnjfaaGreat
open Go.RowKit Go.Maps

theorem mapLaw : Keyed Tryz.prog 9 := string_keyed (by kernel_rfl)
theorem mapU : Tryz.prog.underlying 234 = some (.map 9 3) := by kernel_rfl
theorem mapK : Tryz.prog.underlying 9 = some .string := by kernel_rfl
theorem mapE : Tryz.prog.underlying 3 = some (.int .i64) := by kernel_rfl
theorem zeroE (w : World) : (zeroValue 3).run Tryz.prog w = .ok (.int .i64 0) w := by kernel_rfl

def SeenAt (w : World) (B k : Nat) (seen : ByteArray → Prop) : Prop :=
 ∃ D : DataW Unit, w.ownsMap Tryz.prog 9 (plainElem Tryz.prog 3) B k D ∧ ∀ s : ByteArray, Maps.has D (.string s.data.toList) = true ↔ seen s

theorem SeenAt.lt {w : World} {B k : Nat} {seen : ByteArray → Prop} (h : SeenAt w B k seen) : B < w.heap.size := by
 obtain ⟨D, ho, _⟩ := h
 exact ho.lt

theorem SeenAt.of_block {w w' : World} {B k : Nat} {seen : ByteArray → Prop} (h : SeenAt w B k seen) (hb : w'.heap[B]? = w.heap[B]?) : SeenAt w' B k seen := by
 obtain ⟨D, ⟨es, clock, hblk, r⟩, hs⟩ := h
 exact ⟨D, ⟨es, clock, hb.trans hblk, r⟩, hs⟩

theorem SeenAt.below {w w' : World} {B k : Nat} {seen : ByteArray → Prop} (h : SeenAt w B k seen) (hb : Below w.heap.size w w') : SeenAt w' B k seen :=
 h.of_block (hb.block B h.lt)

theorem SeenAt.congr {w : World} {B k : Nat} {seen seen' : ByteArray → Prop} (h : SeenAt w B k seen) (e : ∀ s, seen s ↔ seen' s) : SeenAt w B k seen' := by
 obtain ⟨D, ho, hs⟩ := h
 exact ⟨D, ho, fun s => (hs s).trans (e s)⟩

theorem seen_made (w : World) : SeenAt (w.alloc (.map #[] 0)) w.heap.size 0 (fun _ => False) :=
 ⟨.map [], World.ownsMap_made _ _ _ _, fun s => by simp [Maps.has]⟩

theorem SeenAt.look {w : World} {B k : Nat} {seen : ByteArray → Prop} (h : SeenAt w B k seen) {s : ByteArray} (hs : s.size ≤ maxLen) :
  ∃ (c : Int) (b : Bool), (Instr.lookup 234 (.map (some B)) (.string s) true).run Tryz.prog w = .ok (.tuple #[.int .i64 c, .bool b]) w ∧ (b = true ↔ seen s) := by
 obtain ⟨D, ho, hD⟩ := h
 obtain ⟨v, ps, hrun, hv⟩ := ho.look_ok mapLaw mapU (zeroE w) (plainElem_int mapE (by decide)) (WideMaps.keyOf_string_mk mapK hs)
 obtain ⟨c, rfl, _, _⟩ := plainElem_int_inv mapE hv
 exact ⟨c, _, hrun, hD s⟩

theorem SeenAt.store {w : World} {B k : Nat} {seen : ByteArray → Prop} (h : SeenAt w B k seen) (hk : k < maxLen) {s : ByteArray} (hs : s.size ≤ maxLen) {v : Int} (hv : (Lit.int .i64 v).wf = true) :
  ∃ w', (Instr.mapUpdate 234 (.map (some B)) (.string s) (.int .i64 v)).run Tryz.prog w = .ok () w' ∧ SeenAt w' B (k + 1) (fun t => t = s ∨ seen t) ∧ w.grownBy w' (some B) := by
 obtain ⟨D, ho, hD⟩ := h
 obtain ⟨w', hrun, ho', ht⟩ := ho.store mapLaw mapU hk (WideMaps.keyOf_string_mk mapK hs) (plainElem_int mapE hv)
 refine ⟨w', hrun, ⟨_, ho', fun t => ?_⟩, ht.grown⟩
 by_cases e : t = s
 ·subst e
  simp [Maps.has_put_same ho.isMap (show WideAt.IsKeyLit (.string t.data.toList) from trivial)]
 ·have hne : (Lit.string t.data.toList) ≠ .string s.data.toList := fun h => e (WideShapes.bytes_inj (by simpa using h))
  rw [Maps.has_put_other hne, hD t]
  simp [e]

end Go.Proofs.YtjacbppeebnjfaaGreat

namespace Go.Proofs.YtjacbppeebnjfaaGreat
open Go.RowKit

structure GrW (W : World) where
 w : World
 below : Below W.heap.size W w

theorem GrW.cell {W : World} (g : GrW W) (b o : Nat) (h : b < W.heap.size) : g.w.cell? ⟨b, o, none⟩ = W.cell? ⟨b, o, none⟩ := g.below.cell h

theorem wp_region_grown {P : Program} {id : Nat} {Q : Exit → Act → World → Prop} {a : Act} {w : World} {l : List Oper} (hm : P.follows .mixedOrders = true) (hB : Region.lexB .any l.toArray = true)
  (h : Nonempty (GrW w) → (∀ (g : GrW w) (b o : Nat), b < w.heap.size → g.w.cell? ⟨b, o, none⟩ = w.cell? ⟨b, o, none⟩) →
   wpQuiet P l.toArray (fun w' => ∃ g : GrW w, w' = g.w) (fun a' => ∀ w', (∃ g : GrW w, w' = g.w) → Q .normal a' w') l a) : (Code.region id l.toArray true).wp P Q a w :=
 wp_region_quiet (C := fun w' => ∃ g : GrW w, w' = g.w) hm hB ⟨⟨w.drew, Below.drew (Below.refl _ _)⟩, rfl⟩ (by simpa using h ⟨⟨w, Below.refl _ _⟩⟩ (fun g b o hb => g.cell b o hb))

theorem GrW.call {P : Program} {W : World} (g : GrW W) {f : FuncId} {args : Array Value} {v : Value} (h : Calls P f args g.w fun e w' => e = .returned v ∧ Below g.w.heap.size g.w w') :
  Calls P f args g.w fun e w'' => e = .returned v ∧ ∃ g' : GrW W, w'' = g'.w :=
 h.mono fun _ w' ⟨he, hb⟩ => ⟨he, ⟨w', below_then g.below hb⟩, rfl⟩

end Go.Proofs.YtjacbppeebnjfaaGreat

namespace Go.Proofs.YtjacbppeebnjfaaGreat
open Go.RowKit

def Row {α : Type} (w : World) (base : Nat) (e : TypeId) (sz : Nat) (f : α → List Value) (v : Value) (xs : List α) : Prop := w.ownsRow base e sz v xs.length (xs.flatMap f)

theorem flat_get {α : Type} {f : α → List Value} {sz : Nat} (hf : ∀ x, (f x).length = sz) (xs : List α) (i j : Nat) (hi : i < xs.length) (hj : j < sz) : (xs.flatMap f)[i * sz + j]? = (f xs[i])[j]? := by
 induction xs generalizing i with
 | nil => simp at hi
 | cons x r ih =>
  rw [List.flatMap_cons]
  cases i with
  | zero =>
   rw [List.getElem?_append_left (by rw [hf]; omega)]
   simp
  | succ i =>
   rw [List.getElem?_append_right (by rw [hf, Nat.add_mul]; omega), hf]
   have : (i + 1) * sz + j - sz = i * sz + j := by rw [Nat.add_mul]; omega
   rw [this]
   simpa using ih i (by simpa using hi)

theorem flat_len {α : Type} {f : α → List Value} {sz : Nat} (hf : ∀ x, (f x).length = sz) (xs : List α) : (xs.flatMap f).length = xs.length * sz := by
 induction xs with
 | nil => simp
 | cons x r ih => rw [List.flatMap_cons, List.length_append, ih, hf, List.length_cons, Nat.add_mul]; omega

theorem Row.nil {α : Type} (w : World) (base : Nat) (e : TypeId) (sz : Nat) (f : α → List Value) : Row w base e sz f (.slice none 0 0) [] := ⟨by simp, Or.inl ⟨rfl, rfl⟩⟩

theorem Row.lt {α : Type} {w : World} {base : Nat} {e : TypeId} {sz : Nat} {f : α → List Value} {v : Value} {xs : List α} (h : Row w base e sz f v xs) : ∀ k, v.ownBlock = some k → base ≤ k ∧ k < w.heap.size := by
 intro k hk
 obtain ⟨_, ⟨rfl, _⟩ | ⟨g, cap, cur, rfl, hb, hh, _⟩⟩ := h
 ·simp [Value.ownBlock] at hk
 ·simp [Value.ownBlock] at hk
  subst hk
  refine ⟨hb, ?_⟩
  by_cases hlt : g < w.heap.size
  ·exact hlt
  ·rw [Array.getElem?_eq_none (by omega)] at hh
   simp at hh

theorem Row.shape {α : Type} {w : World} {base : Nat} {e : TypeId} {sz : Nat} {f : α → List Value} {v : Value} {xs : List α} (hf : ∀ x, (f x).length = sz) (h : Row w base e sz f v xs) :
  ∃ a cap, v = .slice a xs.length cap ∧ (xs.length ≤ cap) ∧ (∀ i (hi : i < xs.length), ∃ g, a = some ⟨g, 0, none⟩ ∧ (base ≤ g ∧ g < w.heap.size) ∧ ∀ j, j < sz → w.cell? ⟨g, i * sz + j, none⟩ = (f xs[i])[j]?) := by
 have hlt := h.lt
 obtain ⟨_, ⟨rfl, h0⟩ | ⟨g, cap, cur, rfl, hb, hh, hc1, hc2, hc3, hc4⟩⟩ := h
 ·exact ⟨none, 0, by rw [h0], by omega, fun i hi => by omega⟩
 ·refine ⟨some ⟨g, 0, none⟩, cap, rfl, hc1, fun i hi => ⟨g, rfl, hlt g (by simp [Value.ownBlock]), fun j hj => ?_⟩⟩
  rw [← flat_get hf xs i j hi hj, ← hc4]
  have hlt2 : i * sz + j < xs.length * sz := by
   have : (i + 1) * sz ≤ xs.length * sz := Nat.mul_le_mul_right _ hi
   rw [Nat.add_mul] at this
   omega
  unfold World.cell?
  rw [hh]
  simp [hlt2]

theorem Row.block {α : Type} {w w' : World} {base : Nat} {e : TypeId} {sz : Nat} {f : α → List Value} {v : Value} {xs : List α} (h : Row w base e sz f v xs) (hb : ∀ k, v.ownBlock = some k → w'.heap[k]? = w.heap[k]?) : Row w' base e sz f v xs := by
 obtain ⟨h0, h1 | ⟨g, cap, cur, rfl, hbs, hh, hr⟩⟩ := h
 ·exact ⟨h0, Or.inl h1⟩
 ·exact ⟨h0, Or.inr ⟨g, cap, cur, rfl, hbs, by rw [hb g (by simp [Value.ownBlock])]; exact hh, hr⟩⟩

theorem Row.below {α : Type} {w w' : World} {base : Nat} {e : TypeId} {sz : Nat} {f : α → List Value} {v : Value} {xs : List α} (h : Row w base e sz f v xs) (hb : Below w.heap.size w w') : Row w' base e sz f v xs :=
 h.block fun k hk => hb.block k (h.lt k hk).2

theorem Row.setCell {α : Type} {w : World} {base : Nat} {e : TypeId} {sz : Nat} {f : α → List Value} {v : Value} {xs : List α} (h : Row w base e sz f v xs) {p : Addr} (hp : p.block < base) (u : Value) : Row (w.setCell p u) base e sz f v xs :=
 h.block fun k hk => Below.heap_setCell w p u k (by have := (h.lt k hk).1; omega)

theorem Row.mono {α : Type} {w : World} {base base' : Nat} {e : TypeId} {sz : Nat} {f : α → List Value} {v : Value} {xs : List α} (h : Row w base e sz f v xs) (hb : base' ≤ base) : Row w base' e sz f v xs := by
 obtain ⟨h0, h1 | ⟨g, cap, cur, rfl, hbs, hr⟩⟩ := h
 ·exact ⟨h0, Or.inl h1⟩
 ·exact ⟨h0, Or.inr ⟨g, cap, cur, rfl, by omega, hr⟩⟩

theorem Row.snoc {α : Type} {w1 : World} {base : Nat} {e : TypeId} {sz : Nat} {f : α → List Value} {v' : Value} {xs : List α} {x : α} (h : w1.ownsRow base e sz v' (xs.length + 1) (xs.flatMap f ++ f x)) : Row w1 base e sz f v' (xs ++ [x]) := by
 unfold Row
 rw [List.flatMap_append, List.length_append]
 simpa using h

theorem row_below_grown {α : Type} {w w0 w1 : World} {base : Nat} {e : TypeId} {sz : Nat} {f : α → List Value} {v : Value} {xs : List α} {B : Nat} (h : Row w base e sz f v xs) (hb : Below B w0 w) {o : Obj} (hg : (w.alloc o).grownBy w1 v.ownBlock) (hB : B ≤ base) (hs : B ≤ w.heap.size) : Below B w0 w1 :=
 (hb.alloc (by omega) o).grown hg (by simp; omega) (fun j hj => by have := (h.lt j hj).1; omega)

theorem row_boxed_grown {α : Type} {w w1 : World} {base : Nat} {e : TypeId} {sz : Nat} {f : α → List Value} {v : Value} {xs : List α} (h : Row w base e sz f v xs) {o : Obj} (hg : (w.alloc o).grownBy w1 v.ownBlock) {N : Nat} (hN : N < base) {vs : List Value} (hB : Boxed w N vs) : Boxed w1 N vs := by
 have hne : some N ≠ v.ownBlock := fun hc => by have := (h.lt N hc.symm).1; omega
 have hblk : w1.heap[N]? = w.heap[N]? := by
  have := hg.block N (by simp; have := hB.1; omega) hne
  rw [this]
  exact ((Below.refl w.heap.size w).alloc (Nat.le_refl _) o).block N hB.1
 refine ⟨?_, fun i u hi => ?_, fun i => ?_⟩
 ·have := hB.1
  by_cases hlt : N < w1.heap.size
  ·exact hlt
  ·rw [Array.getElem?_eq_none (by omega), Array.getElem?_eq_getElem hB.1] at hblk
   simp at hblk
 ·rw [World.cell?_of_block (w := w) (a := ⟨N, i, none⟩) hblk]
  exact hB.2.1 i u hi
 ·rw [World.frozen?_of_block (w := w) (a := ⟨N, i, none⟩) hblk]
  exact hB.2.2 i

end Go.Proofs.YtjacbppeebnjfaaGreat

