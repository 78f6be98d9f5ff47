import Derived.Test.YtcmakcnkiekalabPlain
import Derived.Deep.OwnRows
import Derived.WideShapes
import Derived.Deep.Draws
namespace Go.Proofs.Ytcmakcnkiekalab
open Go.RowKit

/-- What lies in memory: a slice of pieces, of ends, of joints; L: all of it lies from block L on. -/
def PcsAt (L : Nat) (w : World) (a : Option Addr) (ps : List Pc) : Prop :=
  ∀ i (h : i < ps.length), ∃ b off, a = some ⟨b, off, none⟩ ∧ (L ≤ b ∧ b < w.heap.size) ∧ w.cell? ⟨b, off + i * 4, none⟩ = some (.string ps[i].name) ∧ w.cell? ⟨b, off + i * 4 + 1, none⟩ = some (.int .i64 ps[i].len)
    ∧ w.cell? ⟨b, off + i * 4 + 2, none⟩ = some (.int .i64 ps[i].speed) ∧ w.cell? ⟨b, off + i * 4 + 3, none⟩ = some (.int .i64 ps[i].brake)

def EdsAt (L : Nat) (w : World) (a : Option Addr) (es : List Ed) : Prop :=
  ∀ i (h : i < es.length), ∃ b off, a = some ⟨b, off, none⟩ ∧ (L ≤ b ∧ b < w.heap.size) ∧ w.cell? ⟨b, off + i * 2, none⟩ = some (.int .i64 es[i].piece) ∧ w.cell? ⟨b, off + i * 2 + 1, none⟩ = some (.int .i64 es[i].side)

def JtsAt (L : Nat) (w : World) (a : Option Addr) (js : List Jt) : Prop :=
  ∀ i (h : i < js.length), ∃ b off ea ec, a = some ⟨b, off, none⟩ ∧ (L ≤ b ∧ b < w.heap.size) ∧ w.cell? ⟨b, off + i * 3, none⟩ = some (.int .i64 js[i].kind) ∧ w.cell? ⟨b, off + i * 3 + 1, none⟩ = some (.string js[i].name)
    ∧ w.cell? ⟨b, off + i * 3 + 2, none⟩ = some (.slice ea js[i].ends.length ec) ∧ EdsAt L w ea js[i].ends

/-- From one world to another in which the blocks from L on that were there are as they were. -/
def Keeps (L : Nat) (w w' : World) : Prop := w.heap.size ≤ w'.heap.size ∧ ∀ k, L ≤ k → k < w.heap.size → w'.heap[k]? = w.heap[k]?

theorem Keeps.cell {L : Nat} {w w' : World} (h : Keeps L w w') {b off : Nat} (hb : L ≤ b ∧ b < w.heap.size) : w'.cell? ⟨b, off, none⟩ = w.cell? ⟨b, off, none⟩ :=
  World.cell?_of_block (w := w) (a := ⟨b, off, none⟩) (h.2 b hb.1 hb.2)

theorem keeps_below {w w' : World} (L : Nat) (hb : Below w.heap.size w w') : Keeps L w w' := ⟨hb.size, fun k _ h => hb.block k h⟩

theorem keeps_setCell {L : Nat} (w : World) {p : Addr} (hp : p.block < L) (v : Value) : Keeps L w (w.setCell p v) :=
  ⟨by simp [World.setCell], fun k h _ => Below.heap_setCell w p v k (by omega)⟩

theorem Keeps.trans {L : Nat} {a b c : World} (h : Keeps L a b) (k : Keeps L b c) : Keeps L a c :=
  ⟨Nat.le_trans h.1 k.1, fun i hi hl => (k.2 i hi (Nat.lt_of_lt_of_le hl h.1)).trans (h.2 i hi hl)⟩

theorem PcsAt.keeps {L : Nat} {w w' : World} {a : Option Addr} {ps : List Pc} (h : PcsAt L w a ps) (hk : Keeps L w w') : PcsAt L w' a ps := by
  intro i hi
  obtain ⟨b, off, ha, hlt, c0, c1, c2, c3⟩ := h i hi
  exact ⟨b, off, ha, ⟨hlt.1, Nat.lt_of_lt_of_le hlt.2 hk.1⟩, by rw [hk.cell hlt]; exact c0, by rw [hk.cell hlt]; exact c1, by rw [hk.cell hlt]; exact c2, by rw [hk.cell hlt]; exact c3⟩

theorem EdsAt.keeps {L : Nat} {w w' : World} {a : Option Addr} {es : List Ed} (h : EdsAt L w a es) (hk : Keeps L w w') : EdsAt L w' a es := by
  intro i hi
  obtain ⟨b, off, ha, hlt, c0, c1⟩ := h i hi
  exact ⟨b, off, ha, ⟨hlt.1, Nat.lt_of_lt_of_le hlt.2 hk.1⟩, by rw [hk.cell hlt]; exact c0, by rw [hk.cell hlt]; exact c1⟩

theorem JtsAt.keeps {L : Nat} {w w' : World} {a : Option Addr} {js : List Jt} (h : JtsAt L w a js) (hk : Keeps L w w') : JtsAt L w' a js := by
  intro i hi
  obtain ⟨b, off, ea, ec, ha, hlt, c0, c1, c2, he⟩ := h i hi
  exact ⟨b, off, ea, ec, ha, ⟨hlt.1, Nat.lt_of_lt_of_le hlt.2 hk.1⟩, by rw [hk.cell hlt]; exact c0, by rw [hk.cell hlt]; exact c1, by rw [hk.cell hlt]; exact c2, he.keeps hk⟩

theorem PcsAt.below {L : Nat} {w w' : World} {a : Option Addr} {ps : List Pc} (h : PcsAt L w a ps) (hb : Below w.heap.size w w') : PcsAt L w' a ps := h.keeps (keeps_below L hb)
theorem EdsAt.below {L : Nat} {w w' : World} {a : Option Addr} {es : List Ed} (h : EdsAt L w a es) (hb : Below w.heap.size w w') : EdsAt L w' a es := h.keeps (keeps_below L hb)
theorem JtsAt.below {L : Nat} {w w' : World} {a : Option Addr} {js : List Jt} (h : JtsAt L w a js) (hb : Below w.heap.size w w') : JtsAt L w' a js := h.keeps (keeps_below L hb)

theorem PcsAt.mono {L L' : Nat} {w : World} {a : Option Addr} {ps : List Pc} (h : PcsAt L w a ps) (hL : L' ≤ L) : PcsAt L' w a ps := by
  intro i hi
  obtain ⟨b, off, ha, hlt, r⟩ := h i hi
  exact ⟨b, off, ha, ⟨Nat.le_trans hL hlt.1, hlt.2⟩, r⟩

theorem EdsAt.mono {L L' : Nat} {w : World} {a : Option Addr} {es : List Ed} (h : EdsAt L w a es) (hL : L' ≤ L) : EdsAt L' w a es := by
  intro i hi
  obtain ⟨b, off, ha, hlt, r⟩ := h i hi
  exact ⟨b, off, ha, ⟨Nat.le_trans hL hlt.1, hlt.2⟩, r⟩

theorem JtsAt.mono {L L' : Nat} {w : World} {a : Option Addr} {js : List Jt} (h : JtsAt L w a js) (hL : L' ≤ L) : JtsAt L' w a js := by
  intro i hi
  obtain ⟨b, off, ea, ec, ha, hlt, c0, c1, c2, he⟩ := h i hi
  exact ⟨b, off, ea, ec, ha, ⟨Nat.le_trans hL hlt.1, hlt.2⟩, c0, c1, c2, he.mono hL⟩

/-- A net in memory, as a value. -/
def NetAt (L : Nat) (w : World) (v : Value) (n : Nt) : Prop :=
  ∃ a c ca cc, v = .agg #[.slice a n.pieces.length ca, .slice c n.joints.length cc] ∧ PcsAt L w a n.pieces ∧ JtsAt L w c n.joints

theorem NetAt.keeps {L : Nat} {w w' : World} {v : Value} {n : Nt} (h : NetAt L w v n) (hb : Keeps L w w') : NetAt L w' v n := by
  obtain ⟨a, c, ca, cc, hv, hp, hj⟩ := h
  exact ⟨a, c, ca, cc, hv, hp.keeps hb, hj.keeps hb⟩
theorem NetAt.below {L : Nat} {w w' : World} {v : Value} {n : Nt} (h : NetAt L w v n) (hb : Below w.heap.size w w') : NetAt L w' v n := h.keeps (keeps_below L hb)

/-- A text against the empty one, as the walk spells it. -/
theorem empty_iff (s : ByteArray) : s.toList.isEmpty = true ↔ s = ByteArray.empty := by
  rw [List.isEmpty_iff]
  exact toList_nil_iff_emptyBytes s

theorem same_iff (a b : ByteArray) : (a.toList == b.toList) = true ↔ a = b := by
  rw [beq_iff_eq, ByteArray.toList_eq, ByteArray.toList_eq]
  exact ⟨fun h => WideShapes.bytes_inj h, fun h => by rw [h]⟩
theorem other_iff (a b : ByteArray) : (a.toList == b.toList) = false ↔ a ≠ b := by
  rw [Ne, ← same_iff a b, Bool.not_eq_true]

/-- An answer that is a bool, said by what it means. -/
def RetB (p : Prop) (e : Ending) : Prop := (e = .returned (.bool true) ∧ p) ∨ (e = .returned (.bool false) ∧ ¬ p)
theorem retB_true {p : Prop} (h : p) : RetB p (.returned (.bool true)) := Or.inl ⟨rfl, h⟩
theorem retB_false {p : Prop} (h : ¬ p) : RetB p (.returned (.bool false)) := Or.inr ⟨rfl, h⟩
theorem retB_of {p : Prop} {r : Bool} (h : r = true ↔ p) : RetB p (.returned (.bool r)) := by
  cases r
  · exact retB_false fun hp => by simpa using h.2 hp
  · exact retB_true (h.1 rfl)

/-- A fact kept from the walk, and back. -/
theorem hide {p : Prop} (h : p) : Hid p := h
theorem unhide {p : Prop} (h : Hid p) : p := h

/-- Behind a call: old cells and old marks read as before, as rules for the walk. -/
theorem bcell {W w1 : World} (hb : Below W.heap.size W w1) : (∀ b o, b < W.heap.size → w1.cell? ⟨b, o, none⟩ = W.cell? ⟨b, o, none⟩) ∧ (∀ b o, b < W.heap.size → w1.frozen? ⟨b, o, none⟩ = W.frozen? ⟨b, o, none⟩) :=
  ⟨fun _ _ h => hb.cell h, fun _ _ h => hb.frozen h⟩

theorem bcellN {W w1 : World} (N : Nat) (hb : Below W.heap.size W w1) (hN : N ≤ W.heap.size) : (∀ b o, b < N → w1.cell? ⟨b, o, none⟩ = W.cell? ⟨b, o, none⟩) ∧ (∀ b o, b < N → w1.frozen? ⟨b, o, none⟩ = W.frozen? ⟨b, o, none⟩) :=
  ⟨fun _ _ h => hb.cell (Nat.lt_of_lt_of_le h hN), fun _ _ h => hb.frozen (Nat.lt_of_lt_of_le h hN)⟩

/-- A block of the call's own that holds these values. -/
def Boxed (w : World) (N : Nat) (vs : List Value) : Prop := N < w.heap.size ∧ (∀ i v, vs[i]? = some v → w.cell? ⟨N, i, none⟩ = some v) ∧ ∀ i, w.frozen? ⟨N, i, none⟩ = false
theorem Boxed.below {w w' : World} {N : Nat} {vs : List Value} (h : Boxed w N vs) (hb : Below w.heap.size w w') : Boxed w' N vs :=
  ⟨Nat.lt_of_lt_of_le h.1 hb.size, fun i v hi => by rw [hb.cell h.1]; exact h.2.1 i v hi, fun i => by rw [hb.frozen h.1]; exact h.2.2 i⟩
theorem boxed_alloc (w : World) (c : Array Value) (t : TypeId) : Boxed (w.alloc (.cells c t)) w.heap.size c.toList := by
  have hblk : (w.alloc (.cells c t)).heap[w.heap.size]? = some (.cells c t) := Deep.blk_alloc_new _ _
  refine ⟨by simp, fun i v hi => ?_, fun i => ?_⟩
  · unfold World.cell?
    rw [hblk]
    simpa using hi
  · unfold World.frozen?
    rw [hblk]
    simp

theorem boxedN (w : World) (c : Array Value) (t : TypeId) {N : Nat} (h : N = w.heap.size) : Boxed (w.alloc (.cells c t)) N c.toList := h ▸ boxed_alloc w c t

/-- One step behind another: all that was there is as it was. -/
theorem below_then {a b c : World} (h : Below a.heap.size a b) (k : Below b.heap.size b c) : Below a.heap.size a c := h.trans (k.mono h.size)

theorem below_draws {B : Nat} {a w : World} (h : Below B a w) (n : Nat) : Below B a (w.drewN n) := ⟨h.os, h.tape, h.output, h.size, h.block⟩

end Go.Proofs.Ytcmakcnkiekalab
