import Derived.Test.YtjacbppeebnjfaaGreatRows
import Derived.Test.YtjacbppeebnjfaaGreatMPlain
import Derived.ProofKit
import Derived.OpenShut
import Derived.Deep.Slices
import Derived.Deep.Strs
import Derived.Lib.SmallJoins
import Derived.WalkSpells
import Derived.Laws.BytesArg
namespace Go.Proofs.YtjacbppeebnjfaaGreat
open Go.ChangeShapes Go.WideShapes Go.ChangeAt Go.RowKit Go.Deep Go.Joins

theorem row_cells {w : World} {base : Nat} {a : Addr} {m c : Nat} (hc : 0 < c) {Q : Nat → List Value → Prop} (hx : ∀ i, i < m → ∃ cs, w.cells? base (a.add (i * c)) c = some cs ∧ Q i cs) {i : Nat} (hi : i < m) :
  ∃ b off cs, a = ⟨b, off, none⟩ ∧ b < w.heap.size ∧ Q i cs ∧ cs.length = c ∧ ∀ j, j < c → w.cell? ⟨b, off + i * c + j, none⟩ = cs[j]? := by
 obtain ⟨cs0, h0, _⟩ := hx 0 (by omega)
 obtain ⟨_, hl0, hcell0⟩ := World.cells?_some h0
 obtain ⟨b, off, spot⟩ := a
 have h00 := hcell0 0 hc
 have hspot : spot = none := by
  have h1 : w.cell? ⟨b, off, spot⟩ = some (cs0[0]'(by omega)) := by
   simpa [Addr.add, List.getElem?_eq_getElem (show 0 < cs0.length by omega)] using h00
  simpa using World.cell?_spot h1
 subst hspot
 obtain ⟨cs, h, hQ⟩ := hx i hi
 obtain ⟨_, hl, hcell⟩ := World.cells?_some h
 have hblk := World.cells?_block h hc
 refine ⟨b, off, cs, rfl, ?_, hQ, hl, fun j hj => ?_⟩
 ·simpa [Addr.add] using (by by_cases e : i * c = 0 <;> simpa [Addr.add, e] using hblk)
 ·rw [← hcell j hj, add_plain, add_plain]

section
variable {H : Type} {enc : TypeId × Value → H} {w : World} {base : Nat} {held : Bool}

end
end Go.Proofs.YtjacbppeebnjfaaGreat
namespace Go.Proofs.YtjacbppeebnjfaaGreat
open Go.RowKit

theorem info_Piece : (Tryz.prog.info? 96).map (fun i => (i.zero, i.size, i.bytes)) = some (some (.agg #[.string ⟨#[]⟩, .int .i64 0, .int .i64 0, .int .i64 0]), 4, 40) := by kernel_rfl
theorem info_End : (Tryz.prog.info? 141).map (fun i => (i.zero, i.size, i.bytes)) = some (some (.agg #[.int .i64 0, .int .i64 0]), 2, 16) := by kernel_rfl
theorem info_Joint : (Tryz.prog.info? 56).map (fun i => (i.zero, i.size, i.bytes)) = some (some (.agg #[.int .i64 0, .string ⟨#[]⟩, .slice none 0 0]), 3, 48) := by kernel_rfl

theorem run_make_rows {P : Program} (t e : TypeId) (z : Value) (size bytes : Nat) (ht : P.underlying t = some (.slice e)) (hi : (P.info? e).map (fun i => (i.zero, i.size, i.bytes)) = some (some z, size, bytes))
  (n : Nat) (hb : bytes * n ≤ 281474976710656) (hn : n ≤ 1048576) (w : World) :
  (Instr.makeSlice t (.int .i64 n) (.int .i64 n)).run P w = .ok (.slice (some ⟨w.heap.size, 0, none⟩) n n) (w.alloc (.cells (madeCells z.cells (n * size)) e)) := by
 cases hinf : P.info? e with
 | none => rw [hinf] at hi; simp at hi
 | some i =>
  rw [hinf] at hi
  simp only [Option.map_some, Option.some.injEq, Prod.mk.injEq] at hi
  obtain ⟨hz, hs, hbb⟩ := hi
  have hb' : ((i.bytes : Int)) * (n : Int) ≤ 281474976710656 := by
   have h : ((i.bytes * n : Nat) : Int) ≤ 281474976710656 := by rw [hbb]; omega
   rwa [Int.natCast_mul] at h
  have h := run_make (P := P) w t e i z ht hinf hz .i64 .i64 n n (by omega) (by omega) hb' (by omega)
  rw [hs] at h
  simpa using h

theorem row_made (w : World) (z : Array Value) (n : Nat) (t : TypeId) : (w.alloc (.cells (madeCells z n) t)).rowIs w.heap.size t n (fun i => z[i % z.size]!) :=
 ⟨_, Deep.blk_alloc_new _ _, size_madeCells _ _, fun i hi => by simp [madeCells, hi]⟩

def rowPc (ps : List Pc) (f : Nat → Value) (k : Nat) : Prop :=
 ∀ i (h : i < ps.length), i < k → f (i * 4) = .string ps[i].name ∧ f (i * 4 + 1) = .int .i64 ps[i].len ∧ f (i * 4 + 2) = .int .i64 ps[i].speed ∧ f (i * 4 + 3) = .int .i64 ps[i].brake

def rowEd (es : List Ed) (f : Nat → Value) (k : Nat) : Prop :=
 ∀ i (h : i < es.length), i < k → f (i * 2) = .int .i64 es[i].piece ∧ f (i * 2 + 1) = .int .i64 es[i].side

def PcsOwn (L U : Nat) (w : World) (a : Option Addr) (ps : List Pc) : Prop :=
 ∃ b f, a = some ⟨b, 0, none⟩ ∧ (L ≤ b ∧ b < U) ∧ w.rowIs b 96 (ps.length * 4) f ∧ rowPc ps f ps.length
def EdsOwn (L U : Nat) (w : World) (a : Option Addr) (es : List Ed) : Prop :=
 ∃ b f, a = some ⟨b, 0, none⟩ ∧ (L ≤ b ∧ b < U) ∧ w.rowIs b 141 (es.length * 2) f ∧ rowEd es f es.length
def rowJt (js : List Jt) (L U : Nat) (w : World) (f : Nat → Value) (k : Nat) : Prop :=
 ∀ i (h : i < js.length), i < k → ∃ ea, f (i * 3) = .int .i64 js[i].kind ∧ f (i * 3 + 1) = .string js[i].name ∧ f (i * 3 + 2) = .slice ea js[i].ends.length js[i].ends.length ∧ EdsOwn L U w ea js[i].ends
def JtsOwn (L U : Nat) (w : World) (a : Option Addr) (js : List Jt) : Prop :=
 ∃ b f, a = some ⟨b, 0, none⟩ ∧ (L ≤ b ∧ b < U) ∧ w.rowIs b 56 (js.length * 3) f ∧ rowJt js L U w f js.length
def NetOwn (L U : Nat) (w : World) (v : Value) (n : Nt) : Prop :=
 ∃ a c, v = .agg #[.slice a n.pieces.length n.pieces.length, .slice c n.joints.length n.joints.length] ∧ PcsOwn L U w a n.pieces ∧ JtsOwn L U w c n.joints

theorem PcsOwn.at {L U : Nat} {w : World} {a : Option Addr} {ps : List Pc} (h : PcsOwn L U w a ps) : PcsAt L w a ps := by
 obtain ⟨b, f, rfl, hb, hrow, hf⟩ := h
 intro i hi
 obtain ⟨e0, e1, e2, e3⟩ := hf i hi hi
 refine ⟨b, 0, rfl, ⟨hb.1, hrow.lt⟩, ?_, ?_, ?_, ?_⟩
 ·rw [← e0, hrow.cell (by omega)]; simp
 ·rw [← e1, hrow.cell (by omega)]; simp
 ·rw [← e2, hrow.cell (by omega)]; simp
 ·rw [← e3, hrow.cell (by omega)]; simp
theorem EdsOwn.at {L U : Nat} {w : World} {a : Option Addr} {es : List Ed} (h : EdsOwn L U w a es) : EdsAt L w a es := by
 obtain ⟨b, f, rfl, hb, hrow, hf⟩ := h
 intro i hi
 obtain ⟨e0, e1⟩ := hf i hi hi
 refine ⟨b, 0, rfl, ⟨hb.1, hrow.lt⟩, ?_, ?_⟩
 ·rw [← e0, hrow.cell (by omega)]; simp
 ·rw [← e1, hrow.cell (by omega)]; simp
theorem JtsOwn.at {L U : Nat} {w : World} {a : Option Addr} {js : List Jt} (h : JtsOwn L U w a js) : JtsAt L w a js := by
 obtain ⟨b, f, rfl, hb, hrow, hf⟩ := h
 intro i hi
 obtain ⟨ea, e0, e1, e2, he⟩ := hf i hi hi
 refine ⟨b, 0, ea, js[i].ends.length, rfl, ⟨hb.1, hrow.lt⟩, ?_, ?_, ?_, he.at⟩
 ·rw [← e0, hrow.cell (by omega)]; simp
 ·rw [← e1, hrow.cell (by omega)]; simp
 ·rw [← e2, hrow.cell (by omega)]; simp
theorem NetOwn.at {L U : Nat} {w : World} {v : Value} {n : Nt} (h : NetOwn L U w v n) : NetAt L w v n := by
 obtain ⟨a, c, hv, hp, hj⟩ := h
 exact ⟨a, c, _, _, hv, hp.at, hj.at⟩

def Stays (L U : Nat) (w w' : World) : Prop := ∀ k, L ≤ k → k < U → w'.heap[k]? = w.heap[k]?
theorem stays_below {L U : Nat} {w w' : World} (hb : Below w.heap.size w w') (hU : U ≤ w.heap.size) : Stays L U w w' := fun k _ h => hb.block k (by omega)
theorem Stays.trans {L U : Nat} {a b c : World} (h : Stays L U a b) (k : Stays L U b c) : Stays L U a c := fun i h1 h2 => (k i h1 h2).trans (h i h1 h2)

theorem PcsOwn.stays {L U : Nat} {w w' : World} {a : Option Addr} {ps : List Pc} (h : PcsOwn L U w a ps) (hk : Stays L U w w') : PcsOwn L U w' a ps := by
 obtain ⟨b, f, ha, hb, hrow, hf⟩ := h
 exact ⟨b, f, ha, hb, hrow.of_block (hk b hb.1 hb.2), hf⟩
theorem EdsOwn.stays {L U : Nat} {w w' : World} {a : Option Addr} {es : List Ed} (h : EdsOwn L U w a es) (hk : Stays L U w w') : EdsOwn L U w' a es := by
 obtain ⟨b, f, ha, hb, hrow, hf⟩ := h
 exact ⟨b, f, ha, hb, hrow.of_block (hk b hb.1 hb.2), hf⟩
theorem rowJt.stays {js : List Jt} {L U : Nat} {w w' : World} {f : Nat → Value} {k : Nat} (h : rowJt js L U w f k) (hk : Stays L U w w') : rowJt js L U w' f k := by
 intro i hi hik
 obtain ⟨ea, e0, e1, e2, he⟩ := h i hi hik
 exact ⟨ea, e0, e1, e2, he.stays hk⟩
theorem JtsOwn.stays {L U : Nat} {w w' : World} {a : Option Addr} {js : List Jt} (h : JtsOwn L U w a js) (hk : Stays L U w w') : JtsOwn L U w' a js := by
 obtain ⟨b, f, ha, hb, hrow, hf⟩ := h
 exact ⟨b, f, ha, hb, hrow.of_block (hk b hb.1 hb.2), hf.stays hk⟩
theorem NetOwn.stays {L U : Nat} {w w' : World} {v : Value} {n : Nt} (h : NetOwn L U w v n) (hk : Stays L U w w') : NetOwn L U w' v n := by
 obtain ⟨a, c, hv, hp, hj⟩ := h
 exact ⟨a, c, hv, hp.stays hk, hj.stays hk⟩

theorem PcsOwn.mono {L U L' U' : Nat} {w : World} {a : Option Addr} {ps : List Pc} (h : PcsOwn L U w a ps) (hL : L' ≤ L) (hU : U ≤ U') : PcsOwn L' U' w a ps := by
 obtain ⟨b, f, ha, hb, r⟩ := h
 exact ⟨b, f, ha, ⟨by omega, by omega⟩, r⟩
theorem EdsOwn.mono {L U L' U' : Nat} {w : World} {a : Option Addr} {es : List Ed} (h : EdsOwn L U w a es) (hL : L' ≤ L) (hU : U ≤ U') : EdsOwn L' U' w a es := by
 obtain ⟨b, f, ha, hb, r⟩ := h
 exact ⟨b, f, ha, ⟨by omega, by omega⟩, r⟩
theorem JtsOwn.mono {L U L' U' : Nat} {w : World} {a : Option Addr} {js : List Jt} (h : JtsOwn L U w a js) (hL : L' ≤ L) (hU : U ≤ U') : JtsOwn L' U' w a js := by
 obtain ⟨b, f, ha, hb, hr, hf⟩ := h
 exact ⟨b, f, ha, ⟨by omega, by omega⟩, hr, fun i hi hik => let ⟨ea, e0, e1, e2, he⟩ := hf i hi hik; ⟨ea, e0, e1, e2, he.mono hL hU⟩⟩

end Go.Proofs.YtjacbppeebnjfaaGreat
namespace Go.Proofs.YtjacbppeebnjfaaGreat
open Go.RowKit

structure Only (S : Nat → Prop) (w w' : World) : Prop where
  os : w'.os = w.os
  tape : w'.tape = w.tape
  output : w'.output = w.output
  size : w.heap.size ≤ w'.heap.size
  block : ∀ k, k < w.heap.size → ¬ S k → w'.heap[k]? = w.heap[k]?
  shape : ∀ (k : Nat) (c : Array Value) (t : TypeId) (fr : Nat × Nat), w.heap[k]? = some (Obj.cells c t fr) → ∃ c' : Array Value, w'.heap[k]? = some (Obj.cells c' t fr) ∧ c'.size = c.size

theorem only_refl (S : Nat → Prop) (w : World) : Only S w w := ⟨rfl, rfl, rfl, Nat.le_refl _, fun _ _ _ => rfl, fun _ c _ _ h => ⟨c, h, rfl⟩⟩
theorem Only.trans {S : Nat → Prop} {a b c : World} (h : Only S a b) (k : Only S b c) : Only S a c :=
  ⟨k.os.trans h.os, k.tape.trans h.tape, k.output.trans h.output, Nat.le_trans h.size k.size, fun i hi hs => (k.block i (Nat.lt_of_lt_of_le hi h.size) hs).trans (h.block i hi hs),
   fun i c t fr hc => by
     obtain ⟨c1, h1, e1⟩ := h.shape i c t fr hc
     obtain ⟨c2, h2, e2⟩ := k.shape i c1 t fr h1
     exact ⟨c2, h2, e2.trans e1⟩⟩
theorem Only.mono {S T : Nat → Prop} {a b : World} (h : Only S a b) (hST : ∀ k, k < a.heap.size → S k → T k) : Only T a b :=
  ⟨h.os, h.tape, h.output, h.size, fun i hi hs => h.block i hi fun hk => hs (hST i hi hk), h.shape⟩
theorem only_of_below {S : Nat → Prop} {w w' : World} (h : Below w.heap.size w w') : Only S w w' :=
  ⟨h.os, h.tape, h.output, h.size, fun k hk _ => h.block k hk, fun k c t fr hc => by
    obtain ⟨hlt, _⟩ := Array.getElem?_eq_some_iff.1 hc
    exact ⟨c, (h.block k hlt).trans hc, rfl⟩⟩
theorem only_setCell {S : Nat → Prop} (w : World) {p : Addr} (hp : S p.block) (v : Value) : Only S w (w.setCell p v) :=
  ⟨rfl, rfl, rfl, by simp [World.setCell], fun k _ hs => Below.heap_setCell w p v k fun e => hs (e ▸ hp), fun k c t fr hc => by
    by_cases e : k = p.block
    · subst e
      refine ⟨if p.spot.isSome = true then c else c.setIfInBounds p.off v, ?_, by split <;> simp⟩
      simp [World.setCell, Array.getElem?_modify, hc]
    · exact ⟨c, (Below.heap_setCell w p v k e).trans hc, rfl⟩⟩
theorem Only.row {S : Nat → Prop} {w w' : World} (h : Only S w w') {b t m : Nat} (hr : ∃ f, w.rowIs b t m f) : ∃ f, w'.rowIs b t m f := by
  obtain ⟨f, c, hb, hn, _⟩ := hr
  obtain ⟨c', hb', hn'⟩ := h.shape b c t (0, 0) hb
  exact ⟨fun i => c'[i]?.getD undef, c', hb', hn'.trans hn, fun i hi => by simp [show i < c'.size by omega]⟩
theorem Only.below {S : Nat → Prop} {w w' : World} {B : Nat} (h : Only S w w') (hB : B ≤ w.heap.size) (hS : ∀ k, k < B → ¬ S k) : Below B w w' :=
  ⟨h.os, h.tape, h.output, h.size, fun k hk => h.block k (by omega) (hS k hk)⟩
theorem Only.stays {S : Nat → Prop} {w w' : World} {L U : Nat} (h : Only S w w') (hU : U ≤ w.heap.size) (hS : ∀ k, L ≤ k → k < U → ¬ S k) : Stays L U w w' :=
  fun k h1 h2 => h.block k (by omega) (hS k h1 h2)

def OwnC (w : World) (b off m : Nat) (f : Nat → Value) : Prop := b < w.heap.size ∧ ∀ j, j < m → w.cell? ⟨b, off + j, none⟩ = some (f j) ∧ w.frozen? ⟨b, off + j, none⟩ = false

theorem OwnC.set {w : World} {b off m : Nat} {f : Nat → Value} (h : OwnC w b off m f) {i : Nat} (hi : i < m) (v : Value) : OwnC (w.setCell ⟨b, off + i, none⟩ v) b off m (fun j => if j = i then v else f j) := by
  refine ⟨by simpa [World.setCell] using h.1, fun j hj => ⟨?_, by simpa using (h.2 j hj).2⟩⟩
  by_cases e : j = i
  · subst e
    rw [World.cell?_setCell_same _ _ _ (h.2 j hj).1]
    simp
  · rw [World.cell?_setCell_other _ _ _ _ (by simp <;> omega)]
    simpa [e] using (h.2 j hj).1
theorem OwnC.of_block {w w' : World} {b off m : Nat} {f : Nat → Value} (h : OwnC w b off m f) (e : w'.heap[b]? = w.heap[b]?) (hs : w.heap.size ≤ w'.heap.size) : OwnC w' b off m f :=
  ⟨Nat.lt_of_lt_of_le h.1 hs, fun j hj => ⟨(World.cell?_of_block (w := w) (a := ⟨b, off + j, none⟩) e).trans (h.2 j hj).1, (World.frozen?_of_block (w := w) (a := ⟨b, off + j, none⟩) e).trans (h.2 j hj).2⟩⟩
theorem OwnC.below {w w' : World} {b off m : Nat} {f : Nat → Value} (h : OwnC w b off m f) (hb : Below w.heap.size w w') : OwnC w' b off m f := h.of_block (hb.block b h.1) hb.size
theorem OwnC.congr {w : World} {b off m : Nat} {f g : Nat → Value} (h : OwnC w b off m f) (e : ∀ j, j < m → f j = g j) : OwnC w b off m g :=
  ⟨h.1, fun j hj => ⟨by rw [← e j hj]; exact (h.2 j hj).1, (h.2 j hj).2⟩⟩
theorem own_row {w : World} {b t m : Nat} {f : Nat → Value} (h : w.rowIs b t m f) : OwnC w b 0 m f :=
  ⟨h.lt, fun j hj => ⟨by simpa using h.cell hj, by simpa using h.frozen j⟩⟩

def OwnL (w : World) (a : Option Addr) (m : Nat) (f : Nat → Value) : Prop := 0 < m → ∃ b off, a = some ⟨b, off, none⟩ ∧ OwnC w b off m f
def blk (a : Option Addr) (k : Nat) : Prop := ∃ b off, a = some ⟨b, off, none⟩ ∧ k = b
def marks (k0 : Int) (j : Nat) : Value := .int .i64 (k0 + j)

end Go.Proofs.YtjacbppeebnjfaaGreat

namespace Go.Proofs.YtjacbppeebnjfaaGreat
open Go.RowKit

end Go.Proofs.YtjacbppeebnjfaaGreat

namespace Go.Proofs.YtjacbppeebnjfaaGreat
open Go.RowKit

end Go.Proofs.YtjacbppeebnjfaaGreat
