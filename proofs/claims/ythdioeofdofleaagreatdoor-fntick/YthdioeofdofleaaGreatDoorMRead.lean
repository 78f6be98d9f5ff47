import Derived.Test.YthdioeofdofleaaGreatDoorRows
import Derived.Test.YthdioeofdofleaaGreatDoorMPlain
import Derived.ProofKit
import Derived.OpenShut
import Derived.Deep.Slices
import Derived.Deep.Strs
import Derived.Lib.SmallJoins
import Derived.WalkSpells
import Derived.Laws.BytesArg
import Derived.BigQuiet
import Derived.Deep.RegionWith
namespace Go.Proofs.YthdioeofdofleaaGreatDoor
open Go.ChangeShapes Go.WideShapes Go.ChangeAt Go.RowKit Go.Deep Go.Joins
theorem row_cells {w : World} {base : Nat} {a : Addr} {m c : Nat} (hc : 0 < c) {Q : Nat -> List Value -> Prop} (hx : ∀ i, i < m -> ∃ cs, w.cells? base (a.add (i * c)) c = some cs /\ Q i cs) {i : Nat} (hi : i < m) :
  ∃ b off cs, a = ⟨b, off, none⟩ /\ b < w.heap.size /\ Q i cs /\ cs.length = c /\ ∀ j, j < c -> w.cell? ⟨b, off + i * c + j, none⟩ = cs[j]? := by
 obtain ⟨cs0, h0, _⟩ := hx 0 (by omega);obtain ⟨_, hl0, hcell0⟩ := World.cells?_some h0;obtain ⟨b, off, spot⟩ := a;have h00 := hcell0 0 hc
 have hspot : spot = none := by
  have h1 : w.cell? ⟨b, off, spot⟩ = some (cs0[0]'(by omega)) := by
   simpa [Addr.add, List.getElem?_eq_getElem (show 0 < cs0.length by omega)] using h00
  simpa using World.cell?_spot h1
 subst hspot;obtain ⟨cs, h, hQ⟩ := hx i hi;obtain ⟨_, hl, hcell⟩ := World.cells?_some h;have hblk := World.cells?_block h hc;refine ⟨b, off, cs, rfl, ?_, hQ, hl, fun j hj => ?_⟩
 ·simpa [Addr.add] using (by by_cases e : i * c = 0 <;> simpa [Addr.add, e] using hblk)
 ·rw [← hcell j hj, add_plain, add_plain]

section
variable {H : Type} {enc : TypeId × Value -> H} {w : World} {base : Nat} {held : Bool}

end

theorem qu : (Tryz.prog.info? 121).map (fun i => (i.zero, i.size, i.bytes)) = some (some (.agg #[.string ⟨#[]⟩, .int .i64 0, .int .i64 0, .int .i64 0]), 4, 40) := by kernel_rfl
theorem info_End : (Tryz.prog.info? 156).map (fun i => (i.zero, i.size, i.bytes)) = some (some (.agg #[.int .i64 0, .int .i64 0]), 2, 16) := by kernel_rfl
theorem qv : (Tryz.prog.info? 58).map (fun i => (i.zero, i.size, i.bytes)) = some (some (.agg #[.int .i64 0, .string ⟨#[]⟩, .slice none 0 0]), 3, 48) := by kernel_rfl

theorem Xk {P : Program} (t e : TypeId) (z : Value) (size bytes : Nat) (ht : P.underlying t = some (.slice e)) (hi : (P.info? e).map (fun i => (i.zero, i.size, i.bytes)) = some (some z, size, bytes))
  (n : Nat) (hb : bytes * n <= 281474976710656) (hn : n <= 1048576) (w : World) :
  (Instr.makeSlice t (.int .i64 n) (.int .i64 n)).run P w = .ok (.slice (some ⟨w.heap.size, 0, none⟩) n n) (w.alloc (.cells (madeCells z.cells (n * size)) e)) := by
 cases hinf : P.info? e with
 | none => rw [hinf] at hi; simp at hi
 | some i =>
  rw [hinf] at hi;simp only [Option.map_some, Option.some.injEq, Prod.mk.injEq] at hi;obtain ⟨hz, hs, hbb⟩ := hi
  have hb' : ((i.bytes : Int)) * (n : Int) <= 281474976710656 := by
   have h : ((i.bytes * n : Nat) : Int) <= 281474976710656 := by rw [hbb]; omega
   rwa [Int.natCast_mul] at h
  have h := run_make (P := P) w t e i z ht hinf hz .i64 .i64 n n (by omega) (by omega) hb' (by omega);rw [hs] at h
  simpa using h

theorem row_made (w : World) (z : Array Value) (n : Nat) (t : TypeId) : (w.alloc (.cells (madeCells z n) t)).rowIs w.heap.size t n (fun i => z[i % z.size]!) :=
 ⟨_, Deep.blk_alloc_new _ _, size_madeCells _ _, fun i hi => by simp [madeCells, hi]⟩

def rowPc (ps : List Pc) (f : Nat -> Value) (k : Nat) : Prop :=
 ∀ i (h : i < ps.length), i < k -> f (i * 4) = .string ps[i].name /\ f (i * 4 + 1) = .int .i64 ps[i].len /\ f (i * 4 + 2) = .int .i64 ps[i].speed /\ f (i * 4 + 3) = .int .i64 ps[i].brake

def rowEd (es : List Ed) (f : Nat -> Value) (k : Nat) : Prop :=
 ∀ i (h : i < es.length), i < k -> f (i * 2) = .int .i64 es[i].piece /\ f (i * 2 + 1) = .int .i64 es[i].side

def XQ (L U : Nat) (w : World) (a : Option Addr) (ps : List Pc) : Prop :=
 ∃ b f, a = some ⟨b, 0, none⟩ /\ (L <= b /\ b < U) /\ w.rowIs b 121 (ps.length * 4) f /\ rowPc ps f ps.length
def XT (L U : Nat) (w : World) (a : Option Addr) (es : List Ed) : Prop :=
 ∃ b f, a = some ⟨b, 0, none⟩ /\ (L <= b /\ b < U) /\ w.rowIs b 156 (es.length * 2) f /\ rowEd es f es.length
def rowJt (js : List Jt) (L U : Nat) (w : World) (f : Nat -> Value) (k : Nat) : Prop :=
 ∀ i (h : i < js.length), i < k -> ∃ ea, f (i * 3) = .int .i64 js[i].kind /\ f (i * 3 + 1) = .string js[i].name /\ f (i * 3 + 2) = .slice ea js[i].ends.length js[i].ends.length /\ XT L U w ea js[i].ends
def XS (L U : Nat) (w : World) (a : Option Addr) (js : List Jt) : Prop :=
 ∃ b f, a = some ⟨b, 0, none⟩ /\ (L <= b /\ b < U) /\ w.rowIs b 58 (js.length * 3) f /\ rowJt js L U w f js.length
def vP (L U : Nat) (w : World) (v : Value) (n : Nt) : Prop :=
 ∃ a c, v = .agg #[.slice a n.pieces.length n.pieces.length, .slice c n.joints.length n.joints.length] /\ XQ L U w a n.pieces /\ XS L U w c n.joints

theorem XQ.at {L U : Nat} {w : World} {a : Option Addr} {ps : List Pc} (h : XQ L U w a ps) : Yh L w a ps := by
 obtain ⟨b, f, rfl, hb, hrow, hf⟩ := h;intro i hi;obtain ⟨e0, e1, e2, e3⟩ := hf i hi hi;refine ⟨b, 0, rfl, ⟨hb.1, hrow.lt⟩, ?_, ?_, ?_, ?_⟩
 ·rw [← e0, hrow.cell (by omega)]; simp
 ·rw [← e1, hrow.cell (by omega)]; simp
 ·rw [← e2, hrow.cell (by omega)]; simp
 ·rw [← e3, hrow.cell (by omega)]; simp
theorem XT.at {L U : Nat} {w : World} {a : Option Addr} {es : List Ed} (h : XT L U w a es) : Yo L w a es := by
 obtain ⟨b, f, rfl, hb, hrow, hf⟩ := h;intro i hi;obtain ⟨e0, e1⟩ := hf i hi hi;refine ⟨b, 0, rfl, ⟨hb.1, hrow.lt⟩, ?_, ?_⟩
 ·rw [← e0, hrow.cell (by omega)]; simp
 ·rw [← e1, hrow.cell (by omega)]; simp
theorem XS.at {L U : Nat} {w : World} {a : Option Addr} {js : List Jt} (h : XS L U w a js) : xR L w a js := by
 obtain ⟨b, f, rfl, hb, hrow, hf⟩ := h;intro i hi;obtain ⟨ea, e0, e1, e2, he⟩ := hf i hi hi;refine ⟨b, 0, ea, js[i].ends.length, rfl, ⟨hb.1, hrow.lt⟩, ?_, ?_, ?_, he.at⟩
 ·rw [← e0, hrow.cell (by omega)]; simp
 ·rw [← e1, hrow.cell (by omega)]; simp
 ·rw [← e2, hrow.cell (by omega)]; simp
theorem vP.at {L U : Nat} {w : World} {v : Value} {n : Nt} (h : vP L U w v n) : zE L w v n := by
 obtain ⟨a, c, hv, hp, hj⟩ := h;exact ⟨a, c, _, _, hv, hp.at, hj.at⟩

def XI (L U : Nat) (w w' : World) : Prop := ∀ k, L <= k -> k < U -> w'.heap[k]? = w.heap[k]?
theorem uY {L U : Nat} {w w' : World} (hb : Below w.heap.size w w') (hU : U <= w.heap.size) : XI L U w w' := fun k _ h => hb.block k (by omega)
theorem XI.trans {L U : Nat} {a b c : World} (h : XI L U a b) (k : XI L U b c) : XI L U a c := fun i h1 h2 => (k i h1 h2).trans (h i h1 h2)

theorem XQ.stays {L U : Nat} {w w' : World} {a : Option Addr} {ps : List Pc} (h : XQ L U w a ps) (hk : XI L U w w') : XQ L U w' a ps := by
 obtain ⟨b, f, ha, hb, hrow, hf⟩ := h;exact ⟨b, f, ha, hb, hrow.of_block (hk b hb.1 hb.2), hf⟩
theorem XT.stays {L U : Nat} {w w' : World} {a : Option Addr} {es : List Ed} (h : XT L U w a es) (hk : XI L U w w') : XT L U w' a es := by
 obtain ⟨b, f, ha, hb, hrow, hf⟩ := h;exact ⟨b, f, ha, hb, hrow.of_block (hk b hb.1 hb.2), hf⟩
theorem rowJt.stays {js : List Jt} {L U : Nat} {w w' : World} {f : Nat -> Value} {k : Nat} (h : rowJt js L U w f k) (hk : XI L U w w') : rowJt js L U w' f k := by
 intro i hi hik;obtain ⟨ea, e0, e1, e2, he⟩ := h i hi hik;exact ⟨ea, e0, e1, e2, he.stays hk⟩
theorem XS.stays {L U : Nat} {w w' : World} {a : Option Addr} {js : List Jt} (h : XS L U w a js) (hk : XI L U w w') : XS L U w' a js := by
 obtain ⟨b, f, ha, hb, hrow, hf⟩ := h;exact ⟨b, f, ha, hb, hrow.of_block (hk b hb.1 hb.2), hf.stays hk⟩
theorem vP.stays {L U : Nat} {w w' : World} {v : Value} {n : Nt} (h : vP L U w v n) (hk : XI L U w w') : vP L U w' v n := by
 obtain ⟨a, c, hv, hp, hj⟩ := h;exact ⟨a, c, hv, hp.stays hk, hj.stays hk⟩

theorem XQ.mono {L U L' U' : Nat} {w : World} {a : Option Addr} {ps : List Pc} (h : XQ L U w a ps) (hL : L' <= L) (hU : U <= U') : XQ L' U' w a ps := by
 obtain ⟨b, f, ha, hb, r⟩ := h;exact ⟨b, f, ha, ⟨by omega, by omega⟩, r⟩
theorem XT.mono {L U L' U' : Nat} {w : World} {a : Option Addr} {es : List Ed} (h : XT L U w a es) (hL : L' <= L) (hU : U <= U') : XT L' U' w a es := by
 obtain ⟨b, f, ha, hb, r⟩ := h;exact ⟨b, f, ha, ⟨by omega, by omega⟩, r⟩
theorem XS.mono {L U L' U' : Nat} {w : World} {a : Option Addr} {js : List Jt} (h : XS L U w a js) (hL : L' <= L) (hU : U <= U') : XS L' U' w a js := by
 obtain ⟨b, f, ha, hb, hr, hf⟩ := h;exact ⟨b, f, ha, ⟨by omega, by omega⟩, hr, fun i hi hik => let ⟨ea, e0, e1, e2, he⟩ := hf i hi hik; ⟨ea, e0, e1, e2, he.mono hL hU⟩⟩

structure zP (S : Nat -> Prop) (w w' : World) : Prop where
  os : w'.os = w.os
  tape : w'.tape = w.tape
  output : w'.output = w.output
  size : w.heap.size <= w'.heap.size
  block : ∀ k, k < w.heap.size -> ¬ S k -> w'.heap[k]? = w.heap[k]?
  shape : ∀ (k : Nat) (c : Array Value) (t : TypeId) (fr : Nat × Nat), w.heap[k]? = some (Obj.cells c t fr) -> ∃ c' : Array Value, w'.heap[k]? = some (Obj.cells c' t fr) /\ c'.size = c.size

theorem Xx (S : Nat -> Prop) (w : World) : zP S w w := ⟨rfl, rfl, rfl, Nat.le_refl _, fun _ _ _ => rfl, fun _ c _ _ h => ⟨c, h, rfl⟩⟩
theorem zP.trans {S : Nat -> Prop} {a b c : World} (h : zP S a b) (k : zP S b c) : zP S a c :=
  ⟨k.os.trans h.os, k.tape.trans h.tape, k.output.trans h.output, Nat.le_trans h.size k.size, fun i hi hs => (k.block i (Nat.lt_of_lt_of_le hi h.size) hs).trans (h.block i hi hs),
   fun i c t fr hc => by
     obtain ⟨c1, h1, e1⟩ := h.shape i c t fr hc;obtain ⟨c2, h2, e2⟩ := k.shape i c1 t fr h1
     exact ⟨c2, h2, e2.trans e1⟩⟩
theorem zP.mono {S T : Nat -> Prop} {a b : World} (h : zP S a b) (hST : ∀ k, k < a.heap.size -> S k -> T k) : zP T a b :=
  ⟨h.os, h.tape, h.output, h.size, fun i hi hs => h.block i hi fun hk => hs (hST i hi hk), h.shape⟩
theorem zu {S : Nat -> Prop} {w w' : World} (h : Below w.heap.size w w') : zP S w w' :=
  ⟨h.os, h.tape, h.output, h.size, fun k hk _ => h.block k hk, fun k c t fr hc => by
    obtain ⟨hlt, _⟩ := Array.getElem?_eq_some_iff.1 hc
    exact ⟨c, (h.block k hlt).trans hc, rfl⟩⟩
theorem ze {S : Nat -> Prop} (w : World) {p : Addr} (hp : S p.block) (v : Value) : zP S w (w.setCell p v) :=
  ⟨rfl, rfl, rfl, by simp [World.setCell], fun k _ hs => Below.heap_setCell w p v k fun e => hs (e ▸ hp), fun k c t fr hc => by
    by_cases e : k = p.block
    · subst e
      refine ⟨if p.spot.isSome = true then c else c.setIfInBounds p.off v, ?_, by split <;> simp⟩
      simp [World.setCell, Array.getElem?_modify, hc]
    · exact ⟨c, (Below.heap_setCell w p v k e).trans hc, rfl⟩⟩
theorem zP.row {S : Nat -> Prop} {w w' : World} (h : zP S w w') {b t m : Nat} (hr : ∃ f, w.rowIs b t m f) : ∃ f, w'.rowIs b t m f := by
  obtain ⟨f, c, hb, hn, _⟩ := hr;obtain ⟨c', hb', hn'⟩ := h.shape b c t (0, 0) hb;exact ⟨fun i => c'[i]?.getD undef, c', hb', hn'.trans hn, fun i hi => by simp [show i < c'.size by omega]⟩
theorem zP.below {S : Nat -> Prop} {w w' : World} {B : Nat} (h : zP S w w') (hB : B <= w.heap.size) (hS : ∀ k, k < B -> ¬ S k) : Below B w w' :=
  ⟨h.os, h.tape, h.output, h.size, fun k hk => h.block k (by omega) (hS k hk)⟩
theorem zP.stays {S : Nat -> Prop} {w w' : World} {L U : Nat} (h : zP S w w') (hU : U <= w.heap.size) (hS : ∀ k, L <= k -> k < U -> ¬ S k) : XI L U w w' :=
  fun k h1 h2 => h.block k (by omega) (hS k h1 h2)

def Zi (w : World) (b off m : Nat) (f : Nat -> Value) : Prop := b < w.heap.size /\ ∀ j, j < m -> w.cell? ⟨b, off + j, none⟩ = some (f j) /\ w.frozen? ⟨b, off + j, none⟩ = false

theorem Zi.set {w : World} {b off m : Nat} {f : Nat -> Value} (h : Zi w b off m f) {i : Nat} (hi : i < m) (v : Value) : Zi (w.setCell ⟨b, off + i, none⟩ v) b off m (fun j => if j = i then v else f j) := by
  refine ⟨by simpa [World.setCell] using h.1, fun j hj => ⟨?_, by simpa using (h.2 j hj).2⟩⟩
  by_cases e : j = i
  · subst e
    rw [World.cell?_setCell_same _ _ _ (h.2 j hj).1]
    simp
  · rw [World.cell?_setCell_other _ _ _ _ (by simp <;> omega)]
    simpa [e] using (h.2 j hj).1
theorem Zi.of_block {w w' : World} {b off m : Nat} {f : Nat -> Value} (h : Zi w b off m f) (e : w'.heap[b]? = w.heap[b]?) (hs : w.heap.size <= w'.heap.size) : Zi w' b off m f :=
  ⟨Nat.lt_of_lt_of_le h.1 hs, fun j hj => ⟨(World.cell?_of_block (w := w) (a := ⟨b, off + j, none⟩) e).trans (h.2 j hj).1, (World.frozen?_of_block (w := w) (a := ⟨b, off + j, none⟩) e).trans (h.2 j hj).2⟩⟩
theorem Zi.below {w w' : World} {b off m : Nat} {f : Nat -> Value} (h : Zi w b off m f) (hb : Below w.heap.size w w') : Zi w' b off m f := h.of_block (hb.block b h.1) hb.size
theorem Zi.congr {w : World} {b off m : Nat} {f g : Nat -> Value} (h : Zi w b off m f) (e : ∀ j, j < m -> f j = g j) : Zi w b off m g :=
  ⟨h.1, fun j hj => ⟨by rw [← e j hj]; exact (h.2 j hj).1, (h.2 j hj).2⟩⟩
theorem own_row {w : World} {b t m : Nat} {f : Nat -> Value} (h : w.rowIs b t m f) : Zi w b 0 m f :=
  ⟨h.lt, fun j hj => ⟨by simpa using h.cell hj, by simpa using h.frozen j⟩⟩

def OwnL (w : World) (a : Option Addr) (m : Nat) (f : Nat -> Value) : Prop := 0 < m -> ∃ b off, a = some ⟨b, off, none⟩ /\ Zi w b off m f
def blk (a : Option Addr) (k : Nat) : Prop := ∃ b off, a = some ⟨b, off, none⟩ /\ k = b
def marks (k0 : Int) (j : Nat) : Value := .int .i64 (k0 + j)

set_option maxHeartbeats 400000 in
theorem Ym (x a b : Int) (w : World) :
    Calls Tryz.prog 32 #[.int .i64 x, .int .i64 a, .int .i64 b] w fun e w' => yG (a <= x /\ x <= b) e /\ w' = w := by
  by_cases h : a <= x
  · go_enter Tryz.func32, Tryz.ntmps32
    go_wp2;go_ret;exact ⟨yo (by simp; omega), rfl⟩
  · go_enter Tryz.func32, Tryz.ntmps32
    go_wp2;go_ret;exact ⟨yo (by simp; omega), rfl⟩

set_option maxHeartbeats 400000 in
theorem qj (s : ByteArray) (w : World) (hs : s.size <= maxLen) :
    Calls Tryz.prog 114 #[.string s] w fun e w' => yG (IsNm s) e /\ w' = w := by
  unfold maxLen at hs;go_enter Tryz.func114, Tryz.ntmps114;go_wp2
  go_loop [3] (fun i => ∃ k : Nat, k <= s.size /\ i = .int .i64 k /\ ∀ j (h : j < s.size), j < k -> Un s[j]) (fun i => s.size - (intOf i).toNat)
  case atStart => exact ⟨0, Nat.zero_le _, rfl, fun j h h' => by omega⟩
  case round =>
    obtain ⟨k, hk, rfl, hall⟩ := hrel
    by_cases hlt : k < s.size
    · go_wp2
      all_goals first
        | (go_ret
           refine ⟨zk fun hn => ?_, rfl⟩;have hx := hn.2.2 k hlt;unfold Un at hx
           simp at *
           omega)
        | (have hx : Un s[k] := by
             unfold Un
             simp at *
             omega
           refine ⟨⟨k + 1, by omega, by go_num, fun j h h' => ?_⟩, by simp [intOf]; omega⟩
           by_cases e : j = k
           · subst e; exact hx
           · exact hall j h (by omega))
    · by_cases h1 : 1 <= (s.size : Int)
      · go_wp2
        go_ret;refine ⟨yo ?_, rfl⟩
        simp [IsNm]
        exact ⟨fun h => ⟨by omega, by omega, fun i hi => hall i hi (by omega)⟩, fun h => by omega⟩
      · go_wp2
        go_ret;refine ⟨zk fun hn => ?_, rfl⟩;have := hn.1;omega

set_option maxHeartbeats 400000 in
theorem l1end_any (v : Value) (n : Nt) (p s : Int) (w : World) {L : Nat} (hv : zE L w v n) (hl : n.pieces.length <= 1048576) :
    Calls Tryz.prog 136 #[v, .agg #[.int .i64 p, .int .i64 s]] w fun e w' => yG (zK n.pieces.length ⟨p, s⟩) e /\ Below w.heap.size w w' := by
  obtain ⟨a, c, ca, cc, rfl, hp, hj⟩ := hv;go_enter Tryz.func136, Tryz.ntmps136;go_wp2_with fail;refine (Ym _ _ _ _).mono ?_;rintro e w1 ⟨⟨rfl, hr⟩ | ⟨rfl, hr⟩, rfl⟩
  · go_wp2_with fail
    refine (Ym _ _ _ _).mono ?_;rintro e w1 ⟨⟨rfl, hr'⟩ | ⟨rfl, hr'⟩, rfl⟩
    · go_wp2
      go_ret;exact ⟨zA ⟨⟨hr.1, by have := hr.2; simp at this ⊢; omega⟩, hr'⟩, bw0⟩
    · go_wp2
      go_ret;exact ⟨zk fun h => hr' h.2, bw0⟩
  · go_wp2
    go_ret;exact ⟨zk fun h => hr ⟨h.1.1, by have := h.1.2; simp at this ⊢; omega⟩, bw0⟩

def JtCode (n : Nt) (i : Nat) (h : i < n.joints.length) (r : Int) : Prop :=
  (r = 3 /\ ¬ Xo n.pieces.length n.joints[i]) \/ (Xo n.pieces.length n.joints[i] /\ ((r = 4 /\ ¬ NmFits n.joints i h) \/ (r = 0 /\ NmFits n.joints i h)))

set_option maxHeartbeats 1000000 in
theorem l1joint_any (v : Value) (n : Nt) (i : Nat) (w : World) {L : Nat} (hv : zE L w v n) (hl : n.pieces.length <= 1048576) (hl' : n.joints.length <= 1048576) (hle : ∀ i (h : i < n.joints.length), n.joints[i].ends.length <= 1048576 /\ n.joints[i].name.size <= maxLen) (hi : i < n.joints.length) :
    Calls Tryz.prog 115 #[v, .int .i64 i] w fun e w' => ∃ r : Int, e = .returned (.int .i64 r) /\ JtCode n i hi r /\ Below w.heap.size w w' := by
  have hvv := hv;obtain ⟨a, c, ca, cc, rfl, hp, hj⟩ := hv;obtain ⟨b, off, ea, ec, rfl, hbs, c0, c1, c2, he⟩ := hj i hi;have hlen := (hle i hi).1;have hnm := (hle i hi).2;clear hle;go_enter Tryz.func115, Tryz.ntmps115;go_wp2_with fail;refine (Ym _ _ _ _).mono ?_;rintro e w1 ⟨⟨rfl, hr⟩ | ⟨rfl, hr⟩, rfl⟩
  · by_cases hkl : (n.joints[i].ends.length : Int) = n.joints[i].kind
    · have hkb : ((n.joints[i].ends.length : Int) != n.joints[i].kind) = false := by simpa using hkl
      have HKL := zd hkl;clear hkl;go_wp2_with fail
      go_loopw [29] (fun x wr => ∃ k : Nat, k <= n.joints[i].ends.length /\ x = .int .i64 k /\ (∀ j (h : j < n.joints[i].ends.length), j < k -> zK n.pieces.length n.joints[i].ends[j])
        /\ zg wr w.heap.size [.slice a n.pieces.length ca, .slice (some ⟨b, off, none⟩) n.joints.length cc] /\ zg wr (w.heap.size + 1) [.int .i64 n.joints[i].kind, .string n.joints[i].name, .slice ea n.joints[i].ends.length ec] /\ Below w.heap.size w wr) (fun x _ => n.joints[i].ends.length - (intOf x).toNat)
      case atStart => exact ⟨0, Nat.zero_le _, rfl, fun j h h' => by omega, (zf _ _ _).below bw0, zp _ _ _ (by simp), bw0⟩
      case round =>
        obtain ⟨k, hk, rfl, hall, hB1, hB2, hb⟩ := hrel;have b0 := hB1.2.1 0 _ rfl;have b1 := hB1.2.1 1 _ rfl;have d0 := hB2.2.1 0 _ rfl;have d1 := hB2.2.1 1 _ rfl;have n1 := hB1.1;have n2 := hB2.1
        by_cases hlt : k < n.joints[i].ends.length
        · obtain ⟨b2, off2, rfl, hbs2, e0, e1⟩ := he.below hb k hlt
          go_wp2_with fail;refine (l1end_any _ n _ _ _ (L := L) ?hA hl).mono ?_
          case hA => exact hvv.below (ZW hb)
          rintro e w1 ⟨⟨rfl, hr'⟩ | ⟨rfl, hr'⟩, hb1⟩
          · have hb2 : Below wr.heap.size wr w1 := Below.trans bw0 (hb1.mono (by simp))
            go_wp2
            go_roundw
            case rel =>
              refine ⟨k + 1, by omega, by go_num, fun j h h' => ?_, hB1.below hb2, hB2.below hb2, below_then hb hb2⟩
              by_cases e : j = k
              · subst e; exact hr'
              · exact hall j h (by omega)
            case measure => simp [intOf]; omega
          · have hb2 : Below wr.heap.size wr w1 := Below.trans bw0 (hb1.mono (by simp))
            go_wp2;go_ret;exact ⟨3, rfl, Or.inl ⟨rfl, fun h => hr' (h.2.2 k hlt)⟩, below_then hb hb2⟩
        · have hfit : Hid (Xo n.pieces.length n.joints[i]) := ⟨hr, za HKL, fun j h => hall j h (by omega)⟩
          clear hall
          by_cases hk3 : n.joints[i].kind < 3
          · cases hne : n.joints[i].name.toList.isEmpty
            · go_wp2
              go_ret;exact ⟨4, rfl, Or.inr ⟨za hfit, Or.inl ⟨rfl, fun h => by rw [(Va _).2 (h.1 hk3)] at hne; simp at hne⟩⟩, hb⟩
            · go_wp2
              go_ret;exact ⟨0, rfl, Or.inr ⟨za hfit, Or.inr ⟨rfl, fun _ => (Va _).1 hne, fun h => absurd hk3 h⟩⟩, hb⟩
          · go_wp2_with fail
            refine (qj _ _ hnm).mono ?_;rintro e w1 ⟨⟨rfl, hr'⟩ | ⟨rfl, hr'⟩, rfl⟩
            · go_wp2_with fail
              go_loopw [8] (fun x wr => ∃ k2 : Nat, k2 <= i /\ x = .int .i64 k2 /\ (∀ j (h : j < i), j < k2 -> n.joints[j].name ≠ n.joints[i].name)
                /\ zg wr w.heap.size [.slice a n.pieces.length ca, .slice (some ⟨b, off, none⟩) n.joints.length cc] /\ zg wr (w.heap.size + 1) [.int .i64 n.joints[i].kind, .string n.joints[i].name, .slice ea n.joints[i].ends.length ec] /\ Below w.heap.size w wr) (fun x _ => i - (intOf x).toNat)
              case atStart => exact ⟨0, Nat.zero_le _, rfl, fun j h h' => by omega, hB1, hB2, hb⟩
              case round =>
                clear b0 b1 d0 d1 n1 n2 hB1 hB2 hb;obtain ⟨k2, hk2, rfl, hall, hB1, hB2, hb⟩ := hrel;have b0 := hB1.2.1 0 _ rfl;have b1 := hB1.2.1 1 _ rfl;have d0 := hB2.2.1 0 _ rfl;have d1 := hB2.2.1 1 _ rfl
                by_cases hlt2 : k2 < i
                · obtain ⟨b', off', ea', ec', hbo, hbs', g0, g1, g2, _⟩ := hj.below hb k2 (by omega)
                  obtain ⟨rfl, rfl⟩ : b = b' /\ off = off' := by simpa using hbo
                  have hk2l : k2 < n.joints.length := by omega
                  go_wp2_with fail
                  go_quiet (fail)
                  cases hq : (n.joints[k2].name.toList == n.joints[i].name.toList)
                  · go_wp2
                    go_roundw
                    case rel =>
                      refine ⟨k2 + 1, by omega, by go_num, fun j h h' => ?_, hB1.below (yu (Below.refl _ _) _), hB2.below (yu (Below.refl _ _) _), yu hb _⟩
                      by_cases e : j = k2
                      · subst e; exact (other_iff _ _).1 hq
                      · exact hall j h (by omega)
                    case measure => simp [intOf]; omega
                  · go_wp2
                    go_ret;exact ⟨4, rfl, Or.inr ⟨za hfit, Or.inl ⟨rfl, fun h => (h.2 (by omega)).2 k2 hlt2 ((UL _ _).1 hq)⟩⟩, yu hb _⟩
                · go_wp2
                  go_ret;exact ⟨0, rfl, Or.inr ⟨za hfit, Or.inr ⟨rfl, fun h => by omega, fun _ => ⟨hr', fun j hj' => hall j hj' (by omega)⟩⟩⟩, hb⟩
            · go_wp2
              go_ret;exact ⟨4, rfl, Or.inr ⟨za hfit, Or.inl ⟨rfl, fun h => hr' (h.2 (by omega)).1⟩⟩, hb⟩
    · have hkb : ((n.joints[i].ends.length : Int) != n.joints[i].kind) = true := by simpa using hkl
      have HKL := zd hkl;clear hkl;go_wp2;go_ret;exact ⟨3, rfl, Or.inl ⟨rfl, fun h => za HKL h.2.1⟩, bw0⟩
  · go_wp2
    go_ret;exact ⟨3, rfl, Or.inl ⟨rfl, fun h => hr h.1⟩, bw0⟩

set_option maxHeartbeats 1000000 in
theorem l1uses_any (v : Value) (n : Nt) (p s : Int) (w : World) {L : Nat} (hv : zE L w v n) (hl' : n.joints.length <= 1048576) (hle : ∀ i (h : i < n.joints.length), n.joints[i].ends.length <= 1048576) :
  Calls Tryz.prog 116 #[v, .agg #[.int .i64 p, .int .i64 s]] w fun e w' => e = .returned (.int .i64 (ZZ n.joints p s)) /\ Below w.heap.size w w' := by
 obtain ⟨a, c, ca, cc, rfl, hp, hj⟩ := hv;go_enter Tryz.func116, Tryz.ntmps116;go_wp2_with fail
 go_loopw [5, 13] (fun y x wr => ∃ k : Nat, k <= n.joints.length /\ x = .int .i64 k /\ y = .int .i64 (ZZ (n.joints.take k) p s)
  /\ zg wr (w.heap.size + 1) [.int .i64 p, .int .i64 s] /\ Below w.heap.size w wr) (fun _ x _ => n.joints.length - (intOf x).toNat)
 case atStart => exact ⟨0, Nat.zero_le _, rfl, by simp [ZZ], zp _ _ _ (by simp), bw0⟩
 case round =>
  obtain ⟨k, hk, rfl, rfl, hB2, hb⟩ := hrel;have n2 := hB2.1
  by_cases hlt : k < n.joints.length
  ·obtain ⟨b, off, ea, ec, rfl, hbs, c0, c1, c2, he⟩ := hj.below hb k hlt;have hlen := hle k hlt;have hu := uses_le n.joints p s 1048576 hle k hk;have hus := zd (uu n.joints p s k hlt);clear hle;go_wp2_with fail
   go_loopw [5, 20] (fun y x wq => ∃ m : Nat, m <= n.joints[k].ends.length /\ x = .int .i64 m /\ y = .int .i64 ((ZZ (n.joints.take k) p s + ZN (n.joints[k].ends.take m) p s : Nat) : Int)
    /\ zg wq (w.heap.size + 1) [.int .i64 p, .int .i64 s] /\ Below wr.heap.size wr wq) (fun _ x _ => n.joints[k].ends.length - (intOf x).toNat)
   case atStart => exact ⟨0, Nat.zero_le _, rfl, by simp [ZN], hB2.below bw0, bw0⟩
   case round =>
    clear n2 hB2;obtain ⟨m, hm, rfl, rfl, hB2, hb2⟩ := hrel;have n2 := hB2.1;have d0 := hB2.2.1 0 _ rfl;have d1 := hB2.2.1 1 _ rfl
    by_cases hlt2 : m < n.joints[k].ends.length
    ·obtain ⟨b2, off2, rfl, hbs2, e0, e1⟩ := he.below hb2 m hlt2;have hui := uv (n.joints[k].ends.take m) p s;have htl : (n.joints[k].ends.take m).length <= m := List.length_take_le _ _;have huis := zd (uU n.joints[k].ends p s m hlt2);go_wp2
     all_goals refine ⟨⟨m + 1, by omega, by go_num, congrArg (Value.int .i64) ?_, hB2.below bw0, Below.alloc hb2 hb2.size _⟩, by simp [intOf]; omega⟩
     all_goals rw [za huis]
     ·rw [if_pos (by simp [isEd, *])]; omega
     ·rw [if_neg (by simp [isEd, *])]; omega
     ·rw [if_neg (by simp [isEd, *])]; omega
    ·go_wp2;refine ⟨⟨k + 1, by omega, by go_num, congrArg (Value.int .i64) ?_, hB2, below_then hb hb2⟩, by simp [intOf]; omega⟩;have e1 : n.joints[k].ends.take m = n.joints[k].ends := List.take_of_length_le (by omega);rw [za hus, e1]
  ·go_wp2;go_ret;have e2 : n.joints.take k = n.joints := List.take_of_length_le (by omega);exact ⟨by rw [e2]; rfl, hb⟩

set_option maxHeartbeats 2000000 in
theorem specNetOk_any (v : Value) (n : Nt) (w : World) {L : Nat} (hv : zE L w v n) (hl : n.pieces.length <= 1048576) (hl' : n.joints.length <= 1048576)
  (hle : ∀ i (h : i < n.joints.length), n.joints[i].ends.length <= 1048576 /\ n.joints[i].name.size <= maxLen) (hnm : ∀ i (h : i < n.pieces.length), n.pieces[i].name.size <= maxLen) :
  Calls Tryz.prog 87 #[v] w fun e w' => ∃ c a : Int, e = .returned (.agg #[.int .i64 c, .int .i64 a]) /\ Zz n c a /\ Below w.heap.size w w' := by
 have hvv := hv;obtain ⟨a, c, ca, cc, rfl, hp, hj⟩ := hv
 by_cases hout : n.pieces.length = 0 \/ 100 < n.pieces.length \/ 120 < n.joints.length
 ·have HO := zd (netRes1 hout)
  by_cases h0 : n.pieces.length = 0
  ·have e0 : ((n.pieces.length : Int) == 0) = true := by simp [h0]
   clear h0 hout;go_enter Tryz.func87, Tryz.ntmps87;go_wp2;exact bodyPost_ret (v := .agg #[.int .i64 1, .int .i64 0]) (by simp [results, Tryz.results87, go_sem]) rfl ⟨1, 0, rfl, za HO, bw0⟩
  ·have e0 : ((n.pieces.length : Int) == 0) = false := by simp [h0]
   clear h0
   by_cases h1 : 100 < (n.pieces.length : Int)
   ·clear hout;go_enter Tryz.func87, Tryz.ntmps87;go_wp2;exact bodyPost_ret (v := .agg #[.int .i64 1, .int .i64 0]) (by simp [results, Tryz.results87, go_sem]) rfl ⟨1, 0, rfl, za HO, bw0⟩
   ·have h2 : 120 < (n.joints.length : Int) := by
     have : ¬ n.pieces.length = 0 := by simpa using e0
     omega
    clear hout;go_enter Tryz.func87, Tryz.ntmps87;go_wp2;exact bodyPost_ret (v := .agg #[.int .i64 1, .int .i64 0]) (by simp [results, Tryz.results87, go_sem]) rfl ⟨1, 0, rfl, za HO, bw0⟩
 ·have HO := zd hout
  have e0 : ((n.pieces.length : Int) == 0) = false := by rw [beq_eq_false_iff_ne]; omega
  have e1 : decide (100 < (n.pieces.length : Int)) = false := by simp; omega
  have e2 : decide (120 < (n.joints.length : Int)) = false := by simp; omega
  have g1 : n.pieces.length <= 100 := by omega
  have g2 : n.joints.length <= 120 := by omega
  clear hout;go_enter Tryz.func87, Tryz.ntmps87;go_wp2_with fail
  go_loopw [30] (fun x wr => ∃ k : Nat, k <= n.pieces.length /\ x = .int .i64 k /\ (∀ j, j < k -> ¬ ve n.pieces j)
   /\ zg wr w.heap.size [.slice a n.pieces.length ca, .slice c n.joints.length cc] /\ zg wr (w.heap.size + 1) [.int .i64 0, .int .i64 0] /\ Below w.heap.size w wr) (fun x _ => n.pieces.length - (intOf x).toNat)
  case atStart => exact ⟨0, Nat.zero_le _, rfl, fun j h => by omega, (zf _ _ _).below bw0, zp _ _ _ (by simp), bw0⟩
  case round =>
   obtain ⟨k, hk, rfl, hall, hB1, hB2, hb⟩ := hrel;have b0 := hB1.2.1 0 _ rfl;have b1 := hB1.2.1 1 _ rfl;have d0 := hB2.2.1 0 _ rfl;have d1 := hB2.2.1 1 _ rfl;have z := hB2.2.2;have n1 := hB1.1;have n2 := hB2.1
   by_cases hlt : k < n.pieces.length
   ·obtain ⟨b, off, rfl, hbs, c0, c1, c2, c3⟩ := hp.below hb k hlt;have hs := hnm k hlt;go_wp2_with fail;refine (qj _ _ hs).mono ?_;rintro e w1 ⟨⟨rfl, hr1⟩ | ⟨rfl, hr1⟩, rfl⟩
    rotate_left
    ·have HB := zd (vZ (za HO) (yc hlt ⟨hlt, Or.inl fun h => hr1 h.1⟩ hall) (by omega));go_wp2;exact bodyPost_ret (v := .agg #[.int .i64 2, .int .i64 k]) (by simp [results, Tryz.results87, go_sem, n2, d0, d1]) rfl ⟨2, k, rfl, za HB, (ZW hb)⟩
    go_wp2_with fail;refine (Ym _ _ _ _).mono ?_;rintro e w1 ⟨⟨rfl, hr2⟩ | ⟨rfl, hr2⟩, rfl⟩
    rotate_left
    ·have HB := zd (vZ (za HO) (yc hlt ⟨hlt, Or.inl fun h => hr2 h.2.1⟩ hall) (by omega));go_wp2;exact bodyPost_ret (v := .agg #[.int .i64 2, .int .i64 k]) (by simp [results, Tryz.results87, go_sem, n2, d0, d1]) rfl ⟨2, k, rfl, za HB, (ZW hb)⟩
    go_wp2_with fail;refine (Ym _ _ _ _).mono ?_;rintro e w1 ⟨⟨rfl, hr3⟩ | ⟨rfl, hr3⟩, rfl⟩
    rotate_left
    ·have HB := zd (vZ (za HO) (yc hlt ⟨hlt, Or.inl fun h => hr3 h.2.2.1⟩ hall) (by omega));go_wp2;exact bodyPost_ret (v := .agg #[.int .i64 2, .int .i64 k]) (by simp [results, Tryz.results87, go_sem, n2, d0, d1]) rfl ⟨2, k, rfl, za HB, (ZW hb)⟩
    go_wp2_with fail;refine (Ym _ _ _ _).mono ?_;rintro e w1 ⟨⟨rfl, hr4⟩ | ⟨rfl, hr4⟩, rfl⟩
    rotate_left
    ·have HB := zd (vZ (za HO) (yc hlt ⟨hlt, Or.inl fun h => hr4 h.2.2.2⟩ hall) (by omega));go_wp2;exact bodyPost_ret (v := .agg #[.int .i64 2, .int .i64 k]) (by simp [results, Tryz.results87, go_sem, n2, d0, d1]) rfl ⟨2, k, rfl, za HB, (ZW hb)⟩
    have hfit : Hid (PcFits n.pieces[k]) := ⟨hr1, hr2, hr3, hr4⟩;clear hr1 hr2 hr3 hr4;go_wp2_with fail
    go_loopw [5] (fun x wq => ∃ k2 : Nat, k2 <= k /\ x = .int .i64 k2 /\ (∀ j (h : j < k), j < k2 -> n.pieces[j].name ≠ n.pieces[k].name)
     /\ zg wq w.heap.size [.slice (some ⟨b, off, none⟩) n.pieces.length ca, .slice c n.joints.length cc] /\ zg wq (w.heap.size + 1) [.int .i64 0, .int .i64 0]
     /\ zg wq wr.heap.size [.string n.pieces[k].name, .int .i64 n.pieces[k].len, .int .i64 n.pieces[k].speed, .int .i64 n.pieces[k].brake] /\ Below w.heap.size w wq) (fun x _ => k - (intOf x).toNat)
    case atStart => exact ⟨0, Nat.zero_le _, rfl, fun j h h' => by omega, hB1.below bw0, hB2.below bw0, zf _ _ _, (ZW hb)⟩
    case round =>
     clear b0 b1 d0 d1 z n1 n2 hB1 hB2 c0 c1 c2 c3 hb;obtain ⟨k2, hk2, rfl, hall2, hB1, hB2, hB3, hb⟩ := hrel;have b0 := hB1.2.1 0 _ rfl;have b1 := hB1.2.1 1 _ rfl;have d0 := hB2.2.1 0 _ rfl;have d1 := hB2.2.1 1 _ rfl;have f0 := hB3.2.1 0 _ rfl;have z := hB2.2.2;have n1 := hB1.1;have n2 := hB2.1
     by_cases hlt2 : k2 < k
     ·have hk2l : k2 < n.pieces.length := by omega
      obtain ⟨b', off', hbo, hbs', c0, c1, c2, c3⟩ := hp.below hb k2 hk2l
      obtain ⟨rfl, rfl⟩ : b = b' /\ off = off' := by simpa using hbo
      go_wp2_with fail
      go_quiet (fail)
      cases hq : (n.pieces[k2].name.toList == n.pieces[k].name.toList)
      ·go_wp2
       go_roundw
       case rel =>
        refine ⟨k2 + 1, by omega, by go_num, fun j h h' => ?_, hB1.below bw0, hB2.below bw0, hB3.below bw0, yu hb _⟩
        by_cases e : j = k2
        ·subst e; exact (other_iff _ _).1 hq
        ·exact hall2 j h (by omega)
       case measure => simp [intOf]; omega
      ·have HB := zd (vZ (za HO) (yc hlt ⟨hlt, Or.inr ⟨k2, hlt2, (UL _ _).1 hq⟩⟩ hall) (by omega));go_wp2;exact bodyPost_ret (v := .agg #[.int .i64 2, .int .i64 k]) (by simp [results, Tryz.results87, go_sem, d0, d1]) rfl ⟨2, k, rfl, za HB, (ZW hb)⟩
     ·go_wp2;refine ⟨⟨k + 1, by omega, by go_num, fun j h => ?_, hB1, hB2, hb⟩, by simp [intOf]; omega⟩
      by_cases e : j = k
      ·subst e;rintro ⟨_, hbad | ⟨j2, hj2, he⟩⟩
       ·exact hbad (za hfit)
       ·exact hall2 j2 hj2 (by omega) he
      ·exact hall j (by omega)
   ·have H2 : Hid (Zc (ve n.pieces) n.pieces.length (-1)) := xm fun j h => hall j (by omega)
    clear hall hnm;go_wp2_with fail
    go_loopw [6] (fun x wq => ∃ m : Nat, 3 <= m /\ m <= 5 /\ x = .int .i64 m /\ (4 <= m -> ∀ j, j < n.joints.length -> ¬ Bad3 n.pieces.length n.joints j) /\ (5 <= m -> ∀ j, j < n.joints.length -> ¬ Bad4 n.joints j)
     /\ zg wq w.heap.size [.slice a n.pieces.length ca, .slice c n.joints.length cc] /\ zg wq (w.heap.size + 1) [.int .i64 0, .int .i64 0] /\ Below w.heap.size w wq) (fun x _ => 5 - (intOf x).toNat)
    case atStart => exact ⟨3, by omega, by omega, rfl, by omega, by omega, hB1, hB2, hb⟩
    case round =>
     clear b0 b1 d0 d1 z n1 n2 hB1 hB2 hb;obtain ⟨m, hm3, hm5, rfl, hA3, hA4, hB1, hB2, hb⟩ := hrel;have b0 := hB1.2.1 0 _ rfl;have b1 := hB1.2.1 1 _ rfl;have d0 := hB2.2.1 0 _ rfl;have d1 := hB2.2.1 1 _ rfl;have z := hB2.2.2;have n1 := hB1.1;have n2 := hB2.1
     by_cases hm4 : m <= 4
     ·have hm4b : decide ((m : Int) <= 4) = true := by simp; omega
      go_wp2_with fail
      go_loopw [83] (fun x wq => ∃ k : Nat, k <= n.joints.length /\ x = .int .i64 k /\ (m = 3 -> ∀ j, j < k -> ¬ Bad3 n.pieces.length n.joints j) /\ (m = 4 -> ∀ j, j < k -> ¬ Bad4 n.joints j)
       /\ zg wq w.heap.size [.slice a n.pieces.length ca, .slice c n.joints.length cc] /\ zg wq (w.heap.size + 1) [.int .i64 0, .int .i64 0] /\ Below w.heap.size w wq) (fun x _ => n.joints.length - (intOf x).toNat)
      case atStart => exact ⟨0, by omega, rfl, fun _ j h => by omega, fun _ j h => by omega, hB1, hB2, hb⟩
      case round =>
       clear b0 b1 d0 d1 z n1 n2 hB1 hB2 hb;obtain ⟨k, hk, rfl, hC3, hC4, hB1, hB2, hb⟩ := hrel;have b0 := hB1.2.1 0 _ rfl;have b1 := hB1.2.1 1 _ rfl;have d0 := hB2.2.1 0 _ rfl;have d1 := hB2.2.1 1 _ rfl;have z := hB2.2.2;have n1 := hB1.1;have n2 := hB2.1
       by_cases hlt2 : k < n.joints.length
       ·go_wp2_with fail;refine (l1joint_any _ n k _ (hvv.below hb) hl hl' hle hlt2).mono ?_;rintro e w1 ⟨r, rfl, hcode, hb1⟩;have hb' := below_then hb hb1;have hB1' := hB1.below hb1;have hB2' := hB2.below hb1;have d0' := hB2'.2.1 0 _ rfl;have d1' := hB2'.2.1 1 _ rfl;have z' := hB2'.2.2;have n1' := hB1'.1;have n2' := hB2'.1;have HC := zd hcode;clear hcode
        cases hq : (r == (m : Int))
        ·go_wp2;refine ⟨⟨k + 1, by omega, by go_num, fun hm j h => ?_, fun hm j h => ?_, hB1', hB2', hb'⟩, by simp [intOf]; omega⟩
         ·by_cases e : j = k
          ·subst e;rintro ⟨_, hbad⟩
           rcases za HC with ⟨rfl, _⟩ | ⟨hfit, _⟩
           ·subst hm; simp at hq
           ·exact hbad hfit
          ·exact hC3 hm j (by omega)
         ·by_cases e : j = k
          ·subst e;rintro ⟨_, hbad⟩
           rcases za HC with ⟨_, h3⟩ | ⟨_, ⟨rfl, _⟩ | ⟨_, hfit⟩⟩
           ·exact hA3 (by omega) j hlt2 ⟨hlt2, h3⟩
           ·subst hm; simp at hq
           ·exact hbad hfit
          ·exact hC4 hm j (by omega)
        ·have HB : Hid (Zz n m k) := by
          have hrm : r = (m : Int) := by simpa using hq
          rcases za HC with ⟨h3, hbad⟩ | ⟨hfit, ⟨h4, hbad⟩ | ⟨h0, _⟩⟩
          ·obtain rfl : m = 3 := by omega
           exact netRes3 (za HO) (za H2) (yc hlt2 ⟨hlt2, hbad⟩ (hC3 rfl)) (by omega)
          ·obtain rfl : m = 4 := by omega
           exact netRes4 (za HO) (za H2) (xm (hA3 (by omega))) (yc hlt2 ⟨hlt2, hbad⟩ (hC4 rfl)) (by omega)
          ·omega
         go_wp2;exact bodyPost_ret (v := .agg #[.int .i64 m, .int .i64 k]) (by simp [results, Tryz.results87, go_sem, d0', d1']) rfl ⟨m, k, rfl, za HB, (ZW hb')⟩
       ·go_wp2;refine ⟨⟨m + 1, by omega, by omega, by go_num, fun h j hj => ?_, fun h j hj => ?_, hB1, hB2, hb⟩, by simp [intOf]; omega⟩
        ·by_cases e : m = 3
         ·exact hC3 e j (by omega)
         ·exact hA3 (by omega) j hj
        ·exact hC4 (by omega) j (by omega)
     ·have H3 : Hid (Zc (Bad3 n.pieces.length n.joints) n.joints.length (-1)) := xm (hA3 (by omega));have H4 : Hid (Zc (Bad4 n.joints) n.joints.length (-1)) := xm (hA4 (by omega));clear hA3 hA4
      have hle1 : ∀ i (h : i < n.joints.length), n.joints[i].ends.length <= 1048576 := fun i h => (hle i h).1
      clear hle;go_wp2_with fail
      go_loopw [98] (fun x wq => ∃ k : Nat, k <= n.pieces.length /\ x = .int .i64 k /\ (∀ j, j < k -> ¬ Bad5 n.joints j)
       /\ zg wq w.heap.size [.slice a n.pieces.length ca, .slice c n.joints.length cc] /\ zg wq (w.heap.size + 1) [.int .i64 0, .int .i64 0] /\ Below w.heap.size w wq) (fun x _ => n.pieces.length - (intOf x).toNat)
      case atStart => exact ⟨0, by omega, rfl, fun j h => by omega, hB1, hB2, hb⟩
      case round =>
       clear b0 b1 d0 d1 z n1 n2 hB1 hB2 hb;obtain ⟨k, hk, rfl, hall, hB1, hB2, hb⟩ := hrel;have b0 := hB1.2.1 0 _ rfl;have b1 := hB1.2.1 1 _ rfl;have d0 := hB2.2.1 0 _ rfl;have d1 := hB2.2.1 1 _ rfl;have z := hB2.2.2;have n1 := hB1.1;have n2 := hB2.1
       by_cases hlt2 : k < n.pieces.length
       ·go_wp2_with fail
        go_loopw [9] (fun x wq => ∃ sd : Nat, sd <= 2 /\ x = .int .i64 sd /\ (∀ j : Nat, j < sd -> ZZ n.joints k j = 1)
         /\ zg wq w.heap.size [.slice a n.pieces.length ca, .slice c n.joints.length cc] /\ zg wq (w.heap.size + 1) [.int .i64 0, .int .i64 0] /\ Below w.heap.size w wq) (fun x _ => 2 - (intOf x).toNat)
        case atStart => exact ⟨0, by omega, rfl, fun j h => by omega, hB1, hB2, hb⟩
        case round =>
         clear b0 b1 d0 d1 z n1 n2 hB1 hB2 hb;obtain ⟨sd, hsd, rfl, hall2, hB1, hB2, hb⟩ := hrel;have b0 := hB1.2.1 0 _ rfl;have b1 := hB1.2.1 1 _ rfl
         by_cases hlt3 : sd < 2
         ·go_wp2_with fail;refine (l1uses_any _ n _ _ _ (hvv.below hb) hl' hle1).mono ?_;rintro e w1 ⟨rfl, hb1⟩;have hb' := below_then hb hb1;have hB1' := hB1.below hb1;have hB2' := hB2.below hb1;have d0' := hB2'.2.1 0 _ rfl;have d1' := hB2'.2.1 1 _ rfl;have z' := hB2'.2.2;have n1' := hB1'.1;have n2' := hB2'.1
          by_cases hu : ZZ n.joints k sd = 1
          ·have hub : ((ZZ n.joints k sd : Int) != 1) = false := by simp [hu]
           have HU := zd hu;clear hu;go_wp2;refine ⟨⟨sd + 1, by omega, by go_num, fun j h => ?_, hB1', hB2', hb'⟩, by simp [intOf]; omega⟩
           by_cases e : j = sd
           ·subst e; exact za HU
           ·exact hall2 j (by omega)
          ·have hub : ((ZZ n.joints k sd : Int) != 1) = true := by rw [bne_iff_ne]; omega
           have HB : Hid (Zz n 5 k) := netRes5 (za HO) (za H2) (za H3) (za H4) (yc hlt2 (by
            by_cases e : sd = 0
            ·subst e; exact Or.inl hu
            ·obtain rfl : sd = 1 := by omega
             exact Or.inr hu) hall) (by omega)
           clear hu;go_wp2;exact bodyPost_ret (v := .agg #[.int .i64 5, .int .i64 k]) (by simp [results, Tryz.results87, go_sem, d0', d1']) rfl ⟨5, k, rfl, za HB, (ZW hb')⟩
         ·go_wp2;refine ⟨⟨k + 1, by omega, by go_num, fun j h => ?_, hB1, hB2, hb⟩, by simp [intOf]; omega⟩
          by_cases e : j = k
          ·subst e;rintro (h5 | h5)
           ·exact h5 (hall2 0 (by omega))
           ·exact h5 (hall2 1 (by omega))
          ·exact hall j (by omega)
       ·have HB : Hid (Zz n 0 0) := netRes0 (za HO) (za H2) (za H3) (za H4) (xm fun j h => hall j (by omega));go_wp2;exact bodyPost_ret (v := .agg #[.int .i64 0, .int .i64 0]) (by simp [results, Tryz.results87, go_sem, d0, d1]) rfl ⟨0, 0, rfl, za HB, (ZW hb)⟩

def zF (L : Nat) (w : World) (a : Option Addr) (zs : List Int) : Prop :=
 ∀ i (h : i < zs.length), ∃ b off, a = some ⟨b, off, none⟩ /\ (L <= b /\ b < w.heap.size) /\ w.cell? ⟨b, off + i, none⟩ = some (.int .i64 zs[i])

theorem zF.keeps {L : Nat} {w w' : World} {a : Option Addr} {zs : List Int} (h : zF L w a zs) (hk : yH L w w') : zF L w' a zs := by
 intro i hi;obtain ⟨b, off, ha, hlt, c0⟩ := h i hi;exact ⟨b, off, ha, ⟨hlt.1, Nat.lt_of_lt_of_le hlt.2 hk.1⟩, by rw [hk.cell hlt]; exact c0⟩
theorem zF.below {L : Nat} {w w' : World} {a : Option Addr} {zs : List Int} (h : zF L w a zs) (hb : Below w.heap.size w w') : zF L w' a zs := h.keeps (zT L hb)

theorem uf : (Tryz.prog.info? 3).map (fun i => (i.zero, i.size, i.bytes)) = some (some (.int .i64 0), 1, 8) := by kernel_rfl

theorem vG {n : Nt} {a : Int} (h : Zz n 0 a) : a = 0 /\ ∀ i (h : i < n.joints.length), Xo n.pieces.length n.joints[i] := by
 unfold Zz at h
 by_cases ho : n.pieces.length = 0 \/ 100 < n.pieces.length \/ 120 < n.joints.length
 ·have := (h.1 ho).1; omega
 ·obtain ⟨r2, r3, r4, r5, h2, h2a, h2b⟩ := h.2 ho
  by_cases e2 : r2 = -1
  ·obtain ⟨h3, h3a, h3b⟩ := h2b e2
   by_cases e3 : r3 = -1
   ·obtain ⟨h4, h4a, h4b⟩ := h3b e3
    have hall : ∀ i (h : i < n.joints.length), Xo n.pieces.length n.joints[i] := fun i hi => Classical.byContradiction fun hc => by
     rcases h3 with ⟨_, h3⟩ | ⟨j, _, hj, _⟩
     ·exact h3 i hi ⟨hi, hc⟩
     ·omega
    by_cases e4 : r4 = -1
    ·obtain ⟨h5, h5a, h5b⟩ := h4b e4
     by_cases e5 : r5 = -1
     ·exact ⟨(h5b e5).2, hall⟩
     ·have := (h5a e5).1; omega
    ·have := (h4a e4).1; omega
   ·have := (h3a e3).1; omega
  ·have := (h2a e2).1; omega

theorem VU {n : Nt} {c a : Int} (h : Zz n c a) : c = 0 ↔ Zz n 0 0 :=
 ⟨fun e => by subst e; have := (vG h).1; subst this; exact h, fun g => (h.unique g).1⟩

def LieFit (kd lie : Int) : Prop := lie = 0 \/ (kd = 3 /\ (lie = 1 \/ lie = 2))
def YG (js : List Jt) (zs : List Int) : Prop := zs.length = js.length /\ ∀ i (h : i < js.length) (h' : i < zs.length), LieFit js[i].kind zs[i]
def LiesRight (n : Nt) (zs : List Int) : Prop := Zz n 0 0 /\ YG n.joints zs

set_option maxHeartbeats 1000000 in
theorem qi (v : Value) (n : Nt) (w : World) {L : Nat} (hv : zE L w v n) (hl : n.pieces.length <= 1048576) (hl' : n.joints.length <= 1048576)
  (hle : ∀ i (h : i < n.joints.length), n.joints[i].ends.length <= 1048576 /\ n.joints[i].name.size <= maxLen) (hnm : ∀ i (h : i < n.pieces.length), n.pieces[i].name.size <= maxLen) :
  Calls Tryz.prog 51 #[v] w fun e w' => yG (Zz n 0 0) e /\ Below w.heap.size w w' := by
 have hvv := hv;obtain ⟨a, c, ca, cc, rfl, hp, hj⟩ := hv;go_enter Tryz.func51, Tryz.ntmps51;go_wp2_with fail;refine (specNetOk_any _ n _ (L := L) ?hA hl hl' hle hnm).mono ?_
 case hA => exact hvv.below bw0
 rintro e w1 ⟨fc, fa, rfl, hres, hb1⟩;have hbw := Below.trans (bw0 : Below w.heap.size w _) (hb1.mono (by simp <;> omega));have HR := zd hres;have hsz := hbw.size;clear hres;go_wp2;go_ret;exact ⟨yo (by rw [← VU (za HR)]; simp), (ZW hbw)⟩

set_option maxHeartbeats 1000000 in
theorem l1lies_any (v : Value) (n : Nt) (b0 : Option Addr) (zs : List Int) (cb : Nat) (w : World) {L L' : Nat} (hv : zE L w v n) (hz : zF L' w b0 zs) (hl' : n.joints.length <= 1048576) :
  Calls Tryz.prog 65 #[v, .slice b0 zs.length cb] w fun e w' => yG (YG n.joints zs) e /\ Below w.heap.size w w' := by
 obtain ⟨a, c, ca, cc, rfl, hp, hj⟩ := hv
 by_cases hlen : zs.length = n.joints.length
 ·have hlb : ((zs.length : Int) != (n.joints.length : Int)) = false := by rw [hlen]; simp
  have HL := zd hlen;clear hlen;go_enter Tryz.func65, Tryz.ntmps65;go_wp2_with fail
  go_loopw [15] (fun x wr => ∃ k : Nat, k <= zs.length /\ x = .int .i64 k /\ (∀ i (h : i < n.joints.length) (h' : i < zs.length), i < k -> LieFit n.joints[i].kind zs[i])
   /\ zg wr w.heap.size [.slice a n.pieces.length ca, .slice c n.joints.length cc] /\ Below w.heap.size w wr) (fun x _ => zs.length - (intOf x).toNat)
  case atStart => exact ⟨0, Nat.zero_le _, rfl, fun i h h' h'' => by omega, zf _ _ _, bw0⟩
  case round =>
   obtain ⟨k, hk, rfl, hall, hB1, hb⟩ := hrel;have b1 := hB1.2.1 1 _ rfl
   by_cases hlt : k < zs.length
   ·obtain ⟨b2, off2, rfl, hbs2, x0⟩ := hz.below hb k hlt
    have hltj : k < n.joints.length := by have := za HL; omega
    obtain ⟨b, off, ea, ec, rfl, hbs, c0, c1, c2, he⟩ := hj.below hb k hltj
    generalize hx : zs[k] = z at *
    generalize hy : n.joints[k].kind = kd at *
    have HX := zd hx;have HY := zd hy;clear hx hy;go_wp2_with fail;refine (Ym _ _ _ _).mono ?_;rintro e w1 ⟨⟨rfl, hr⟩ | ⟨rfl, hr⟩, rfl⟩
    ·cases e0 : (z != 0)
     ·go_wp2;refine ⟨⟨k + 1, by omega, by go_num, fun i h h' h'' => ?_, hB1, hb⟩, by simp [intOf]; omega⟩
      by_cases e : i = k
      ·subst e;rw [za HX];exact Or.inl (by simpa using e0)
      ·exact hall i h h' (by omega)
     ·cases e3 : (kd != 3)
      ·go_wp2;refine ⟨⟨k + 1, by omega, by go_num, fun i h h' h'' => ?_, hB1, hb⟩, by simp [intOf]; omega⟩
       by_cases e : i = k
       ·subst e;rw [za HX, za HY]
        simp at e0 e3
        exact Or.inr ⟨e3, by omega⟩
       ·exact hall i h h' (by omega)
      ·go_wp2;go_ret;refine ⟨zk fun h => ?_, hb⟩;have := h.2 k hltj hlt;rw [za HX, za HY] at this
       simp at e0 e3
       rcases this with h1 | ⟨h1, _⟩
       ·exact e0 h1
       ·exact e3 h1
    ·go_wp2;go_ret;refine ⟨zk fun h => ?_, hb⟩;have := h.2 k hltj hlt;rw [za HX, za HY] at this
     rcases this with h1 | ⟨_, h1 | h1⟩ <;> exact hr (by omega)
   ·go_wp2;go_ret;exact ⟨zA ⟨za HL, fun i h h' => hall i h h' (by omega)⟩, hb⟩
 ·have hlb : ((zs.length : Int) != (n.joints.length : Int)) = true := by rw [bne_iff_ne]; omega
  have HL := zd hlen;clear hlen;go_enter Tryz.func65, Tryz.ntmps65;go_wp2;go_ret;exact ⟨zk fun h => za HL h.1, bw0⟩

set_option maxHeartbeats 1000000 in
theorem xE (v : Value) (n : Nt) (b0 : Option Addr) (zs : List Int) (cb : Nat) (w : World) {L L' : Nat} (hv : zE L w v n) (hz : zF L' w b0 zs) (hl : n.pieces.length <= 1048576) (hl' : n.joints.length <= 1048576)
  (hle : ∀ i (h : i < n.joints.length), n.joints[i].ends.length <= 1048576 /\ n.joints[i].name.size <= maxLen) (hnm : ∀ i (h : i < n.pieces.length), n.pieces[i].name.size <= maxLen) :
  Calls Tryz.prog 30 #[v, .slice b0 zs.length cb] w fun e w' => yG (LiesRight n zs) e /\ Below w.heap.size w w' := by
 have hvv := hv;obtain ⟨a, c, ca, cc, rfl, hp, hj⟩ := hv;go_enter Tryz.func30, Tryz.ntmps30;go_wp2_with fail;refine (qi _ n _ (L := L) ?hA hl hl' hle hnm).mono ?_
 case hA => exact hvv.below bw0
 rintro e w1 ⟨⟨rfl, hr⟩ | ⟨rfl, hr⟩, hb1⟩
 ·have hbw := Below.trans (bw0 : Below w.heap.size w _) (hb1.mono (by simp <;> omega));have hB1 : zg w1 w.heap.size [.slice a n.pieces.length ca, .slice c n.joints.length cc] := (zf _ _ _).below hb1;have x0 := hB1.2.1 0 _ rfl;have x1 := hB1.2.1 1 _ rfl;have HR := zd hr;clear hr;go_wp2_with fail;refine (l1lies_any _ n _ _ _ _ (hvv.below hbw) (hz.below hbw) hl').mono ?_;rintro e w2 ⟨⟨rfl, hr2⟩ | ⟨rfl, hr2⟩, hb2⟩
  ·go_wp2;go_ret;exact ⟨zA ⟨za HR, hr2⟩, below_then hbw hb2⟩
  ·go_wp2;go_ret;exact ⟨zk fun h => hr2 h.2, below_then hbw hb2⟩
 ·have hbw := Below.trans (bw0 : Below w.heap.size w _) (hb1.mono (by simp <;> omega));have HR := zd hr;clear hr;go_wp2;go_ret;exact ⟨zk fun h => za HR h.1, hbw⟩
end Go.Proofs.YthdioeofdofleaaGreatDoor
