import Derived.Test.YtcggkfpkkhjdhaaGreatRows
import Derived.Test.YtcggkfpkkhjdhaaGreatMPlain
import Derived.WalkSpells
import Derived.Laws.BytesArg
import Derived.Deep.Slices
namespace Go.Proofs.YtcggkfpkkhjdhaaGreat
open Go.RowKit

set_option maxHeartbeats 400000 in
theorem toPiece_any (s : ByteArray) (l sp br : Int) (w : World) :
    Calls Tryz.prog 67 #[.agg #[.string s, .int .i64 l, .int .i64 sp, .int .i64 br]] w fun e w' =>
      e = .returned (.agg #[.string s, .int .i64 l, .int .i64 sp, .int .i64 br]) ∧ Below w.heap.size w w' := by
  go_enter Tryz.func67, Tryz.ntmps67
  go_wp2
  exact bodyPost_ret (v := .agg #[.string s, .int .i64 l, .int .i64 sp, .int .i64 br]) (by simp [results, Tryz.results67, go_sem]) rfl ⟨rfl, by
    repeat (first | exact Below.refl _ _ | refine Below.setCell ?_ (by simp <;> omega) _ | refine Below.alloc ?_ (by simp <;> omega) _)⟩

set_option maxHeartbeats 400000 in
theorem toEnd_any (p s : Int) (w : World) :
    Calls Tryz.prog 123 #[.agg #[.int .i64 p, .int .i64 s]] w fun e w' =>
      e = .returned (.agg #[.int .i64 p, .int .i64 s]) ∧ Below w.heap.size w w' := by
  go_enter Tryz.func123, Tryz.ntmps123
  go_wp2
  exact bodyPost_ret (v := .agg #[.int .i64 p, .int .i64 s]) (by simp [results, Tryz.results123, go_sem]) rfl ⟨rfl, by
    repeat (first | exact Below.refl _ _ | refine Below.setCell ?_ (by simp <;> omega) _ | refine Below.alloc ?_ (by simp <;> omega) _)⟩

theorem info_Piece : (Tryz.prog.info? 70).map (fun i => (i.zero, i.size, i.bytes)) = some (some (.agg #[.string ⟨#[]⟩, .int .i64 0, .int .i64 0, .int .i64 0]), 4, 40) := by kernel_rfl
theorem info_End : (Tryz.prog.info? 134).map (fun i => (i.zero, i.size, i.bytes)) = some (some (.agg #[.int .i64 0, .int .i64 0]), 2, 16) := by kernel_rfl
theorem info_Joint : (Tryz.prog.info? 147).map (fun i => (i.zero, i.size, i.bytes)) = some (some (.agg #[.int .i64 0, .string ⟨#[]⟩, .slice none 0 0]), 3, 48) := by kernel_rfl

/-- make([]T, n) with elements of several cells: what is laid, said by a row whose content nobody asks for. -/
theorem run_make_rows {P : Program} (t e : TypeId) (z : Value) (size bytes : Nat) (ht : P.underlying t = some (.slice e)) (hi : (P.info? e).map (fun i => (i.zero, i.size, i.bytes)) = some (some z, size, bytes))
    (n : Nat) (hb : bytes * n ≤ 281474976710656) (hn : n ≤ 1048576) (w : World) :
    (Instr.makeSlice t (.int .i64 n) (.int .i64 n)).run P w = .ok (.slice (some ⟨w.heap.size, 0, none⟩) n n) (w.alloc (.cells (madeCells z.cells (n * size)) e)) := by
  cases hinf : P.info? e with
  | none => rw [hinf] at hi; simp at hi
  | some i =>
    rw [hinf] at hi
    simp only [Option.map_some, Option.some.injEq, Prod.mk.injEq] at hi
    obtain ⟨hz, hs, hbb⟩ := hi
    have hb' : ((i.bytes : Int)) * (n : Int) ≤ 281474976710656 := by
      have h : ((i.bytes * n : Nat) : Int) ≤ 281474976710656 := by rw [hbb]; omega
      rwa [Int.natCast_mul] at h
    have h := run_make (P := P) w t e i z ht hinf hz .i64 .i64 n n (by omega) (by omega) hb' (by omega)
    rw [hs] at h
    simpa using h

theorem row_made (w : World) (z : Array Value) (n : Nat) (t : TypeId) : (w.alloc (.cells (madeCells z n) t)).rowIs w.heap.size t n (fun i => z[i % z.size]!) :=
  ⟨_, Deep.blk_alloc_new _ _, size_madeCells _ _, fun i hi => by simp [madeCells, hi]⟩

def rowPc (ps : List Pc) (f : Nat → Value) (k : Nat) : Prop :=
  ∀ i (h : i < ps.length), i < k → f (i * 4) = .string ps[i].name ∧ f (i * 4 + 1) = .int .i64 ps[i].len ∧ f (i * 4 + 2) = .int .i64 ps[i].speed ∧ f (i * 4 + 3) = .int .i64 ps[i].brake

def rowEd (es : List Ed) (f : Nat → Value) (k : Nat) : Prop :=
  ∀ i (h : i < es.length), i < k → f (i * 2) = .int .i64 es[i].piece ∧ f (i * 2 + 1) = .int .i64 es[i].side

/-- The same as a row of the call's own: unfrozen, from block L on and below block U. -/
def PcsOwn (L U : Nat) (w : World) (a : Option Addr) (ps : List Pc) : Prop :=
  ∃ b f, a = some ⟨b, 0, none⟩ ∧ (L ≤ b ∧ b < U) ∧ w.rowIs b 70 (ps.length * 4) f ∧ rowPc ps f ps.length
def EdsOwn (L U : Nat) (w : World) (a : Option Addr) (es : List Ed) : Prop :=
  ∃ b f, a = some ⟨b, 0, none⟩ ∧ (L ≤ b ∧ b < U) ∧ w.rowIs b 134 (es.length * 2) f ∧ rowEd es f es.length
def rowJt (js : List Jt) (L U : Nat) (w : World) (f : Nat → Value) (k : Nat) : Prop :=
  ∀ i (h : i < js.length), i < k → ∃ ea, f (i * 3) = .int .i64 js[i].kind ∧ f (i * 3 + 1) = .string js[i].name ∧ f (i * 3 + 2) = .slice ea js[i].ends.length js[i].ends.length ∧ EdsOwn L U w ea js[i].ends
def JtsOwn (L U : Nat) (w : World) (a : Option Addr) (js : List Jt) : Prop :=
  ∃ b f, a = some ⟨b, 0, none⟩ ∧ (L ≤ b ∧ b < U) ∧ w.rowIs b 147 (js.length * 3) f ∧ rowJt js L U w f js.length
def NetOwn (L U : Nat) (w : World) (v : Value) (n : Nt) : Prop :=
  ∃ a c, v = .agg #[.slice a n.pieces.length n.pieces.length, .slice c n.joints.length n.joints.length] ∧ PcsOwn L U w a n.pieces ∧ JtsOwn L U w c n.joints

theorem PcsOwn.at {L U : Nat} {w : World} {a : Option Addr} {ps : List Pc} (h : PcsOwn L U w a ps) : PcsAt L w a ps := by
  obtain ⟨b, f, rfl, hb, hrow, hf⟩ := h
  intro i hi
  obtain ⟨e0, e1, e2, e3⟩ := hf i hi hi
  refine ⟨b, 0, rfl, ⟨hb.1, hrow.lt⟩, ?_, ?_, ?_, ?_⟩
  · rw [← e0, hrow.cell (by omega)]; simp
  · rw [← e1, hrow.cell (by omega)]; simp
  · rw [← e2, hrow.cell (by omega)]; simp
  · rw [← e3, hrow.cell (by omega)]; simp
theorem EdsOwn.at {L U : Nat} {w : World} {a : Option Addr} {es : List Ed} (h : EdsOwn L U w a es) : EdsAt L w a es := by
  obtain ⟨b, f, rfl, hb, hrow, hf⟩ := h
  intro i hi
  obtain ⟨e0, e1⟩ := hf i hi hi
  refine ⟨b, 0, rfl, ⟨hb.1, hrow.lt⟩, ?_, ?_⟩
  · rw [← e0, hrow.cell (by omega)]; simp
  · rw [← e1, hrow.cell (by omega)]; simp
theorem JtsOwn.at {L U : Nat} {w : World} {a : Option Addr} {js : List Jt} (h : JtsOwn L U w a js) : JtsAt L w a js := by
  obtain ⟨b, f, rfl, hb, hrow, hf⟩ := h
  intro i hi
  obtain ⟨ea, e0, e1, e2, he⟩ := hf i hi hi
  refine ⟨b, 0, ea, js[i].ends.length, rfl, ⟨hb.1, hrow.lt⟩, ?_, ?_, ?_, he.at⟩
  · rw [← e0, hrow.cell (by omega)]; simp
  · rw [← e1, hrow.cell (by omega)]; simp
  · rw [← e2, hrow.cell (by omega)]; simp
theorem NetOwn.at {L U : Nat} {w : World} {v : Value} {n : Nt} (h : NetOwn L U w v n) : NetAt L w v n := by
  obtain ⟨a, c, hv, hp, hj⟩ := h
  exact ⟨a, c, _, _, hv, hp.at, hj.at⟩

/-- All blocks from L on and below U are as they were. -/
def Stays (L U : Nat) (w w' : World) : Prop := ∀ k, L ≤ k → k < U → w'.heap[k]? = w.heap[k]?
theorem stays_below {L U : Nat} {w w' : World} (hb : Below w.heap.size w w') (hU : U ≤ w.heap.size) : Stays L U w w' := fun k _ h => hb.block k (by omega)
theorem stays_setCell {L U : Nat} (w : World) {p : Addr} (hp : p.block < L) (v : Value) : Stays L U w (w.setCell p v) := fun k h _ => Below.heap_setCell w p v k (by omega)
theorem Stays.trans {L U : Nat} {a b c : World} (h : Stays L U a b) (k : Stays L U b c) : Stays L U a c := fun i h1 h2 => (k i h1 h2).trans (h i h1 h2)

theorem PcsOwn.stays {L U : Nat} {w w' : World} {a : Option Addr} {ps : List Pc} (h : PcsOwn L U w a ps) (hk : Stays L U w w') : PcsOwn L U w' a ps := by
  obtain ⟨b, f, ha, hb, hrow, hf⟩ := h
  exact ⟨b, f, ha, hb, hrow.of_block (hk b hb.1 hb.2), hf⟩
theorem EdsOwn.stays {L U : Nat} {w w' : World} {a : Option Addr} {es : List Ed} (h : EdsOwn L U w a es) (hk : Stays L U w w') : EdsOwn L U w' a es := by
  obtain ⟨b, f, ha, hb, hrow, hf⟩ := h
  exact ⟨b, f, ha, hb, hrow.of_block (hk b hb.1 hb.2), hf⟩
theorem rowJt.stays {js : List Jt} {L U : Nat} {w w' : World} {f : Nat → Value} {k : Nat} (h : rowJt js L U w f k) (hk : Stays L U w w') : rowJt js L U w' f k := by
  intro i hi hik
  obtain ⟨ea, e0, e1, e2, he⟩ := h i hi hik
  exact ⟨ea, e0, e1, e2, he.stays hk⟩
theorem JtsOwn.stays {L U : Nat} {w w' : World} {a : Option Addr} {js : List Jt} (h : JtsOwn L U w a js) (hk : Stays L U w w') : JtsOwn L U w' a js := by
  obtain ⟨b, f, ha, hb, hrow, hf⟩ := h
  exact ⟨b, f, ha, hb, hrow.of_block (hk b hb.1 hb.2), hf.stays hk⟩
theorem NetOwn.stays {L U : Nat} {w w' : World} {v : Value} {n : Nt} (h : NetOwn L U w v n) (hk : Stays L U w w') : NetOwn L U w' v n := by
  obtain ⟨a, c, hv, hp, hj⟩ := h
  exact ⟨a, c, hv, hp.stays hk, hj.stays hk⟩

theorem PcsOwn.mono {L U L' U' : Nat} {w : World} {a : Option Addr} {ps : List Pc} (h : PcsOwn L U w a ps) (hL : L' ≤ L) (hU : U ≤ U') : PcsOwn L' U' w a ps := by
  obtain ⟨b, f, ha, hb, r⟩ := h
  exact ⟨b, f, ha, ⟨by omega, by omega⟩, r⟩
theorem EdsOwn.mono {L U L' U' : Nat} {w : World} {a : Option Addr} {es : List Ed} (h : EdsOwn L U w a es) (hL : L' ≤ L) (hU : U ≤ U') : EdsOwn L' U' w a es := by
  obtain ⟨b, f, ha, hb, r⟩ := h
  exact ⟨b, f, ha, ⟨by omega, by omega⟩, r⟩
theorem JtsOwn.mono {L U L' U' : Nat} {w : World} {a : Option Addr} {js : List Jt} (h : JtsOwn L U w a js) (hL : L' ≤ L) (hU : U ≤ U') : JtsOwn L' U' w a js := by
  obtain ⟨b, f, ha, hb, hr, hf⟩ := h
  exact ⟨b, f, ha, ⟨by omega, by omega⟩, hr, fun i hi hik => let ⟨ea, e0, e1, e2, he⟩ := hf i hi hik; ⟨ea, e0, e1, e2, he.mono hL hU⟩⟩

set_option maxHeartbeats 400000 in
theorem toPieceS_own (a : Option Addr) (ps : List Pc) (cap : Nat) (w : World) (hl : ps.length ≤ 1048576) {L : Nat} (hp : PcsAt L w a ps) :
    Calls Tryz.prog 31 #[.slice a ps.length cap] w fun e w' =>
      ∃ a', e = .returned (.slice a' ps.length ps.length) ∧ PcsOwn w.heap.size w'.heap.size w' a' ps ∧ Below w.heap.size w w' := by
  have hmk := run_make_rows (P := Tryz.prog) 38 70 _ 4 40 (by kernel_rfl) info_Piece ps.length (by omega) hl
  go_enter Tryz.func31, Tryz.ntmps31
  go_wp2
  go_loopw [4] (fun i wr => ∃ (k : Nat) (f : Nat → Value), k ≤ ps.length ∧ i = .int .i64 k ∧ wr.rowIs w.heap.size 70 (ps.length * 4) f ∧ rowPc ps f k ∧ Below w.heap.size w wr) (fun i _ => ps.length - (intOf i).toNat)
  case atStart => exact ⟨0, _, Nat.zero_le _, rfl, row_made _ _ _ _, fun i h h' => by omega, (Below.refl _ _).alloc (Nat.le_refl _) _⟩
  case round =>
    obtain ⟨k, f, hk, rfl, hrow, hf, hb⟩ := hrel
    clear hmk
    by_cases hlt : k < ps.length
    · obtain ⟨b, off, rfl, hbs, c0, c1, c2, c3⟩ := hp.below hb k hlt
      go_wp2_with fail
      refine (toPiece_any _ _ _ _ _).mono ?_
      rintro e w1 ⟨rfl, hb1⟩
      have hrow1 := hrow.of_block (hb1.block _ hrow.lt)
      have z0 := hrow1.frozen (k * 4)
      have z1 := hrow1.frozen (k * 4 + 1)
      have z2 := hrow1.frozen (k * 4 + 2)
      have z3 := hrow1.frozen (k * 4 + 3)
      have y0 := hrow1.cell (i := k * 4) (by omega)
      have y1 := hrow1.cell (i := k * 4 + 1) (by omega)
      have y2 := hrow1.cell (i := k * 4 + 2) (by omega)
      have y3 := hrow1.cell (i := k * 4 + 3) (by omega)
      have HR := hide hrow1
      clear hrow1
      go_wp2
      go_roundw
      case rel =>
        refine ⟨k + 1, _, by omega, by go_num, ((((unhide HR).set _ _).set _ _).set _ _).set _ _, ?_, ?_⟩
        · intro i h h'
          by_cases e : i = k
          · subst e
            simp
          · have := hf i h (by omega)
            refine ⟨?_, ?_, ?_, ?_⟩ <;> dsimp only <;> (repeat rw [if_neg (by omega)])
            · exact this.1
            · exact this.2.1
            · exact this.2.2.1
            · exact this.2.2.2
        · have := below_then hb hb1
          repeat (first | exact this | refine Below.setCell ?_ (by simp <;> omega) _)
      case measure => simp [intOf]; omega
    · obtain rfl : k = ps.length := by omega
      go_wp2
      go_ret
      exact ⟨_, rfl, ⟨_, f, rfl, ⟨Nat.le_refl _, hrow.lt⟩, hrow, hf⟩, hb⟩

set_option maxHeartbeats 400000 in
theorem toEndS_own (a : Option Addr) (es : List Ed) (cap : Nat) (w : World) (hl : es.length ≤ 1048576) {L : Nat} (hp : EdsAt L w a es) :
    Calls Tryz.prog 101 #[.slice a es.length cap] w fun e w' =>
      ∃ a', e = .returned (.slice a' es.length es.length) ∧ EdsOwn w.heap.size w'.heap.size w' a' es ∧ Below w.heap.size w w' := by
  have hmk := run_make_rows (P := Tryz.prog) 145 134 _ 2 16 (by kernel_rfl) info_End es.length (by omega) hl
  go_enter Tryz.func101, Tryz.ntmps101
  go_wp2
  go_loopw [4] (fun i wr => ∃ (k : Nat) (f : Nat → Value), k ≤ es.length ∧ i = .int .i64 k ∧ wr.rowIs w.heap.size 134 (es.length * 2) f ∧ rowEd es f k ∧ Below w.heap.size w wr) (fun i _ => es.length - (intOf i).toNat)
  case atStart => exact ⟨0, _, Nat.zero_le _, rfl, row_made _ _ _ _, fun i h h' => by omega, (Below.refl _ _).alloc (Nat.le_refl _) _⟩
  case round =>
    obtain ⟨k, f, hk, rfl, hrow, hf, hb⟩ := hrel
    clear hmk
    by_cases hlt : k < es.length
    · obtain ⟨b, off, rfl, hbs, c0, c1⟩ := hp.below hb k hlt
      go_wp2_with fail
      refine (toEnd_any _ _ _).mono ?_
      rintro e w1 ⟨rfl, hb1⟩
      have hrow1 := hrow.of_block (hb1.block _ hrow.lt)
      have z0 := hrow1.frozen (k * 2)
      have z1 := hrow1.frozen (k * 2 + 1)
      have y0 := hrow1.cell (i := k * 2) (by omega)
      have y1 := hrow1.cell (i := k * 2 + 1) (by omega)
      have HR := hide hrow1
      clear hrow1
      go_wp2
      go_roundw
      case rel =>
        refine ⟨k + 1, _, by omega, by go_num, ((unhide HR).set _ _).set _ _, ?_, ?_⟩
        · intro i h h'
          by_cases e : i = k
          · subst e
            simp
          · have := hf i h (by omega)
            refine ⟨?_, ?_⟩ <;> dsimp only <;> (repeat rw [if_neg (by omega)])
            · exact this.1
            · exact this.2
        · have := below_then hb hb1
          repeat (first | exact this | refine Below.setCell ?_ (by simp <;> omega) _)
      case measure => simp [intOf]; omega
    · obtain rfl : k = es.length := by omega
      go_wp2
      go_ret
      exact ⟨_, rfl, ⟨_, f, rfl, ⟨Nat.le_refl _, hrow.lt⟩, hrow, hf⟩, hb⟩

set_option maxHeartbeats 400000 in
theorem toJoint_own (kd : Int) (s : ByteArray) (a : Option Addr) (es : List Ed) (cap : Nat) (w : World) (hl : es.length ≤ 1048576) {L : Nat} (hp : EdsAt L w a es) :
    Calls Tryz.prog 68 #[.agg #[.int .i64 kd, .string s, .slice a es.length cap]] w fun e w' =>
      ∃ a', e = .returned (.agg #[.int .i64 kd, .string s, .slice a' es.length es.length]) ∧ EdsOwn w.heap.size w'.heap.size w' a' es ∧ Below w.heap.size w w' := by
  go_enter Tryz.func68, Tryz.ntmps68
  go_wp2_with fail
  refine (toEndS_own a es cap _ hl (L := L) ?hA).mono ?_
  case hA => exact hp.below bw0
  rintro e w1 ⟨a1, rfl, he1, hb1⟩
  have hbw := Below.trans (bw0 : Below w.heap.size w _) (hb1.mono (by simp <;> omega))
  obtain ⟨hc, hf⟩ := bcell hb1
  have hz := hb1.size
  simp at hz he1
  go_wp2
  refine bodyPost_ret (v := .agg #[.int .i64 kd, .string s, .slice a1 es.length es.length]) (by simp [results, Tryz.results68, go_sem, hc]) rfl ⟨a1, rfl, (he1.stays ?_).mono (by omega) (by simp [World.setCell]), (by repeat (first | with_reducible exact Below.refl _ _ | with_reducible exact hbw | refine bwS ?_ | refine bwA ?_ | refine Below.drew ?_ | refine below_draws ?_ _ | exact hbw | exact Below.refl _ _))⟩
  exact (((stays_setCell _ (by simp) _).trans (stays_setCell _ (by simp) _)).trans (stays_setCell _ (by simp) _)).trans (stays_setCell _ (by simp) _)

set_option maxHeartbeats 400000 in
theorem toJointS_own (a : Option Addr) (js : List Jt) (cap : Nat) (w : World) (hl : js.length ≤ 1048576) (hle : ∀ i (h : i < js.length), js[i].ends.length ≤ 1048576) {L : Nat} (hp : JtsAt L w a js) :
    Calls Tryz.prog 32 #[.slice a js.length cap] w fun e w' =>
      ∃ a', e = .returned (.slice a' js.length js.length) ∧ JtsOwn w.heap.size w'.heap.size w' a' js ∧ Below w.heap.size w w' := by
  have hmk := run_make_rows (P := Tryz.prog) 39 147 _ 3 48 (by kernel_rfl) info_Joint js.length (by omega) hl
  go_enter Tryz.func32, Tryz.ntmps32
  go_wp2
  go_loopw [4] (fun i wr => ∃ (k : Nat) (f : Nat → Value), k ≤ js.length ∧ i = .int .i64 k ∧ wr.rowIs w.heap.size 147 (js.length * 3) f ∧ rowJt js (w.heap.size + 1) wr.heap.size wr f k ∧ Below w.heap.size w wr) (fun i _ => js.length - (intOf i).toNat)
  case atStart => exact ⟨0, _, Nat.zero_le _, rfl, row_made _ _ _ _, fun i h h' => by omega, (Below.refl _ _).alloc (Nat.le_refl _) _⟩
  case round =>
    obtain ⟨k, f, hk, rfl, hrow, hf, hb⟩ := hrel
    clear hmk
    by_cases hlt : k < js.length
    · obtain ⟨b, off, ea, ec, rfl, hbs, c0, c1, c2, he⟩ := hp.below hb k hlt
      go_wp2_with fail
      refine (toJoint_own _ _ _ _ _ _ (hle k hlt) he).mono ?_
      rintro e w1 ⟨a1, rfl, he1, hb1⟩
      have hrow1 := hrow.of_block (hb1.block _ hrow.lt)
      have z0 := hrow1.frozen (k * 3)
      have z1 := hrow1.frozen (k * 3 + 1)
      have z2 := hrow1.frozen (k * 3 + 2)
      have y0 := hrow1.cell (i := k * 3) (by omega)
      have y1 := hrow1.cell (i := k * 3 + 1) (by omega)
      have y2 := hrow1.cell (i := k * 3 + 2) (by omega)
      have hl0 := hrow.lt
      have hs1 := hb1.size
      have HR := hide hrow1
      clear hrow1
      go_wp2
      go_roundw
      case rel =>
        refine ⟨k + 1, _, by omega, by go_num, (((unhide HR).set _ _).set _ _).set _ _, ?_, ?_⟩
        · intro i h h'
          by_cases e : i = k
          · subst e
            refine ⟨a1, by simp, by simp, by simp, ?_⟩
            exact ((he1.mono (by omega) (Nat.le_refl _)).stays (((stays_setCell _ (by simp) _).trans (stays_setCell _ (by simp) _)).trans (stays_setCell _ (by simp) _))).mono (Nat.le_refl _) (by simp [World.setCell])
          · obtain ⟨a2, f0, f1, f2, he2⟩ := hf i h (by omega)
            refine ⟨a2, ?_, ?_, ?_, ?_⟩
            · dsimp only; (repeat rw [if_neg (by omega)]); exact f0
            · dsimp only; (repeat rw [if_neg (by omega)]); exact f1
            · dsimp only; (repeat rw [if_neg (by omega)]); exact f2
            · exact ((he2.stays (stays_below hb1 (Nat.le_refl _))).stays (((stays_setCell _ (by simp) _).trans (stays_setCell _ (by simp) _)).trans (stays_setCell _ (by simp) _))).mono (Nat.le_refl _) (by simp [World.setCell]; omega)
        · have := below_then hb hb1
          repeat (first | exact this | refine Below.setCell ?_ (by simp <;> omega) _)
      case measure => simp [intOf]; omega
    · obtain rfl : k = js.length := by omega
      go_wp2
      go_ret
      refine ⟨_, rfl, ⟨_, f, rfl, ⟨Nat.le_refl _, hrow.lt⟩, hrow, fun i h h' => ?_⟩, hb⟩
      obtain ⟨a2, e0, e1, e2, he2⟩ := hf i h h
      exact ⟨a2, e0, e1, e2, he2.mono (by omega) (Nat.le_refl _)⟩

set_option maxHeartbeats 400000 in
theorem toNet_own (v : Value) (n : Nt) (w : World) {L : Nat} (hv : NetAt L w v n) (hl : n.pieces.length ≤ 1048576) (hl' : n.joints.length ≤ 1048576) (hle : ∀ i (h : i < n.joints.length), n.joints[i].ends.length ≤ 1048576) :
    Calls Tryz.prog 8 #[v] w fun e w' =>
      ∃ v', e = .returned v' ∧ NetOwn w.heap.size w'.heap.size w' v' n ∧ Below w.heap.size w w' := by
  obtain ⟨a, c, ca, cc, rfl, hp, hj⟩ := hv
  go_enter Tryz.func8, Tryz.ntmps8
  go_wp2_with fail
  refine (toPieceS_own a n.pieces ca _ hl (L := L) ?hA).mono ?_
  case hA => exact hp.below bw0
  rintro e w1 ⟨a1, rfl, he1, hb1⟩
  have hbw := Below.trans (bw0 : Below w.heap.size w _) (hb1.mono (by simp <;> omega))
  obtain ⟨hc, hf⟩ := bcell hb1
  have hz := hb1.size
  simp at hz he1
  go_wp2_with fail
  refine (toJointS_own c n.joints cc _ hl' hle (L := L) ?hA).mono ?_
  case hA => exact hj.below (by repeat (first | with_reducible exact Below.refl _ _ | with_reducible exact hbw | refine bwS ?_ | refine bwA ?_ | refine Below.drew ?_ | refine below_draws ?_ _ | exact hbw | exact Below.refl _ _))
  rintro e w2 ⟨a2, rfl, he2, hb2⟩
  have hbw2 := Below.trans ((by repeat (first | with_reducible exact Below.refl _ _ | with_reducible exact hbw | refine bwS ?_ | refine bwA ?_ | refine Below.drew ?_ | refine below_draws ?_ _ | exact hbw | exact Below.refl _ _)) : Below w.heap.size w _) (hb2.mono (by simp <;> omega))
  obtain ⟨hc2, hf2⟩ := bcellN (w.heap.size + 3) hb2 (by simp [World.setCell]; omega)
  have hz2 := hb2.size
  simp [World.setCell] at hz2 he2
  have he1' := ((he1.stays (stays_setCell _ (p := ⟨w.heap.size + 1 + 1, 0, none⟩) (by simp) (.slice a1 n.pieces.length n.pieces.length))).stays (stays_below hb2 (by simp [World.setCell]))).mono (Nat.le_refl _) hz2
  go_wp2
  refine bodyPost_ret (v := .agg #[.slice a1 n.pieces.length n.pieces.length, .slice a2 n.joints.length n.joints.length]) (by simp [results, Tryz.results8, go_sem, hc, hc2]) rfl
    ⟨_, rfl, ⟨_, _, rfl, (he1'.stays ?_).mono (by omega) (by simp [World.setCell]), (he2.stays ?_).mono (by omega) (by simp [World.setCell])⟩, (by repeat (first | with_reducible exact Below.refl _ _ | with_reducible exact hbw2 | refine bwS ?_ | refine bwA ?_ | refine Below.drew ?_ | refine below_draws ?_ _ | exact hbw2 | exact Below.refl _ _))⟩
  all_goals exact ((stays_setCell _ (by simp <;> omega) _).trans (stays_setCell _ (by simp <;> omega) _)).trans (stays_setCell _ (by simp <;> omega) _)

theorem toNet_any (v : Value) (n : Nt) (w : World) {L : Nat} (hv : NetAt L w v n) (hl : n.pieces.length ≤ 1048576) (hl' : n.joints.length ≤ 1048576) (hle : ∀ i (h : i < n.joints.length), n.joints[i].ends.length ≤ 1048576) :
    Calls Tryz.prog 8 #[v] w fun e w' =>
      ∃ v', e = .returned v' ∧ NetAt w.heap.size w' v' n ∧ Below w.heap.size w w' :=
  (toNet_own v n w hv hl hl' hle).mono fun _ _ ⟨v', he, hn, hb⟩ => ⟨v', he, hn.at, hb⟩
end Go.Proofs.YtcggkfpkkhjdhaaGreat

namespace Go.Proofs.YtcggkfpkkhjdhaaGreat
open Go.RowKit

/-- Of what was there only the blocks of S may have turned, and these in what their cells hold alone. -/
structure Only (S : Nat → Prop) (w w' : World) : Prop where
  os : w'.os = w.os
  tape : w'.tape = w.tape
  output : w'.output = w.output
  size : w.heap.size ≤ w'.heap.size
  block : ∀ k, k < w.heap.size → ¬ S k → w'.heap[k]? = w.heap[k]?
  shape : ∀ (k : Nat) (c : Array Value) (t : TypeId) (fr : Nat × Nat), w.heap[k]? = some (Obj.cells c t fr) → ∃ c' : Array Value, w'.heap[k]? = some (Obj.cells c' t fr) ∧ c'.size = c.size

theorem only_refl (S : Nat → Prop) (w : World) : Only S w w := ⟨rfl, rfl, rfl, Nat.le_refl _, fun _ _ _ => rfl, fun _ c _ _ h => ⟨c, h, rfl⟩⟩
theorem Only.trans {S : Nat → Prop} {a b c : World} (h : Only S a b) (k : Only S b c) : Only S a c :=
  ⟨k.os.trans h.os, k.tape.trans h.tape, k.output.trans h.output, Nat.le_trans h.size k.size, fun i hi hs => (k.block i (Nat.lt_of_lt_of_le hi h.size) hs).trans (h.block i hi hs),
   fun i c t fr hc => by
     obtain ⟨c1, h1, e1⟩ := h.shape i c t fr hc
     obtain ⟨c2, h2, e2⟩ := k.shape i c1 t fr h1
     exact ⟨c2, h2, e2.trans e1⟩⟩
theorem Only.mono {S T : Nat → Prop} {a b : World} (h : Only S a b) (hST : ∀ k, k < a.heap.size → S k → T k) : Only T a b :=
  ⟨h.os, h.tape, h.output, h.size, fun i hi hs => h.block i hi fun hk => hs (hST i hi hk), h.shape⟩
theorem only_of_below {S : Nat → Prop} {w w' : World} (h : Below w.heap.size w w') : Only S w w' :=
  ⟨h.os, h.tape, h.output, h.size, fun k hk _ => h.block k hk, fun k c t fr hc => by
    obtain ⟨hlt, _⟩ := Array.getElem?_eq_some_iff.1 hc
    exact ⟨c, (h.block k hlt).trans hc, rfl⟩⟩
theorem only_setCell {S : Nat → Prop} (w : World) {p : Addr} (hp : S p.block) (v : Value) : Only S w (w.setCell p v) :=
  ⟨rfl, rfl, rfl, by simp [World.setCell], fun k _ hs => Below.heap_setCell w p v k fun e => hs (e ▸ hp), fun k c t fr hc => by
    by_cases e : k = p.block
    · subst e
      refine ⟨if p.spot.isSome = true then c else c.setIfInBounds p.off v, ?_, by split <;> simp⟩
      simp [World.setCell, Array.getElem?_modify, hc]
    · exact ⟨c, (Below.heap_setCell w p v k e).trans hc, rfl⟩⟩
/-- A row stays a row. -/
theorem Only.row {S : Nat → Prop} {w w' : World} (h : Only S w w') {b t m : Nat} (hr : ∃ f, w.rowIs b t m f) : ∃ f, w'.rowIs b t m f := by
  obtain ⟨f, c, hb, hn, _⟩ := hr
  obtain ⟨c', hb', hn'⟩ := h.shape b c t (0, 0) hb
  exact ⟨fun i => c'[i]?.getD undef, c', hb', hn'.trans hn, fun i hi => by simp [show i < c'.size by omega]⟩
/-- Two rows of two types lie in two blocks. -/
theorem rows_apart {w : World} {b b' t t' m m' : Nat} {f f' : Nat → Value} (h : w.rowIs b t m f) (h' : w.rowIs b' t' m' f') (ht : t ≠ t') : b ≠ b' := by
  rintro rfl
  obtain ⟨c, hb, _⟩ := h
  obtain ⟨c', hb', _⟩ := h'
  rw [hb] at hb'
  simp at hb'
  exact ht hb'.2
theorem Only.below {S : Nat → Prop} {w w' : World} {B : Nat} (h : Only S w w') (hB : B ≤ w.heap.size) (hS : ∀ k, k < B → ¬ S k) : Below B w w' :=
  ⟨h.os, h.tape, h.output, h.size, fun k hk => h.block k (by omega) (hS k hk)⟩
theorem Only.stays {S : Nat → Prop} {w w' : World} {L U : Nat} (h : Only S w w') (hU : U ≤ w.heap.size) (hS : ∀ k, L ≤ k → k < U → ¬ S k) : Stays L U w w' :=
  fun k h1 h2 => h.block k (by omega) (hS k h1 h2)

/-- m cells of block b from off on, that may be written, and what they hold. -/
def OwnC (w : World) (b off m : Nat) (f : Nat → Value) : Prop := b < w.heap.size ∧ ∀ j, j < m → w.cell? ⟨b, off + j, none⟩ = some (f j) ∧ w.frozen? ⟨b, off + j, none⟩ = false

theorem OwnC.set {w : World} {b off m : Nat} {f : Nat → Value} (h : OwnC w b off m f) {i : Nat} (hi : i < m) (v : Value) : OwnC (w.setCell ⟨b, off + i, none⟩ v) b off m (fun j => if j = i then v else f j) := by
  refine ⟨by simpa [World.setCell] using h.1, fun j hj => ⟨?_, by simpa using (h.2 j hj).2⟩⟩
  by_cases e : j = i
  · subst e
    rw [World.cell?_setCell_same _ _ _ (h.2 j hj).1]
    simp
  · rw [World.cell?_setCell_other _ _ _ _ (by simp <;> omega)]
    simpa [e] using (h.2 j hj).1
theorem OwnC.of_block {w w' : World} {b off m : Nat} {f : Nat → Value} (h : OwnC w b off m f) (e : w'.heap[b]? = w.heap[b]?) (hs : w.heap.size ≤ w'.heap.size) : OwnC w' b off m f :=
  ⟨Nat.lt_of_lt_of_le h.1 hs, fun j hj => ⟨(World.cell?_of_block (w := w) (a := ⟨b, off + j, none⟩) e).trans (h.2 j hj).1, (World.frozen?_of_block (w := w) (a := ⟨b, off + j, none⟩) e).trans (h.2 j hj).2⟩⟩
theorem OwnC.below {w w' : World} {b off m : Nat} {f : Nat → Value} (h : OwnC w b off m f) (hb : Below w.heap.size w w') : OwnC w' b off m f := h.of_block (hb.block b h.1) hb.size
theorem OwnC.congr {w : World} {b off m : Nat} {f g : Nat → Value} (h : OwnC w b off m f) (e : ∀ j, j < m → f j = g j) : OwnC w b off m g :=
  ⟨h.1, fun j hj => ⟨by rw [← e j hj]; exact (h.2 j hj).1, (h.2 j hj).2⟩⟩
theorem own_row {w : World} {b t m : Nat} {f : Nat → Value} (h : w.rowIs b t m f) : OwnC w b 0 m f :=
  ⟨h.lt, fun j hj => ⟨by simpa using h.cell hj, by simpa using h.frozen j⟩⟩

/-- A list's cells, owned: none, or in one block. -/
def OwnL (w : World) (a : Option Addr) (m : Nat) (f : Nat → Value) : Prop := 0 < m → ∃ b off, a = some ⟨b, off, none⟩ ∧ OwnC w b off m f
/-- The block of a list. -/
def blk (a : Option Addr) (k : Nat) : Prop := ∃ b off, a = some ⟨b, off, none⟩ ∧ k = b
def marks (k0 : Int) (j : Nat) : Value := .int .i64 (k0 + j)

set_option maxHeartbeats 400000 in
theorem markIntS_any (a : Option Addr) (n cap : Nat) (k0 : Int) (f : Nat → Value) (w : World) (hn : n ≤ 1048576) (h0 : 0 ≤ k0) (h1 : k0 ≤ 1000000000000000) (ho : OwnL w a n f) :
    Calls Tryz.prog 19 #[.slice a n cap, .int .i64 k0] w fun e w' => e = .returned (.int .i64 (k0 + n)) ∧ OwnL w' a n (marks k0) ∧ Only (blk a) w w' := by
  go_enter Tryz.func19, Tryz.ntmps19
  go_wp2
  go_loopw [1, 5] (fun y x wr => ∃ k : Nat, k ≤ n ∧ x = .int .i64 k ∧ y = .int .i64 (k0 + k) ∧ OwnL wr a n (fun j => if j < k then marks k0 j else f j) ∧ Only (blk a) w wr) (fun _ x _ => n - (intOf x).toNat)
  case atStart => exact ⟨0, Nat.zero_le _, rfl, by simp, by simpa using ho, only_refl _ _⟩
  case round =>
    obtain ⟨k, hk, rfl, rfl, hO, hon⟩ := hrel
    by_cases hlt : k < n
    · obtain ⟨b, off, rfl, hC⟩ := hO (by omega)
      have y0 := (hC.2 k hlt).1
      have z0 := (hC.2 k hlt).2
      have HC := hide hC
      clear hC
      go_wp2
      refine ⟨⟨k + 1, by omega, by go_num, ?_, fun _ => ⟨b, off, rfl, ((unhide HC).set hlt _).congr fun j hj => ?_⟩, hon.trans (only_setCell _ ⟨b, off, rfl, rfl⟩ _)⟩, by simp [intOf]; omega⟩
      · exact congrArg (Value.int .i64) (by omega)
      · by_cases e : j = k
        · subst e; simp [marks]
        · by_cases e2 : j < k
          · simp [e, e2, show j < k + 1 by omega]
          · simp [e, e2, show ¬ j < k + 1 by omega]
    · obtain rfl : k = n := by omega
      go_wp2
      go_ret
      refine ⟨rfl, fun hp => ?_, hon⟩
      obtain ⟨b, off, ha, hC⟩ := hO hp
      exact ⟨b, off, ha, hC.congr fun j hj => by simp [hj]⟩

end Go.Proofs.YtcggkfpkkhjdhaaGreat

namespace Go.Proofs.YtcggkfpkkhjdhaaGreat
open Go.RowKit

set_option maxHeartbeats 400000 in
theorem markEndS_any (a : Option Addr) (n cap : Nat) (k0 : Int) (f : Nat → Value) (w : World) (hn : n ≤ 1048576) (h0 : 0 ≤ k0) (h1 : k0 ≤ 1000000000000000) (ho : OwnL w a (n * 2) f) :
    Calls Tryz.prog 93 #[.slice a n cap, .int .i64 k0] w fun e w' => e = .returned (.int .i64 (k0 + (n * 2 : Nat))) ∧ OwnL w' a (n * 2) (marks k0) ∧ Only (blk a) w w' := by
  go_enter Tryz.func93, Tryz.ntmps93
  go_wp2
  go_loopw [1, 5] (fun y x wr => ∃ k : Nat, k ≤ n ∧ x = .int .i64 k ∧ y = .int .i64 (k0 + (k * 2 : Nat)) ∧ OwnL wr a (n * 2) (fun j => if j < k * 2 then marks k0 j else f j) ∧ Only (blk a) w wr) (fun _ x _ => n - (intOf x).toNat)
  case atStart => exact ⟨0, Nat.zero_le _, rfl, by simp, by simpa using ho, only_refl _ _⟩
  case round =>
    obtain ⟨k, hk, rfl, rfl, hO, hon⟩ := hrel
    by_cases hlt : k < n
    · obtain ⟨b, off, rfl, hC⟩ := hO (by omega)
      have y0 := (hC.2 (k * 2) (by omega)).1
      have z0 := (hC.2 (k * 2) (by omega)).2
      have y1 := (hC.2 (k * 2 + 1) (by omega)).1
      have z1 := (hC.2 (k * 2 + 1) (by omega)).2
      simp only [← Nat.add_assoc] at y0 z0 y1 z1
      have HC := hide hC
      clear hC
      go_wp2
      refine ⟨⟨k + 1, by omega, by go_num, congrArg (Value.int .i64) (by omega), fun _ => ⟨b, off, rfl, ?_⟩, ((hon.trans (only_setCell _ ⟨b, off, rfl, rfl⟩ _)).trans (only_setCell _ ⟨b, off, rfl, rfl⟩ _))⟩, by simp [intOf]; omega⟩
      refine OwnC.congr (f := ?f) ?h1 fun j hj => ?h2
      case h1 => exact (((unhide HC).set (i := k * 2) (by omega) _).set (i := k * 2 + 1) (by omega) _)
      case h2 =>
        by_cases e2 : j < k * 2
        · (repeat rw [if_neg (by omega)])
          rw [if_pos e2, if_pos (by omega)]
        · by_cases e3 : j < (k + 1) * 2
          · have hj3 : j = k * 2 ∨ j = k * 2 + 1 := by omega
            rw [if_pos e3]
            rcases hj3 with rfl | rfl
            all_goals (simp [marks] <;> omega)
          · (repeat rw [if_neg (by omega)])
    · obtain rfl : k = n := by omega
      go_wp2
      go_ret
      refine ⟨rfl, fun hp => ?_, hon⟩
      obtain ⟨b, off, ha, hC⟩ := hO hp
      exact ⟨b, off, ha, hC.congr fun j hj => by simp [hj]⟩

set_option maxHeartbeats 400000 in
theorem markStepS_any (a : Option Addr) (n cap : Nat) (k0 : Int) (f : Nat → Value) (w : World) (hn : n ≤ 1048576) (h0 : 0 ≤ k0) (h1 : k0 ≤ 1000000000000000) (ho : OwnL w a (n * 2) f) :
    Calls Tryz.prog 52 #[.slice a n cap, .int .i64 k0] w fun e w' => e = .returned (.int .i64 (k0 + (n * 2 : Nat))) ∧ OwnL w' a (n * 2) (marks k0) ∧ Only (blk a) w w' := by
  go_enter Tryz.func52, Tryz.ntmps52
  go_wp2
  go_loopw [1, 5] (fun y x wr => ∃ k : Nat, k ≤ n ∧ x = .int .i64 k ∧ y = .int .i64 (k0 + (k * 2 : Nat)) ∧ OwnL wr a (n * 2) (fun j => if j < k * 2 then marks k0 j else f j) ∧ Only (blk a) w wr) (fun _ x _ => n - (intOf x).toNat)
  case atStart => exact ⟨0, Nat.zero_le _, rfl, by simp, by simpa using ho, only_refl _ _⟩
  case round =>
    obtain ⟨k, hk, rfl, rfl, hO, hon⟩ := hrel
    by_cases hlt : k < n
    · obtain ⟨b, off, rfl, hC⟩ := hO (by omega)
      have y0 := (hC.2 (k * 2) (by omega)).1
      have z0 := (hC.2 (k * 2) (by omega)).2
      have y1 := (hC.2 (k * 2 + 1) (by omega)).1
      have z1 := (hC.2 (k * 2 + 1) (by omega)).2
      simp only [← Nat.add_assoc] at y0 z0 y1 z1
      have HC := hide hC
      clear hC
      go_wp2
      refine ⟨⟨k + 1, by omega, by go_num, congrArg (Value.int .i64) (by omega), fun _ => ⟨b, off, rfl, ?_⟩, ((hon.trans (only_setCell _ ⟨b, off, rfl, rfl⟩ _)).trans (only_setCell _ ⟨b, off, rfl, rfl⟩ _))⟩, by simp [intOf]; omega⟩
      refine OwnC.congr (f := ?f) ?h1 fun j hj => ?h2
      case h1 => exact (((unhide HC).set (i := k * 2) (by omega) _).set (i := k * 2 + 1) (by omega) _)
      case h2 =>
        by_cases e2 : j < k * 2
        · (repeat rw [if_neg (by omega)])
          rw [if_pos e2, if_pos (by omega)]
        · by_cases e3 : j < (k + 1) * 2
          · have hj3 : j = k * 2 ∨ j = k * 2 + 1 := by omega
            rw [if_pos e3]
            rcases hj3 with rfl | rfl
            all_goals (simp [marks] <;> omega)
          · (repeat rw [if_neg (by omega)])
    · obtain rfl : k = n := by omega
      go_wp2
      go_ret
      refine ⟨rfl, fun hp => ?_, hon⟩
      obtain ⟨b, off, ha, hC⟩ := hO hp
      exact ⟨b, off, ha, hC.congr fun j hj => by simp [hj]⟩







end Go.Proofs.YtcggkfpkkhjdhaaGreat

namespace Go.Proofs.YtcggkfpkkhjdhaaGreat
open Go.RowKit

/-- An answer that is a text. -/
def RetS (e : Ending) : Prop := ∃ s, e = .returned (.string s)

set_option maxRecDepth 100000 in
set_option maxHeartbeats 400000 in
theorem markText_any (k0 : Int) (w : World) (h1 : k0 ≤ 2000000000000000) :
    Calls Tryz.prog 92 #[.int .i64 k0] w fun e w' => RetS e ∧ Below w.heap.size w w' := by
  by_cases h0 : k0 ≤ 0
  · go_enter Tryz.func92, Tryz.ntmps92
    go_wp2
    go_ret
    exact ⟨⟨_, rfl⟩, Below.refl _ _⟩
  · go_enter Tryz.func92, Tryz.ntmps92
    go_wp2
    go_loopw [0, 3] (fun x y wr => ∃ (j : Int) (s : ByteArray), 0 ≤ j ∧ x = .int .i64 j ∧ y = .string s ∧ (s.size : Int) + j ≤ k0 ∧ Below w.heap.size w wr) (fun x _ _ => (intOf x).toNat)
    case atStart => exact ⟨k0, ⟨#[]⟩, by omega, rfl, rfl, by show (0 : Int) + k0 ≤ k0; omega, Below.refl _ _⟩
    case round =>
      obtain ⟨j, s, hj, rfl, rfl, hs, hb⟩ := hrel
      by_cases hlt : 0 < j
      · have hcv := run_convert_bytes_arg (P := Tryz.prog) (wr.alloc (.cells #[.int .u8 (48 + j % 10)] 5)) 224 5 (by kernel_rfl) (by kernel_rfl) wr.heap.size 0 1 1 [48 + j % 10] rfl
          (fun i hi => by (obtain rfl : i = 0 := by omega); simp) 9 (by kernel_rfl)
        have hd : (strOfNums [48 + j % 10]).size = 1 := rfl
        have HD := hide hd
        have hlim : ¬ 9223372036854775807 < (strOfNums [48 + j % 10]).size + s.size := by rw [hd]; omega
        clear hd
        have hsz := hb.size
        go_wp2
        refine ⟨⟨j / 10, _, by omega, rfl, rfl, ?_, (by repeat (first | with_reducible exact Below.refl _ _ | with_reducible exact hb | refine bwS ?_ | refine bwA ?_ | refine Below.drew ?_ | refine below_draws ?_ _ | exact hb | exact Below.refl _ _))⟩, by simp [intOf]; omega⟩
        rw [ByteArray.size_append, unhide HD]
        omega
      · have hlim : ¬ 9223372036854775807 < 1 + s.size := by omega
        go_wp2
        go_ret
        exact ⟨⟨_, rfl⟩, hb⟩

set_option maxHeartbeats 1000000 in
theorem markPieceS_any (b n cap : Nat) (k0 : Int) (w : World) (hn : n ≤ 1048576) (h0 : 0 ≤ k0) (h1 : k0 ≤ 1000000000000) (ho : ∃ f, w.rowIs b 70 (n * 4) f) :
    Calls Tryz.prog 50 #[.slice (some ⟨b, 0, none⟩) n cap, .int .i64 k0] w fun e w' => e = .returned (.int .i64 (k0 + (n * 4 : Nat))) ∧ Only (fun k => k = b) w w' := by
  go_enter Tryz.func50, Tryz.ntmps50
  go_wp2
  go_loopw [1, 5] (fun y x wr => ∃ k : Nat, k ≤ n ∧ x = .int .i64 k ∧ y = .int .i64 (k0 + (k * 4 : Nat)) ∧ Only (fun k => k = b) w wr) (fun _ x _ => n - (intOf x).toNat)
  case atStart => exact ⟨0, Nat.zero_le _, rfl, by simp, only_refl _ _⟩
  case round =>
    obtain ⟨k, hk, rfl, rfl, hon⟩ := hrel
    by_cases hlt : k < n
    · go_wp2_with fail
      refine (markText_any _ _ (by omega)).mono ?_
      rintro e w1 ⟨⟨s, rfl⟩, hb1⟩
      have hon1 : Only (fun k => k = b) w w1 := hon.trans (only_of_below hb1)
      obtain ⟨f, hrow⟩ := hon1.row ho
      have z0 := hrow.frozen (k * 4)
      have z1 := hrow.frozen (k * 4 + 1)
      have z2 := hrow.frozen (k * 4 + 2)
      have z3 := hrow.frozen (k * 4 + 3)
      have y0 := hrow.cell (i := k * 4) (by omega)
      have y1 := hrow.cell (i := k * 4 + 1) (by omega)
      have y2 := hrow.cell (i := k * 4 + 2) (by omega)
      have y3 := hrow.cell (i := k * 4 + 3) (by omega)
      clear hrow
      go_wp2
      exact ⟨⟨k + 1, by omega, by go_num, congrArg (Value.int .i64) (by omega), (((hon1.trans (only_setCell (S := fun k => k = b) _ rfl _)).trans (only_setCell (S := fun k => k = b) _ rfl _)).trans (only_setCell (S := fun k => k = b) _ rfl _)).trans (only_setCell (S := fun k => k = b) _ rfl _)⟩, by simp [intOf]; omega⟩
    · obtain rfl : k = n := by omega
      go_wp2
      go_ret
      exact ⟨rfl, hon⟩

set_option maxHeartbeats 1000000 in
theorem markJointS_any (b n cap : Nat) (k0 : Int) (f : Nat → Value) (E : Nat → Option Addr) (l : Nat → Nat) (w : World) (hn : n ≤ 1048576) (h0 : 0 ≤ k0) (h1 : k0 ≤ 1000000000000) (ho : w.rowIs b 147 (n * 3) f)
    (hE : ∀ i, i < n → f (i * 3 + 2) = .slice (E i) (l i) (l i) ∧ l i ≤ 1048576 ∧ ∃ eb, E i = some ⟨eb, 0, none⟩ ∧ ∃ g, w.rowIs eb 134 (l i * 2) g) :
    Calls Tryz.prog 51 #[.slice (some ⟨b, 0, none⟩) n cap, .int .i64 k0] w fun e w' => ∃ r : Int, e = .returned (.int .i64 r) ∧ k0 ≤ r ∧ r ≤ k0 + n * 3000000 ∧ Only (fun k => k = b ∨ ∃ i, i < n ∧ blk (E i) k) w w' := by
  go_enter Tryz.func51, Tryz.ntmps51
  go_wp2
  go_loopw [1, 5] (fun y x wr => ∃ (k : Nat) (r : Int) (f' : Nat → Value), k ≤ n ∧ x = .int .i64 k ∧ y = .int .i64 r ∧ k0 ≤ r ∧ r ≤ k0 + k * 3000000 ∧ wr.rowIs b 147 (n * 3) f' ∧ (∀ i, i < n → f' (i * 3 + 2) = f (i * 3 + 2)) ∧ Only (fun k => k = b ∨ ∃ i, i < n ∧ blk (E i) k) w wr) (fun _ x _ => n - (intOf x).toNat)
  case atStart => exact ⟨0, k0, f, Nat.zero_le _, rfl, rfl, by omega, by omega, ho, fun i _ => rfl, only_refl _ _⟩
  case round =>
    obtain ⟨k, r, f', hk, rfl, rfl, hr0, hr1, hrow, hf', hon⟩ := hrel
    by_cases hlt : k < n
    · obtain ⟨e2, hl2, eb, heb, hg⟩ := hE k hlt
      have z0 := hrow.frozen (k * 3)
      have y0 := hrow.cell (i := k * 3) (by omega)
      have y1 := hrow.cell (i := k * 3 + 1) (by omega)
      have y2 := hrow.cell (i := k * 3 + 2) (by omega)
      rw [hf' k hlt, e2, heb] at y2
      have hM := hrow.lt
      have HROW := hide hrow
      have HEB := hide heb
      clear hrow e2 heb
      go_wp2_with fail
      refine (markText_any _ _ (by omega)).mono ?_
      rintro e w1 ⟨⟨s, rfl⟩, hb1⟩
      have hrow1 : w1.rowIs b 147 (n * 3) _ := ((unhide HROW).set (k * 3) (.int .i64 r)).of_block (hb1.block b (by simpa [World.setCell] using hM))
      have hon1 : Only (fun k => k = b ∨ ∃ i, i < n ∧ blk (E i) k) w w1 := (hon.trans (only_setCell (p := ⟨b, k * 3, none⟩) _ (Or.inl rfl) _)).trans (only_of_below hb1)
      have z1 := hrow1.frozen (k * 3 + 1)
      have y1' := hrow1.cell (i := k * 3 + 1) (by omega)
      have y2' := hrow1.cell (i := k * 3 + 2) (by omega)
      rw [if_neg (by omega), hf' k hlt, (hE k hlt).1, unhide HEB] at y2'
      have HROW1 := hide hrow1
      clear hrow1
      go_wp2_with fail
      have hrow2 := (unhide HROW1).set (k * 3 + 1) (.string s)
      have hon2 := hon1.trans (only_setCell (p := ⟨b, k * 3 + 1, none⟩) w1 (Or.inl rfl) (.string s))
      obtain ⟨g2, hg2⟩ := hon2.row hg
      refine (markEndS_any _ (l k) _ _ g2 _ hl2 (by omega) (by omega) (fun _ => ⟨eb, 0, rfl, own_row hg2⟩)).mono ?_
      rintro e w2 ⟨rfl, _, hon3⟩
      have hne : b ≠ eb := rows_apart hrow2 hg2 (by decide)
      have hrow3 := hrow2.of_block (hon3.block b hrow2.lt (fun ⟨b', off', h1, h2⟩ => hne (by have h3 := congrArg Addr.block (Option.some.inj h1); dsimp only at h3; omega)))
      have hon4 : Only (fun k => k = b ∨ ∃ i, i < n ∧ blk (E i) k) w w2 := hon2.trans (hon3.mono (fun j _ ⟨b', off', h1, h2⟩ => Or.inr ⟨k, hlt, b', off', by rw [unhide HEB]; exact h1, h2⟩))
      have HROW3 := hide hrow3
      clear hrow2 hrow3 hg2
      go_wp2
      refine ⟨⟨k + 1, _, _, by omega, by go_num, rfl, by omega, by omega, unhide HROW3, fun i hi => ?_, hon4⟩, by simp [intOf]; omega⟩
      rw [if_neg (by omega), if_neg (by omega)]
      exact hf' i hi
    · obtain rfl : k = n := by omega
      go_wp2
      go_ret
      exact ⟨r, rfl, hr0, hr1, hon⟩

set_option maxHeartbeats 1000000 in
theorem markNet_any (v : Value) (n : Nt) (L U : Nat) (k0 : Int) (w : World) (hv : NetOwn L U w v n) (hl : n.pieces.length ≤ 1048576) (hl' : n.joints.length ≤ 1048576) (hle : ∀ i (h : i < n.joints.length), n.joints[i].ends.length ≤ 1048576) (h0 : 0 ≤ k0) (h1 : k0 ≤ 100000000000) :
    Calls Tryz.prog 18 #[v, .int .i64 k0] w fun e w' => ∃ r : Int, e = .returned (.int .i64 r) ∧ k0 ≤ r ∧ r ≤ k0 + 5000000000000 ∧ Only (fun k => L ≤ k ∧ k < U) w w' := by
  obtain ⟨a, c, rfl, ⟨pb, pf, rfl, hpb, hprow, _⟩, ⟨jb, jf, rfl, hjb, hjrow, hjf⟩⟩ := hv
  have hb0 : Below w.heap.size w (w.alloc (.cells #[.slice (some ⟨pb, 0, none⟩) n.pieces.length n.pieces.length, .slice (some ⟨jb, 0, none⟩) n.joints.length n.joints.length] 41)) := bw0
  have hne : pb ≠ jb := rows_apart hprow hjrow (by decide)
  have HP : Hid (∃ f, (w.alloc (.cells #[.slice (some ⟨pb, 0, none⟩) n.pieces.length n.pieces.length, .slice (some ⟨jb, 0, none⟩) n.joints.length n.joints.length] 41)).rowIs pb 70 (n.pieces.length * 4) f) := ⟨pf, hprow.alloc _⟩
  have HJ := hide hjrow
  have HJF := hide hjf
  have hjlt := hjrow.lt
  have hplt := hprow.lt
  clear hprow hjrow hjf
  go_enter Tryz.func18, Tryz.ntmps18
  go_wp2_with fail
  refine (markPieceS_any pb _ _ _ _ hl h0 (by omega) (unhide HP)).mono ?_
  rintro e w1 ⟨rfl, hon1⟩
  have hj1 : w1.rowIs jb 147 (n.joints.length * 3) jf := (unhide HJ).of_block ((hon1.block jb (by simp; omega) (fun e => hne e.symm)).trans (hb0.block jb hjlt))
  have hs1 := hon1.size
  simp at hs1
  have hx1 : w1.cell? ⟨w.heap.size, 1, none⟩ = some (.slice (some ⟨jb, 0, none⟩) n.joints.length n.joints.length) := by
    have hblk := hon1.block w.heap.size (by simp) (by omega)
    rw [World.cell?_of_block (w := w.alloc _) (a := ⟨w.heap.size, 1, none⟩) hblk]
    simp
  have honw : Only (fun k => L ≤ k ∧ k < U) w w1 := (only_of_below hb0).trans (hon1.mono fun k _ hk => by subst hk; exact hpb)
  have HJ1 := hide hj1
  clear hj1
  go_wp2_with fail
  haveI : Inhabited (Option Addr) := ⟨none⟩
  obtain ⟨E, hE⟩ : ∃ E : Nat → Option Addr, ∀ i (h : i < n.joints.length), jf (i * 3 + 2) = .slice (E i) n.joints[i].ends.length n.joints[i].ends.length ∧ EdsOwn L U w (E i) n.joints[i].ends := by
    obtain ⟨E, hE⟩ := Deep.choose_lt (n := n.joints.length) (p := fun i (ea : Option Addr) => ∀ h : i < n.joints.length, jf (i * 3 + 2) = .slice ea n.joints[i].ends.length n.joints[i].ends.length ∧ EdsOwn L U w ea n.joints[i].ends) (fun i hi => by
      obtain ⟨ea, _, _, h2, h3⟩ := unhide HJF i hi hi
      exact ⟨ea, fun _ => ⟨h2, h3⟩⟩)
    exact ⟨E, fun i h => hE i h h⟩
  refine (markJointS_any jb _ _ _ jf E (fun i => (n.joints[i]?.map fun j => j.ends.length).getD 0) _ hl' (by omega) (by omega) (unhide HJ1) (fun i hi => ?_)).mono ?_
  · obtain ⟨h2, h3⟩ := hE i hi
    obtain ⟨eb, ef, ha, hb, hrow, _⟩ := h3
    simp only [List.getElem?_eq_getElem hi, Option.map_some, Option.getD_some]
    exact ⟨h2, hle i hi, eb, ha, honw.row ⟨ef, hrow⟩⟩
  rintro e w2 ⟨r, rfl, hr0, hr1, hon2⟩
  go_wp2
  go_ret
  refine ⟨r, rfl, by omega, by omega, honw.trans (hon2.mono fun k _ hk => ?_)⟩
  rcases hk with rfl | ⟨i, hi, b', off', hb', rfl⟩
  · exact hjb
  · obtain ⟨_, eb, ef, ha, hb, _⟩ := hE i hi
    rw [ha] at hb'
    simp at hb'
    rw [← hb'.1]
    exact hb
end Go.Proofs.YtcggkfpkkhjdhaaGreat

