import Derived.Test.YteakpnmjdijfbaaRows
import Derived.Test.YteakpnmjdijfbaaAt
import Derived.WalkSpells
namespace Go.Proofs.Yteakpnmjdijfbaa
open Go.RowKit

set_option maxHeartbeats 400000 in
theorem toPiece_any (s : ByteArray) (l sp br : Int) (w : World) :
    Calls Try.prog 74 #[.agg #[.string s, .int .i64 l, .int .i64 sp, .int .i64 br]] w fun e w' =>
      e = .returned (.agg #[.string s, .int .i64 l, .int .i64 sp, .int .i64 br]) ∧ Below w.heap.size w w' := by
  go_enter Try.func74, Try.ntmps74
  go_wp2
  exact bodyPost_ret (v := .agg #[.string s, .int .i64 l, .int .i64 sp, .int .i64 br]) (by simp [results, Try.results74, go_sem]) rfl ⟨rfl, by
    repeat (first | exact Below.refl _ _ | refine Below.setCell ?_ (by simp <;> omega) _ | refine Below.alloc ?_ (by simp <;> omega) _)⟩

set_option maxHeartbeats 400000 in
theorem toEnd_any (p s : Int) (w : World) :
    Calls Try.prog 96 #[.agg #[.int .i64 p, .int .i64 s]] w fun e w' =>
      e = .returned (.agg #[.int .i64 p, .int .i64 s]) ∧ Below w.heap.size w w' := by
  go_enter Try.func96, Try.ntmps96
  go_wp2
  exact bodyPost_ret (v := .agg #[.int .i64 p, .int .i64 s]) (by simp [results, Try.results96, go_sem]) rfl ⟨rfl, by
    repeat (first | exact Below.refl _ _ | refine Below.setCell ?_ (by simp <;> omega) _ | refine Below.alloc ?_ (by simp <;> omega) _)⟩

theorem info_Piece : (Try.prog.info? 74).map (fun i => (i.zero, i.size, i.bytes)) = some (some (.agg #[.string ⟨#[]⟩, .int .i64 0, .int .i64 0, .int .i64 0]), 4, 40) := by kernel_rfl
theorem info_End : (Try.prog.info? 79).map (fun i => (i.zero, i.size, i.bytes)) = some (some (.agg #[.int .i64 0, .int .i64 0]), 2, 16) := by kernel_rfl
theorem info_Joint : (Try.prog.info? 94).map (fun i => (i.zero, i.size, i.bytes)) = some (some (.agg #[.int .i64 0, .string ⟨#[]⟩, .slice none 0 0]), 3, 48) := by kernel_rfl

/-- make([]T, n) with elements of several cells: what is laid, said by a row whose content nobody asks for. -/
theorem run_make_rows {P : Program} (t e : TypeId) (z : Value) (size bytes : Nat) (ht : P.underlying t = some (.slice e)) (hi : (P.info? e).map (fun i => (i.zero, i.size, i.bytes)) = some (some z, size, bytes))
    (n : Nat) (hb : bytes * n ≤ 281474976710656) (hn : n ≤ 1048576) (w : World) :
    (Instr.makeSlice t (.int .i64 n) (.int .i64 n)).run P w = .ok (.slice (some ⟨w.heap.size, 0, none⟩) n n) (w.alloc (.cells (madeCells z.cells (n * size)) e)) := by
  cases hinf : P.info? e with
  | none => rw [hinf] at hi; simp at hi
  | some i =>
    rw [hinf] at hi
    simp only [Option.map_some, Option.some.injEq, Prod.mk.injEq] at hi
    obtain ⟨hz, hs, hbb⟩ := hi
    have hb' : ((i.bytes : Int)) * (n : Int) ≤ 281474976710656 := by
      have h : ((i.bytes * n : Nat) : Int) ≤ 281474976710656 := by rw [hbb]; omega
      rwa [Int.natCast_mul] at h
    have h := run_make (P := P) w t e i z ht hinf hz .i64 .i64 n n (by omega) (by omega) hb' (by omega)
    rw [hs] at h
    simpa using h

theorem row_made (w : World) (z : Array Value) (n : Nat) (t : TypeId) : (w.alloc (.cells (madeCells z n) t)).rowIs w.heap.size t n (fun i => z[i % z.size]!) :=
  ⟨_, Deep.blk_alloc_new _ _, size_madeCells _ _, fun i hi => by simp [madeCells, hi]⟩

def rowPc (ps : List Pc) (f : Nat → Value) (k : Nat) : Prop :=
  ∀ i (h : i < ps.length), i < k → f (i * 4) = .string ps[i].name ∧ f (i * 4 + 1) = .int .i64 ps[i].len ∧ f (i * 4 + 2) = .int .i64 ps[i].speed ∧ f (i * 4 + 3) = .int .i64 ps[i].brake

set_option maxHeartbeats 400000 in
theorem toPieceS_any (a : Option Addr) (ps : List Pc) (cap : Nat) (w : World) (hl : ps.length ≤ 1048576) {L : Nat} (hp : PcsAt L w a ps) :
    Calls Try.prog 43 #[.slice a ps.length cap] w fun e w' =>
      ∃ b, e = .returned (.slice (some ⟨b, 0, none⟩) ps.length ps.length) ∧ PcsAt w.heap.size w' (some ⟨b, 0, none⟩) ps ∧ Below w.heap.size w w' := by
  have hmk := run_make_rows (P := Try.prog) 30 74 _ 4 40 (by kernel_rfl) info_Piece ps.length (by omega) hl
  go_enter Try.func43, Try.ntmps43
  go_wp2
  go_loopw [4] (fun i wr => ∃ (k : Nat) (f : Nat → Value), k ≤ ps.length ∧ i = .int .i64 k ∧ wr.rowIs w.heap.size 74 (ps.length * 4) f ∧ rowPc ps f k ∧ Below w.heap.size w wr) (fun i _ => ps.length - (intOf i).toNat)
  case atStart => exact ⟨0, _, Nat.zero_le _, rfl, row_made _ _ _ _, fun i h h' => by omega, (Below.refl _ _).alloc (Nat.le_refl _) _⟩
  case round =>
    obtain ⟨k, f, hk, rfl, hrow, hf, hb⟩ := hrel
    clear hmk
    by_cases hlt : k < ps.length
    · obtain ⟨b, off, rfl, hbs, c0, c1, c2, c3⟩ := hp.below hb k hlt
      go_wp2_with fail
      refine (toPiece_any _ _ _ _ _).mono ?_
      rintro e w1 ⟨rfl, hb1⟩
      have hrow1 := hrow.of_block (hb1.block _ hrow.lt)
      have z0 := hrow1.frozen (k * 4)
      have z1 := hrow1.frozen (k * 4 + 1)
      have z2 := hrow1.frozen (k * 4 + 2)
      have z3 := hrow1.frozen (k * 4 + 3)
      have y0 := hrow1.cell (i := k * 4) (by omega)
      have y1 := hrow1.cell (i := k * 4 + 1) (by omega)
      have y2 := hrow1.cell (i := k * 4 + 2) (by omega)
      have y3 := hrow1.cell (i := k * 4 + 3) (by omega)
      have HR := hide hrow1
      clear hrow1
      go_wp2
      go_roundw
      case rel =>
        refine ⟨k + 1, _, by omega, by go_num, ((((unhide HR).set _ _).set _ _).set _ _).set _ _, ?_, ?_⟩
        · intro i h h'
          by_cases e : i = k
          · subst e
            simp
          · have := hf i h (by omega)
            refine ⟨?_, ?_, ?_, ?_⟩ <;> dsimp only <;> (repeat rw [if_neg (by omega)])
            · exact this.1
            · exact this.2.1
            · exact this.2.2.1
            · exact this.2.2.2
        · have := below_then hb hb1
          repeat (first | exact this | refine Below.setCell ?_ (by simp <;> omega) _)
      case measure => simp [intOf]; omega
    · obtain rfl : k = ps.length := by omega
      go_wp2
      go_ret
      refine ⟨_, rfl, fun i h => ?_, hb⟩
      obtain ⟨e0, e1, e2, e3⟩ := hf i h h
      refine ⟨_, 0, rfl, ⟨Nat.le_refl _, hrow.lt⟩, ?_, ?_, ?_, ?_⟩
      · rw [← e0, hrow.cell (by omega)]; simp
      · rw [← e1, hrow.cell (by omega)]; simp
      · rw [← e2, hrow.cell (by omega)]; simp
      · rw [← e3, hrow.cell (by omega)]; simp

def rowEd (es : List Ed) (f : Nat → Value) (k : Nat) : Prop :=
  ∀ i (h : i < es.length), i < k → f (i * 2) = .int .i64 es[i].piece ∧ f (i * 2 + 1) = .int .i64 es[i].side

set_option maxHeartbeats 400000 in
theorem toEndS_any (a : Option Addr) (es : List Ed) (cap : Nat) (w : World) (hl : es.length ≤ 1048576) {L : Nat} (hp : EdsAt L w a es) :
    Calls Try.prog 92 #[.slice a es.length cap] w fun e w' =>
      ∃ b, e = .returned (.slice (some ⟨b, 0, none⟩) es.length es.length) ∧ EdsAt w.heap.size w' (some ⟨b, 0, none⟩) es ∧ Below w.heap.size w w' := by
  have hmk := run_make_rows (P := Try.prog) 92 79 _ 2 16 (by kernel_rfl) info_End es.length (by omega) hl
  go_enter Try.func92, Try.ntmps92
  go_wp2
  go_loopw [4] (fun i wr => ∃ (k : Nat) (f : Nat → Value), k ≤ es.length ∧ i = .int .i64 k ∧ wr.rowIs w.heap.size 79 (es.length * 2) f ∧ rowEd es f k ∧ Below w.heap.size w wr) (fun i _ => es.length - (intOf i).toNat)
  case atStart => exact ⟨0, _, Nat.zero_le _, rfl, row_made _ _ _ _, fun i h h' => by omega, (Below.refl _ _).alloc (Nat.le_refl _) _⟩
  case round =>
    obtain ⟨k, f, hk, rfl, hrow, hf, hb⟩ := hrel
    clear hmk
    by_cases hlt : k < es.length
    · obtain ⟨b, off, rfl, hbs, c0, c1⟩ := hp.below hb k hlt
      go_wp2_with fail
      refine (toEnd_any _ _ _).mono ?_
      rintro e w1 ⟨rfl, hb1⟩
      have hrow1 := hrow.of_block (hb1.block _ hrow.lt)
      have z0 := hrow1.frozen (k * 2)
      have z1 := hrow1.frozen (k * 2 + 1)
      have y0 := hrow1.cell (i := k * 2) (by omega)
      have y1 := hrow1.cell (i := k * 2 + 1) (by omega)
      have HR := hide hrow1
      clear hrow1
      go_wp2
      go_roundw
      case rel =>
        refine ⟨k + 1, _, by omega, by go_num, ((unhide HR).set _ _).set _ _, ?_, ?_⟩
        · intro i h h'
          by_cases e : i = k
          · subst e
            simp
          · have := hf i h (by omega)
            refine ⟨?_, ?_⟩ <;> dsimp only <;> (repeat rw [if_neg (by omega)])
            · exact this.1
            · exact this.2
        · have := below_then hb hb1
          repeat (first | exact this | refine Below.setCell ?_ (by simp <;> omega) _)
      case measure => simp [intOf]; omega
    · obtain rfl : k = es.length := by omega
      go_wp2
      go_ret
      refine ⟨_, rfl, fun i h => ?_, hb⟩
      obtain ⟨e0, e1⟩ := hf i h h
      refine ⟨_, 0, rfl, ⟨Nat.le_refl _, hrow.lt⟩, ?_, ?_⟩
      · rw [← e0, hrow.cell (by omega)]; simp
      · rw [← e1, hrow.cell (by omega)]; simp

set_option maxHeartbeats 400000 in
theorem toJoint_any (kd : Int) (s : ByteArray) (a : Option Addr) (es : List Ed) (cap : Nat) (w : World) (hl : es.length ≤ 1048576) {L : Nat} (hp : EdsAt L w a es) :
    Calls Try.prog 75 #[.agg #[.int .i64 kd, .string s, .slice a es.length cap]] w fun e w' =>
      ∃ b, e = .returned (.agg #[.int .i64 kd, .string s, .slice (some ⟨b, 0, none⟩) es.length es.length]) ∧ EdsAt w.heap.size w' (some ⟨b, 0, none⟩) es ∧ Below w.heap.size w w' := by
  go_enter Try.func75, Try.ntmps75
  go_wp2_with fail
  refine (toEndS_any a es cap _ hl (L := L) ?hA).mono ?_
  case hA => exact hp.below (by repeat (first | exact Below.refl _ _ | refine Below.setCell ?_ (by first | omega | (simp <;> omega) | (simp [World.setCell] <;> omega)) _ | refine Below.alloc ?_ (by first | omega | (simp <;> omega) | (simp [World.setCell] <;> omega)) _ | refine Below.drew ?_ | refine below_draws ?_ _))
  rintro e w1 ⟨b1, rfl, he1, hb1⟩
  have hbw := Below.trans ((by repeat (first | exact Below.refl _ _ | refine Below.setCell ?_ (by first | omega | (simp <;> omega) | (simp [World.setCell] <;> omega)) _ | refine Below.alloc ?_ (by first | omega | (simp <;> omega) | (simp [World.setCell] <;> omega)) _ | refine Below.drew ?_ | refine below_draws ?_ _)) : Below w.heap.size w _) (hb1.mono (by simp <;> omega))
  obtain ⟨hc, hf⟩ := bcell hb1
  have hz := hb1.size
  simp at hz he1
  go_wp2
  refine bodyPost_ret (v := .agg #[.int .i64 kd, .string s, .slice (some ⟨b1, 0, none⟩) es.length es.length]) (by simp [results, Try.results75, go_sem, hc]) rfl ⟨b1, rfl, (he1.keeps ?_).mono (by omega), (by repeat (first | exact Below.refl _ _ | exact hbw | refine Below.setCell ?_ (by first | omega | (simp <;> omega) | (simp [World.setCell] <;> omega)) _ | refine Below.alloc ?_ (by first | omega | (simp <;> omega) | (simp [World.setCell] <;> omega)) _ | refine Below.drew ?_ | refine below_draws ?_ _))⟩
  exact (((keeps_setCell _ (by simp) _).trans (keeps_setCell _ (by simp) _)).trans (keeps_setCell _ (by simp) _)).trans (keeps_setCell _ (by simp) _)

def rowJt (js : List Jt) (B : Nat) (w : World) (f : Nat → Value) (k : Nat) : Prop :=
  ∀ i (h : i < js.length), i < k → ∃ b, f (i * 3) = .int .i64 js[i].kind ∧ f (i * 3 + 1) = .string js[i].name ∧ f (i * 3 + 2) = .slice (some ⟨b, 0, none⟩) js[i].ends.length js[i].ends.length ∧ EdsAt (B + 1) w (some ⟨b, 0, none⟩) js[i].ends

set_option maxHeartbeats 400000 in
theorem toJointS_any (a : Option Addr) (js : List Jt) (cap : Nat) (w : World) (hl : js.length ≤ 1048576) (hle : ∀ i (h : i < js.length), js[i].ends.length ≤ 1048576) {L : Nat} (hp : JtsAt L w a js) :
    Calls Try.prog 44 #[.slice a js.length cap] w fun e w' =>
      ∃ b, e = .returned (.slice (some ⟨b, 0, none⟩) js.length js.length) ∧ JtsAt w.heap.size w' (some ⟨b, 0, none⟩) js ∧ Below w.heap.size w w' := by
  have hmk := run_make_rows (P := Try.prog) 31 94 _ 3 48 (by kernel_rfl) info_Joint js.length (by omega) hl
  go_enter Try.func44, Try.ntmps44
  go_wp2
  go_loopw [4] (fun i wr => ∃ (k : Nat) (f : Nat → Value), k ≤ js.length ∧ i = .int .i64 k ∧ wr.rowIs w.heap.size 94 (js.length * 3) f ∧ rowJt js w.heap.size wr f k ∧ Below w.heap.size w wr) (fun i _ => js.length - (intOf i).toNat)
  case atStart => exact ⟨0, _, Nat.zero_le _, rfl, row_made _ _ _ _, fun i h h' => by omega, (Below.refl _ _).alloc (Nat.le_refl _) _⟩
  case round =>
    obtain ⟨k, f, hk, rfl, hrow, hf, hb⟩ := hrel
    clear hmk
    by_cases hlt : k < js.length
    · obtain ⟨b, off, ea, ec, rfl, hbs, c0, c1, c2, he⟩ := hp.below hb k hlt
      go_wp2_with fail
      refine (toJoint_any _ _ _ _ _ _ (hle k hlt) he).mono ?_
      rintro e w1 ⟨b1, rfl, he1, hb1⟩
      have hrow1 := hrow.of_block (hb1.block _ hrow.lt)
      have z0 := hrow1.frozen (k * 3)
      have z1 := hrow1.frozen (k * 3 + 1)
      have z2 := hrow1.frozen (k * 3 + 2)
      have y0 := hrow1.cell (i := k * 3) (by omega)
      have y1 := hrow1.cell (i := k * 3 + 1) (by omega)
      have y2 := hrow1.cell (i := k * 3 + 2) (by omega)
      have hl0 := hrow.lt
      have HR := hide hrow1
      clear hrow1
      go_wp2
      go_roundw
      case rel =>
        refine ⟨k + 1, _, by omega, by go_num, (((unhide HR).set _ _).set _ _).set _ _, ?_, ?_⟩
        · intro i h h'
          by_cases e : i = k
          · subst e
            exact ⟨b1, by simp, by simp, by simp, (he1.mono (by omega)).keeps (((keeps_setCell _ (by simp) _).trans (keeps_setCell _ (by simp) _)).trans (keeps_setCell _ (by simp) _))⟩
          · obtain ⟨b2, f0, f1, f2, he2⟩ := hf i h (by omega)
            refine ⟨b2, ?_, ?_, ?_, ?_⟩
            · dsimp only; (repeat rw [if_neg (by omega)]); exact f0
            · dsimp only; (repeat rw [if_neg (by omega)]); exact f1
            · dsimp only; (repeat rw [if_neg (by omega)]); exact f2
            · exact (he2.below hb1).keeps (((keeps_setCell _ (by simp) _).trans (keeps_setCell _ (by simp) _)).trans (keeps_setCell _ (by simp) _))
        · have := below_then hb hb1
          repeat (first | exact this | refine Below.setCell ?_ (by simp <;> omega) _)
      case measure => simp [intOf]; omega
    · obtain rfl : k = js.length := by omega
      go_wp2
      go_ret
      refine ⟨_, rfl, fun i h => ?_, hb⟩
      obtain ⟨b2, e0, e1, e2, he2⟩ := hf i h h
      refine ⟨w.heap.size, 0, some ⟨b2, 0, none⟩, js[i].ends.length, rfl, ⟨Nat.le_refl _, hrow.lt⟩, ?_, ?_, ?_, he2.mono (by omega)⟩
      · rw [← e0, hrow.cell (by omega)]; simp
      · rw [← e1, hrow.cell (by omega)]; simp
      · rw [← e2, hrow.cell (by omega)]; simp

set_option maxHeartbeats 400000 in
theorem toNet_any (v : Value) (n : Nt) (w : World) {L : Nat} (hv : NetAt L w v n) (hl : n.pieces.length ≤ 1048576) (hl' : n.joints.length ≤ 1048576) (hle : ∀ i (h : i < n.joints.length), n.joints[i].ends.length ≤ 1048576) :
    Calls Try.prog 10 #[v] w fun e w' =>
      ∃ v', e = .returned v' ∧ NetAt w.heap.size w' v' n ∧ Below w.heap.size w w' := by
  obtain ⟨a, c, ca, cc, rfl, hp, hj⟩ := hv
  go_enter Try.func10, Try.ntmps10
  go_wp2_with fail
  refine (toPieceS_any a n.pieces ca _ hl (L := L) ?hA).mono ?_
  case hA => exact hp.below (by repeat (first | exact Below.refl _ _ | refine Below.setCell ?_ (by first | omega | (simp <;> omega) | (simp [World.setCell] <;> omega)) _ | refine Below.alloc ?_ (by first | omega | (simp <;> omega) | (simp [World.setCell] <;> omega)) _ | refine Below.drew ?_ | refine below_draws ?_ _))
  rintro e w1 ⟨b1, rfl, he1, hb1⟩
  have hbw := Below.trans ((by repeat (first | exact Below.refl _ _ | refine Below.setCell ?_ (by first | omega | (simp <;> omega) | (simp [World.setCell] <;> omega)) _ | refine Below.alloc ?_ (by first | omega | (simp <;> omega) | (simp [World.setCell] <;> omega)) _ | refine Below.drew ?_ | refine below_draws ?_ _)) : Below w.heap.size w _) (hb1.mono (by simp <;> omega))
  obtain ⟨hc, hf⟩ := bcell hb1
  have hz := hb1.size
  simp at hz he1
  go_wp2_with fail
  refine (toJointS_any c n.joints cc _ hl' hle (L := L) ?hA).mono ?_
  case hA => exact hj.below (by repeat (first | exact Below.refl _ _ | exact hbw | refine Below.setCell ?_ (by first | omega | (simp <;> omega) | (simp [World.setCell] <;> omega)) _ | refine Below.alloc ?_ (by first | omega | (simp <;> omega) | (simp [World.setCell] <;> omega)) _ | refine Below.drew ?_ | refine below_draws ?_ _))
  rintro e w2 ⟨b2, rfl, he2, hb2⟩
  have hbw2 := Below.trans ((by repeat (first | exact Below.refl _ _ | exact hbw | refine Below.setCell ?_ (by first | omega | (simp <;> omega) | (simp [World.setCell] <;> omega)) _ | refine Below.alloc ?_ (by first | omega | (simp <;> omega) | (simp [World.setCell] <;> omega)) _ | refine Below.drew ?_ | refine below_draws ?_ _)) : Below w.heap.size w _) (hb2.mono (by simp <;> omega))
  obtain ⟨hc2, hf2⟩ := bcellN (w.heap.size + 3) hb2 (by simp [World.setCell]; omega)
  have hz2 := hb2.size
  simp [World.setCell] at hz2 he2
  have he1' := (he1.keeps (keeps_setCell _ (p := ⟨w.heap.size + 1 + 1, 0, none⟩) (by simp) (.slice (some ⟨b1, 0, none⟩) n.pieces.length n.pieces.length))).below hb2
  go_wp2
  refine bodyPost_ret (v := .agg #[.slice (some ⟨b1, 0, none⟩) n.pieces.length n.pieces.length, .slice (some ⟨b2, 0, none⟩) n.joints.length n.joints.length]) (by simp [results, Try.results10, go_sem, hc, hc2]) rfl
    ⟨_, rfl, ⟨_, _, _, _, rfl, (he1'.keeps ?_).mono (by omega), (he2.keeps ?_).mono (by omega)⟩, (by repeat (first | exact Below.refl _ _ | exact hbw2 | refine Below.setCell ?_ (by first | omega | (simp <;> omega) | (simp [World.setCell] <;> omega)) _ | refine Below.alloc ?_ (by first | omega | (simp <;> omega) | (simp [World.setCell] <;> omega)) _ | refine Below.drew ?_ | refine below_draws ?_ _))⟩
  all_goals exact ((keeps_setCell _ (by simp <;> omega) _).trans (keeps_setCell _ (by simp <;> omega) _)).trans (keeps_setCell _ (by simp <;> omega) _)
end Go.Proofs.Yteakpnmjdijfbaa
