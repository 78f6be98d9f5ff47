import Derived.Test.YtcggkfpkkhjdhaaGreatRows
import Derived.Test.YtcggkfpkkhjdhaaGreatMPlain
import Derived.ProofKit
import Derived.OpenShut
import Derived.Deep.Slices
import Derived.Deep.Strs
import Derived.Lib.SmallJoins
import Derived.WalkSpells
namespace Go.Proofs.YtcggkfpkkhjdhaaGreat
open Go.ChangeShapes Go.WideShapes Go.ChangeAt Go.RowKit Go.Deep Go.Joins

theorem cellsInt : Tryz.prog.cellsOf 3 = 1 := by kernel_rfl
theorem cellsStr : Tryz.prog.cellsOf 9 = 1 := by kernel_rfl
theorem cellsLPiece : Tryz.prog.cellsOf 123 = 4 := by kernel_rfl
theorem cellsLEnd : Tryz.prog.cellsOf 229 = 2 := by kernel_rfl
theorem cellsLJoint : Tryz.prog.cellsOf 127 = 3 := by kernel_rfl
theorem cellsLEnds : Tryz.prog.cellsOf 125 = 1 := by kernel_rfl
theorem uInt : Tryz.prog.underlying 3 = some (.int .i64) := by kernel_rfl
theorem uStr : Tryz.prog.underlying 9 = some .string := by kernel_rfl

/-- The cells of a slice's element, by plain numbers. -/
theorem row_cells {w : World} {base : Nat} {a : Addr} {m c : Nat} (hc : 0 < c) {Q : Nat → List Value → Prop} (hx : ∀ i, i < m → ∃ cs, w.cells? base (a.add (i * c)) c = some cs ∧ Q i cs) {i : Nat} (hi : i < m) :
    ∃ b off cs, a = ⟨b, off, none⟩ ∧ b < w.heap.size ∧ Q i cs ∧ cs.length = c ∧ ∀ j, j < c → w.cell? ⟨b, off + i * c + j, none⟩ = cs[j]? := by
  obtain ⟨cs0, h0, _⟩ := hx 0 (by omega)
  obtain ⟨_, hl0, hcell0⟩ := World.cells?_some h0
  obtain ⟨b, off, spot⟩ := a
  have h00 := hcell0 0 hc
  have hspot : spot = none := by
    have h1 : w.cell? ⟨b, off, spot⟩ = some (cs0[0]'(by omega)) := by
      simpa [Addr.add, List.getElem?_eq_getElem (show 0 < cs0.length by omega)] using h00
    simpa using World.cell?_spot h1
  subst hspot
  obtain ⟨cs, h, hQ⟩ := hx i hi
  obtain ⟨_, hl, hcell⟩ := World.cells?_some h
  have hblk := World.cells?_block h hc
  refine ⟨b, off, cs, rfl, ?_, hQ, hl, fun j hj => ?_⟩
  · simpa [Addr.add] using (by by_cases e : i * c = 0 <;> simpa [Addr.add, e] using hblk)
  · rw [← hcell j hj, add_plain, add_plain]

section
variable {H : Type} {enc : TypeId × Value → H} {w : World} {base : Nat} {held : Bool}

set_option maxRecDepth 100000 in
theorem readEds {fuel : Nat} {cs : List Value} {x : DataW H × List MemPlace} (h : DataW.trod enc Tryz.prog w base (fun _ => true) held fuel 125 cs = some x) :
    ∃ a cap es, cs = [.slice a (List.length es) cap] ∧ EdsAt 0 w a es ∧ es.length ≤ maxLen := by
  rcases open_slice Tryz.underlying125 h with ⟨rfl, _⟩ | ⟨a, len, cap, m, n, D, Pl, rfl, hb, hl, hm, hmm, _, hx⟩
  · exact ⟨none, 0, [], rfl, fun i h => by simp at h, by simp⟩
  · rw [cellsLEnd] at hx
    simp only [if_true] at hmm
    subst hmm
    have each : ∀ i, i < len → ∃ e : Ed, ∃ b off, a = ⟨b, off, none⟩ ∧ b < w.heap.size ∧ w.cell? ⟨b, off + i * 2, none⟩ = some (.int .i64 e.piece) ∧ w.cell? ⟨b, off + i * 2 + 1, none⟩ = some (.int .i64 e.side) := by
      intro i hi
      obtain ⟨b, off, cs, ha, hblk, ht, hlen, hcell⟩ := row_cells (by omega) hx (show i < m by omega)
      obtain ⟨y0, y1, k, _, _, h0, h1⟩ := trod_struct2 Tryz.underlying229 ht
      match cs, hlen with
      | [v0, v1], _ =>
        simp [cellsInt] at h0 h1
        obtain ⟨p, e0, _, _⟩ := DataW.trod_int uInt h0
        obtain ⟨s, e1, _, _⟩ := DataW.trod_int uInt h1
        simp at e0 e1
        subst e0 e1
        exact ⟨⟨p, s⟩, b, off, ha, hblk, by simpa using hcell 0 (by omega), by simpa using hcell 1 (by omega)⟩
    haveI : Inhabited Ed := ⟨⟨0, 0⟩⟩
    obtain ⟨f, hf⟩ := choose_lt each
    refine ⟨some a, m, (List.range len).map f, by simp, fun i hi => ?_, by simp; omega⟩
    have hi' : i < len := by simpa using hi
    obtain ⟨b, off, ha, hblk, r0, r1⟩ := hf i hi'
    exact ⟨b, off, by rw [ha], ⟨Nat.zero_le _, hblk⟩, by simpa using r0, by simpa using r1⟩

set_option maxRecDepth 100000 in
theorem readPcs {fuel : Nat} {cs : List Value} {x : DataW H × List MemPlace} (h : DataW.trod enc Tryz.prog w base (fun _ => true) held fuel 22 cs = some x) :
    ∃ a cap ps, cs = [.slice a (List.length ps) cap] ∧ PcsAt 0 w a ps ∧ ps.length ≤ maxLen ∧ ∀ i (h : i < ps.length), ps[i].name.size ≤ maxLen := by
  rcases open_slice Tryz.underlying22 h with ⟨rfl, _⟩ | ⟨a, len, cap, m, n, D, Pl, rfl, hb, hl, hm, hmm, _, hx⟩
  · exact ⟨none, 0, [], rfl, fun i h => by simp at h, by simp, fun i h => by simp at h⟩
  · rw [cellsLPiece] at hx
    simp only [if_true] at hmm
    subst hmm
    have each : ∀ i, i < len → ∃ e : Pc, ∃ b off, a = ⟨b, off, none⟩ ∧ b < w.heap.size ∧ w.cell? ⟨b, off + i * 4, none⟩ = some (.string e.name) ∧ w.cell? ⟨b, off + i * 4 + 1, none⟩ = some (.int .i64 e.len)
        ∧ w.cell? ⟨b, off + i * 4 + 2, none⟩ = some (.int .i64 e.speed) ∧ w.cell? ⟨b, off + i * 4 + 3, none⟩ = some (.int .i64 e.brake) ∧ e.name.size ≤ maxLen := by
      intro i hi
      obtain ⟨b, off, cs, ha, hblk, ht, hlen, hcell⟩ := row_cells (by omega) hx (show i < m by omega)
      obtain ⟨y0, y1, y2, y3, k, _, _, h0, h1, h2, h3⟩ := trod_struct4 Tryz.underlying123 ht
      match cs, hlen with
      | [v0, v1, v2, v3], _ =>
        simp [cellsInt, cellsStr] at h0 h1 h2 h3
        obtain ⟨s, e0, _, hs⟩ := DataW.trod_string uStr h0
        obtain ⟨x1, e1, _, _⟩ := DataW.trod_int uInt h1
        obtain ⟨x2, e2, _, _⟩ := DataW.trod_int uInt h2
        obtain ⟨x3, e3, _, _⟩ := DataW.trod_int uInt h3
        simp at e0 e1 e2 e3
        subst e0 e1 e2 e3
        exact ⟨⟨s, x1, x2, x3⟩, b, off, ha, hblk, by simpa using hcell 0 (by omega), by simpa using hcell 1 (by omega), by simpa using hcell 2 (by omega), by simpa using hcell 3 (by omega), hs⟩
    haveI : Inhabited Pc := ⟨⟨⟨#[]⟩, 0, 0, 0⟩⟩
    obtain ⟨f, hf⟩ := choose_lt each
    refine ⟨some a, m, (List.range len).map f, by simp, fun i hi => ?_, by simp; omega, fun i hi => ?_⟩
    · have hi' : i < len := by simpa using hi
      obtain ⟨b, off, ha, hblk, r0, r1, r2, r3, _⟩ := hf i hi'
      exact ⟨b, off, by rw [ha], ⟨Nat.zero_le _, hblk⟩, by simpa using r0, by simpa using r1, by simpa using r2, by simpa using r3⟩
    · have hi' : i < len := by simpa using hi
      obtain ⟨b, off, _, _, _, _, _, _, r⟩ := hf i hi'
      simpa using r

set_option maxRecDepth 100000 in
theorem readJts {fuel : Nat} {cs : List Value} {x : DataW H × List MemPlace} (h : DataW.trod enc Tryz.prog w base (fun _ => true) held fuel 23 cs = some x) :
    ∃ a cap js, cs = [.slice a (List.length js) cap] ∧ JtsAt 0 w a js ∧ js.length ≤ maxLen ∧ ∀ i (h : i < js.length), js[i].name.size ≤ maxLen ∧ js[i].ends.length ≤ maxLen := by
  rcases open_slice Tryz.underlying23 h with ⟨rfl, _⟩ | ⟨a, len, cap, m, n, D, Pl, rfl, hb, hl, hm, hmm, _, hx⟩
  · exact ⟨none, 0, [], rfl, fun i h => by simp at h, by simp, fun i h => by simp at h⟩
  · rw [cellsLJoint] at hx
    simp only [if_true] at hmm
    subst hmm
    have each : ∀ i, i < len → ∃ e : Jt, ∃ b off ea ec, a = ⟨b, off, none⟩ ∧ b < w.heap.size ∧ w.cell? ⟨b, off + i * 3, none⟩ = some (.int .i64 e.kind) ∧ w.cell? ⟨b, off + i * 3 + 1, none⟩ = some (.string e.name)
        ∧ w.cell? ⟨b, off + i * 3 + 2, none⟩ = some (.slice ea e.ends.length ec) ∧ EdsAt 0 w ea e.ends ∧ e.name.size ≤ maxLen ∧ e.ends.length ≤ maxLen := by
      intro i hi
      obtain ⟨b, off, cs, ha, hblk, ht, hlen, hcell⟩ := row_cells (by omega) hx (show i < m by omega)
      obtain ⟨y0, y1, y2, k, _, _, h0, h1, h2⟩ := trod_struct3 Tryz.underlying127 ht
      match cs, hlen with
      | [v0, v1, v2], _ =>
        simp [cellsInt, cellsStr, cellsLEnds] at h0 h1 h2
        obtain ⟨x0, e0, _, _⟩ := DataW.trod_int uInt h0
        obtain ⟨s, e1, _, hs⟩ := DataW.trod_string uStr h1
        obtain ⟨ea, ec, es, e2, hes, hel⟩ := readEds h2
        simp at e0 e1 e2
        subst e0 e1 e2
        exact ⟨⟨x0, s, es⟩, b, off, ea, ec, ha, hblk, by simpa using hcell 0 (by omega), by simpa using hcell 1 (by omega), by simpa using hcell 2 (by omega), hes, hs, hel⟩
    haveI : Inhabited Jt := ⟨⟨0, ⟨#[]⟩, []⟩⟩
    obtain ⟨f, hf⟩ := choose_lt each
    refine ⟨some a, m, (List.range len).map f, by simp, fun i hi => ?_, by simp; omega, fun i hi => ?_⟩
    · have hi' : i < len := by simpa using hi
      obtain ⟨b, off, ea, ec, ha, hblk, r0, r1, r2, r3, _⟩ := hf i hi'
      exact ⟨b, off, ea, ec, by rw [ha], ⟨Nat.zero_le _, hblk⟩, by simpa using r0, by simpa using r1, by simpa using r2, by simpa using r3⟩
    · have hi' : i < len := by simpa using hi
      obtain ⟨b, off, ea, ec, _, _, _, _, _, _, r⟩ := hf i hi'
      simpa using r

set_option maxRecDepth 100000 in
/-- A net that came in. -/
theorem readNet {r : Reach} {b0 : Nat} {v : Value} {d : DataW H} {p : List MemPlace} (hv : Value.okWide Tryz.prog w r b0 25 v) (h : DataW.Trod enc Tryz.prog w base (fun _ => true) held 25 v d p) :
    ∃ n : Nt, NetAt 0 w v n ∧ n.pieces.length ≤ maxLen ∧ n.joints.length ≤ maxLen ∧ (∀ i (h : i < n.joints.length), n.joints[i].name.size ≤ maxLen ∧ n.joints[i].ends.length ≤ maxLen) ∧ ∀ i (h : i < n.pieces.length), n.pieces[i].name.size ≤ maxLen := by
  obtain ⟨v0, v1, y0, y1, k, rfl, _, _, h0, h1⟩ := open_agg2 Tryz.underlying25 (by kernel_rfl) (by kernel_rfl) hv h
  obtain ⟨a, ca, ps, e0, hp, hpl, hpn⟩ := readPcs h0
  obtain ⟨c, cc, js, e1, hj, hjl, hjn⟩ := readJts h1
  simp at e0 e1
  subst e0 e1
  exact ⟨⟨ps, js⟩, ⟨a, c, ca, cc, rfl, hp, hj⟩, hpl, hjl, hjn, hpn⟩
end
end Go.Proofs.YtcggkfpkkhjdhaaGreat

namespace Go.Proofs.YtcggkfpkkhjdhaaGreat
open Go.RowKit

set_option maxHeartbeats 400000 in
theorem szPiece_any (s : ByteArray) (l sp br left : Int) (w : World) (h0 : 0 ≤ left) (h1 : left ≤ 1048576) (hs : s.size ≤ maxLen) :
    Calls Tryz.prog 53 #[.agg #[.string s, .int .i64 l, .int .i64 sp, .int .i64 br], .int .i64 left] w fun e w' =>
      ∃ r : Int, e = .returned (.int .i64 r) ∧ r ≤ left ∧ Below w.heap.size w w' := by
  unfold maxLen at hs
  by_cases h : left - s.size < 0
  · go_enter Tryz.func53, Tryz.ntmps53
    go_wp2
    go_ret
    exact ⟨-1, rfl, by omega, (Below.refl _ _).alloc (Nat.le_refl _) _⟩
  · go_enter Tryz.func53, Tryz.ntmps53
    go_wp2
    go_ret
    exact ⟨left - s.size, rfl, by omega, (Below.refl _ _).alloc (Nat.le_refl _) _⟩

set_option maxHeartbeats 400000 in
theorem szPieceS_any (a : Option Addr) (ps : List Pc) (cap : Nat) (left : Int) (w : World) (h0 : 0 ≤ left) (h1 : left ≤ 1048576) (hl : ps.length ≤ maxLen)
    {L : Nat} (hp : PcsAt L w a ps) (hs : ∀ i (h : i < ps.length), ps[i].name.size ≤ maxLen) :
    Calls Tryz.prog 24 #[.slice a ps.length cap, .int .i64 left] w fun e w' =>
      ∃ r : Int, e = .returned (.int .i64 r) ∧ r ≤ left ∧ (0 ≤ r → ps.length ≤ left) ∧ Below w.heap.size w w' := by
  unfold maxLen at hl
  by_cases h : left - ps.length < 0
  · go_enter Tryz.func24, Tryz.ntmps24
    go_wp2
    go_ret
    exact ⟨-1, rfl, by omega, by omega, (Below.refl _ _)⟩
  · go_enter Tryz.func24, Tryz.ntmps24
    go_wp2
    go_loopw [1, 5] (fun l i w' => ∃ (k : Nat) (r : Int), k ≤ ps.length ∧ i = .int .i64 k ∧ l = .int .i64 r ∧ 0 ≤ r ∧ r ≤ left - ps.length ∧ Below w.heap.size w w') (fun _ i _ => ps.length - (intOf i).toNat)
    case atStart => exact ⟨0, _, Nat.zero_le _, rfl, rfl, by omega, by omega, Below.refl _ _⟩
    case round =>
      obtain ⟨k, r, hk, rfl, rfl, hr0, hr1, hb⟩ := hrel
      by_cases hlt : k < ps.length
      · obtain ⟨b, off, rfl, hbs, c0, c1, c2, c3⟩ := hp.below hb k hlt
        have hz := hs k hlt
        go_wp2_with fail
        refine (szPiece_any _ _ _ _ _ _ hr0 (by omega) hz).mono ?_
        rintro e w' ⟨r', rfl, hr', hb'⟩
        by_cases hneg : r' < 0
        · go_wp2
          go_ret
          exact ⟨-1, rfl, by omega, by omega, below_then hb hb'⟩
        · go_wp2
          go_roundw
          case rel => exact ⟨k + 1, r', by omega, by go_num, rfl, by omega, by omega, below_then hb hb'⟩
          case measure => simp [intOf]; omega
      · go_wp2
        go_ret
        exact ⟨r, rfl, by omega, by omega, hb⟩

set_option maxHeartbeats 400000 in
theorem szEndS_any (a : Option Addr) (n cap : Nat) (left : Int) (w : World) (h0 : 0 ≤ left) (h1 : left ≤ 1048576) (hl : n ≤ maxLen) :
    Calls Tryz.prog 94 #[.slice a n cap, .int .i64 left] w fun e w' =>
      ∃ r : Int, e = .returned (.int .i64 r) ∧ r ≤ left ∧ (0 ≤ r → n ≤ left) ∧ Below w.heap.size w w' := by
  unfold maxLen at hl
  by_cases h : left - n < 0
  · go_enter Tryz.func94, Tryz.ntmps94
    go_wp2
    go_ret
    exact ⟨-1, rfl, by omega, by omega, (Below.refl _ _)⟩
  · go_enter Tryz.func94, Tryz.ntmps94
    go_wp2
    go_ret
    exact ⟨left - n, rfl, by omega, by omega, (Below.refl _ _)⟩

set_option maxHeartbeats 400000 in
theorem szJoint_any (kd : Int) (s : ByteArray) (a : Option Addr) (n cap : Nat) (left : Int) (w : World) (h0 : 0 ≤ left) (h1 : left ≤ 1048576) (hs : s.size ≤ maxLen) (hl : n ≤ maxLen) :
    Calls Tryz.prog 54 #[.agg #[.int .i64 kd, .string s, .slice a n cap], .int .i64 left] w fun e w' =>
      ∃ r : Int, e = .returned (.int .i64 r) ∧ r ≤ left ∧ (0 ≤ r → n ≤ left) ∧ Below w.heap.size w w' := by
  have hl' := hl
  unfold maxLen at hs hl
  by_cases h : left - s.size < 0
  · go_enter Tryz.func54, Tryz.ntmps54
    go_wp2
    go_ret
    exact ⟨-1, rfl, by omega, by omega, (Below.refl _ _).alloc (Nat.le_refl _) _⟩
  · go_enter Tryz.func54, Tryz.ntmps54
    go_wp2_with fail
    refine (szEndS_any _ _ _ _ _ (by omega) (by omega) hl').mono ?_
    rintro e w' ⟨r', rfl, hr', hn', hb'⟩
    have hb : Below w.heap.size w w' := ((Below.refl _ _).alloc (Nat.le_refl _) _).trans (hb'.mono (by simp))
    by_cases hneg : r' < 0
    · go_wp2
      go_ret
      exact ⟨-1, rfl, by omega, by omega, hb⟩
    · go_wp2
      go_ret
      exact ⟨r', rfl, by omega, fun h => by have := hn' h; omega, hb⟩

set_option maxHeartbeats 400000 in
theorem szJointS_any (a : Option Addr) (js : List Jt) (cap : Nat) (left : Int) (w : World) (h0 : 0 ≤ left) (h1 : left ≤ 1048576) (hl : js.length ≤ maxLen)
    {L : Nat} (hp : JtsAt L w a js) (hs : ∀ i (h : i < js.length), js[i].name.size ≤ maxLen ∧ js[i].ends.length ≤ maxLen) :
    Calls Tryz.prog 25 #[.slice a js.length cap, .int .i64 left] w fun e w' =>
      ∃ r : Int, e = .returned (.int .i64 r) ∧ r ≤ left ∧ (0 ≤ r → js.length ≤ left ∧ ∀ i (h : i < js.length), (js[i].ends.length : Int) ≤ left) ∧ Below w.heap.size w w' := by
  unfold maxLen at hl
  by_cases h : left - js.length < 0
  · go_enter Tryz.func25, Tryz.ntmps25
    go_wp2
    go_ret
    exact ⟨-1, rfl, by omega, by omega, (Below.refl _ _)⟩
  · go_enter Tryz.func25, Tryz.ntmps25
    go_wp2
    go_loopw [1, 5] (fun l i w' => ∃ (k : Nat) (r : Int), k ≤ js.length ∧ i = .int .i64 k ∧ l = .int .i64 r ∧ 0 ≤ r ∧ r ≤ left - js.length ∧ (∀ i (h : i < js.length), i < k → (js[i].ends.length : Int) ≤ left) ∧ Below w.heap.size w w') (fun _ i _ => js.length - (intOf i).toNat)
    case atStart => exact ⟨0, _, Nat.zero_le _, rfl, rfl, by omega, by omega, fun i h h' => by omega, Below.refl _ _⟩
    case round =>
      obtain ⟨k, r, hk, rfl, rfl, hr0, hr1, hall, hb⟩ := hrel
      by_cases hlt : k < js.length
      · obtain ⟨b, off, ea, ec, rfl, hbs, c0, c1, c2, he⟩ := hp.below hb k hlt
        have hz := hs k hlt
        go_wp2_with fail
        refine (szJoint_any _ _ _ _ _ _ _ hr0 (by omega) hz.1 hz.2).mono ?_
        rintro e w' ⟨r', rfl, hr', hn', hb'⟩
        by_cases hneg : r' < 0
        · go_wp2
          go_ret
          exact ⟨-1, rfl, by omega, by omega, below_then hb hb'⟩
        · go_wp2
          go_roundw
          case rel =>
            refine ⟨k + 1, r', by omega, by go_num, rfl, by omega, by omega, fun i h h' => ?_, below_then hb hb'⟩
            by_cases e : i = k
            · subst e; have := hn' (by omega); omega
            · exact hall i h (by omega)
          case measure => simp [intOf]; omega
      · go_wp2
        go_ret
        exact ⟨r, rfl, by omega, fun _ => ⟨by omega, fun i h => hall i h (by omega)⟩, hb⟩

set_option maxHeartbeats 400000 in
theorem szNet_any (a c : Option Addr) (ps : List Pc) (js : List Jt) (ca cc : Nat) (left : Int) (w : World) (h0 : 0 ≤ left) (h1 : left ≤ 1048576)
    (hl : ps.length ≤ maxLen) {L : Nat} (hp : PcsAt L w a ps) (hs : ∀ i (h : i < ps.length), ps[i].name.size ≤ maxLen)
    (hl' : js.length ≤ maxLen) (hp' : JtsAt L w c js) (hs' : ∀ i (h : i < js.length), js[i].name.size ≤ maxLen ∧ js[i].ends.length ≤ maxLen) :
    Calls Tryz.prog 4 #[.agg #[.slice a ps.length ca, .slice c js.length cc], .int .i64 left] w fun e w' =>
      ∃ r : Int, e = .returned (.int .i64 r) ∧ r ≤ left ∧ (0 ≤ r → ps.length ≤ left ∧ js.length ≤ left ∧ ∀ i (h : i < js.length), (js[i].ends.length : Int) ≤ left) ∧ Below w.heap.size w w' := by
  have hb0 : Below w.heap.size w (w.alloc (.cells #[.slice a ps.length ca, .slice c js.length cc] 25)) := (Below.refl _ _).alloc (Nat.le_refl _) _
  have hpA := hp.below hb0
  have hjA := hp'.below hb0
  go_enter Tryz.func4, Tryz.ntmps4
  go_wp2_with fail
  refine (szPieceS_any _ _ _ _ _ h0 h1 hl hpA hs).mono ?_
  rintro e w1 ⟨r1, rfl, hr1, hn1, hb1⟩
  have hb1' := below_then hb0 hb1
  have hc : w1.cell? ⟨w.heap.size, 1, none⟩ = some (.slice c js.length cc) := by
    rw [hb1.cell (by simp)]; simp
  by_cases hneg : r1 < 0
  · go_wp2
    go_ret
    exact ⟨-1, rfl, by omega, by omega, hb1'⟩
  · have hjB := hjA.below hb1
    go_wp2_with fail
    refine (szJointS_any _ _ _ _ _ (by omega) (by omega) hl' hjB hs').mono ?_
    rintro e w2 ⟨r2, rfl, hr2, hn2, hb2⟩
    have hb2' := below_then hb1' hb2
    by_cases hneg2 : r2 < 0
    · go_wp2
      go_ret
      exact ⟨-1, rfl, by omega, by omega, hb2'⟩
    · go_wp2
      go_ret
      refine ⟨r2, rfl, by omega, fun h => ?_, hb2'⟩
      have h3 := hn1 (by omega)
      have h4 := hn2 h
      exact ⟨h3, by omega, fun i hi => by have := h4.2 i hi; omega⟩

end Go.Proofs.YtcggkfpkkhjdhaaGreat

