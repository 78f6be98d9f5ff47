import Derived.Test.YtbdggfpfpjijoaaG30
import Derived.Test.YtbdggfpfpjijoaaG16
import Derived.Test.YtbdggfpfpjijoaaG0
import Derived.Maps.GroupsBeside
namespace Go.Proofs.Ytbdggfpfpjijoaa
open Go.RowKit

/-- A part that lies on a piece. -/
def PtFits (n : Nt) (p : Pt) : Prop := (0 ≤ p.piece ∧ p.piece < n.pieces.length) ∧ 0 ≤ p.fr ∧ p.fr ≤ p.to ∧ p.to ≤ lenOf n p.piece
def PtsFit (n : Nt) (ps : List Pt) : Prop := (∀ p ∈ ps, PtFits n p) ∧ ps.length ≤ 1000

set_option maxRecDepth 100000 in
set_option maxHeartbeats 4000000 in
theorem partsFit_any (kv : Value) (n : Nt) (a : Option Addr) (ca : Nat) (ps : List Pt) (w : World) {L L' : Nat} (hk : TrkAt L w kv n) (hp : PtsAt L' w a ps) (hl : ps.length ≤ 1048576) :
    Calls Try.prog 46 #[kv, .slice a ps.length ca] w fun e w' => RetB (PtsFit n ps) e ∧ Below w.heap.size w w' := by
  obtain ⟨x, cx, sh, csh, st, cst, rfl, hpc, hsh, hsd⟩ := hk
  go_enter Try.func46, Try.ntmps46
  go_wp2_with fail
  go_loopw [9] (fun z wr => ∃ k : Nat, k ≤ ps.length ∧ z = .int .i64 k ∧ Hid (∀ j (h : j < ps.length), j < k → PtFits n ps[j]) ∧ Boxed wr w.heap.size [.slice x n.pieces.length cx, .slice sh n.joints.length csh, .slice st n.pieces.length cst] ∧ Below w.heap.size w wr) (fun z _ => ps.length - (intOf z).toNat)
  case atStart => exact ⟨0, Nat.zero_le _, rfl, hide fun j _ hj => by omega, boxed_alloc _ _ _, (by repeat (first | with_reducible exact Below.refl _ _ | refine Below.setCell ?_ (by first | omega | (simp <;> omega) | (simp [World.setCell] <;> omega)) _ | refine Below.alloc ?_ (by first | omega | (simp <;> omega) | (simp [World.setCell] <;> omega)) _ | refine Below.drew ?_ | refine below_draws ?_ _ | exact Below.refl _ _))⟩
  case round =>
    obtain ⟨k, hk, rfl, HOK, hN, hb⟩ := hrel
    by_cases hlt : k < ps.length
    · obtain ⟨pb, poff, rfl, hpb, c0, c1, c2⟩ := hp.below hb k hlt
      have hpb2 := hpb.2
      have a0 := hN.2.1 0 _ rfl
      have nl := hN.1
      generalize hX : ps[k] = X at *
      have HX := hide hX
      clear hX
      obtain ⟨Xp, Xf, Xt⟩ := X
      dsimp only at c0 c1 c2
      have fin : ∀ (P : Prop), (P ↔ PtFits n ⟨Xp, Xf, Xt⟩) → ¬ P → ¬ PtsFit n ps := fun P hP h h2 => h (hP.2 (by rw [← unhide HX]; exact h2.1 _ (List.getElem_mem hlt)))
      have HFIN := hide fin
      clear fin
      have hne1 : ¬ wr.heap.size = w.heap.size := by omega
      have hne2 : ¬ w.heap.size = wr.heap.size := by omega
      by_cases h1 : Xp < 0
      · have e1 : decide (Xp < 0) = true := by simpa using h1
        go_wp2_with fail
        go_quiet (fail)
        go_wp2
        go_ret
        exact ⟨retB_false (unhide HFIN _ Iff.rfl fun h => by have := h.1.1; dsimp only at this; omega), (by repeat (first | with_reducible exact Below.refl _ _ | with_reducible exact hb | refine Below.setCell ?_ (by first | omega | (simp <;> omega) | (simp [World.setCell] <;> omega)) _ | refine Below.alloc ?_ (by first | omega | (simp <;> omega) | (simp [World.setCell] <;> omega)) _ | refine Below.drew ?_ | refine below_draws ?_ _ | exact hb | exact Below.refl _ _))⟩
      have e1 : decide (Xp < 0) = false := by simpa using h1
      by_cases h2 : (n.pieces.length : Int) ≤ Xp
      · have e2 : decide ((n.pieces.length : Int) ≤ Xp) = true := by simpa using h2
        go_wp2_with fail
        go_quiet (fail)
        go_wp2
        go_ret
        exact ⟨retB_false (unhide HFIN _ Iff.rfl fun h => by have := h.1.2; dsimp only at this; omega), (by repeat (first | with_reducible exact Below.refl _ _ | with_reducible exact hb | refine Below.setCell ?_ (by first | omega | (simp <;> omega) | (simp [World.setCell] <;> omega)) _ | refine Below.alloc ?_ (by first | omega | (simp <;> omega) | (simp [World.setCell] <;> omega)) _ | refine Below.drew ?_ | refine below_draws ?_ _ | exact hb | exact Below.refl _ _))⟩
      have e2 : decide ((n.pieces.length : Int) ≤ Xp) = false := by simpa using h2
      by_cases h3 : Xf < 0
      · have e3 : decide (Xf < 0) = true := by simpa using h3
        go_wp2_with fail
        go_quiet (fail)
        go_wp2
        go_ret
        exact ⟨retB_false (unhide HFIN _ Iff.rfl fun h => by have := h.2.1; dsimp only at this; omega), (by repeat (first | with_reducible exact Below.refl _ _ | with_reducible exact hb | refine Below.setCell ?_ (by first | omega | (simp <;> omega) | (simp [World.setCell] <;> omega)) _ | refine Below.alloc ?_ (by first | omega | (simp <;> omega) | (simp [World.setCell] <;> omega)) _ | refine Below.drew ?_ | refine below_draws ?_ _ | exact hb | exact Below.refl _ _))⟩
      have e3 : decide (Xf < 0) = false := by simpa using h3
      by_cases h4 : Xt < Xf
      · have e4 : decide (Xt < Xf) = true := by simpa using h4
        go_wp2_with fail
        go_quiet (fail)
        go_wp2
        go_ret
        exact ⟨retB_false (unhide HFIN _ Iff.rfl fun h => by have := h.2.2.1; dsimp only at this; omega), (by repeat (first | with_reducible exact Below.refl _ _ | with_reducible exact hb | refine Below.setCell ?_ (by first | omega | (simp <;> omega) | (simp [World.setCell] <;> omega)) _ | refine Below.alloc ?_ (by first | omega | (simp <;> omega) | (simp [World.setCell] <;> omega)) _ | refine Below.drew ?_ | refine below_draws ?_ _ | exact hb | exact Below.refl _ _))⟩
      have e4 : decide (Xt < Xf) = false := by simpa using h4
      obtain ⟨qb, qoff, hq, hqb, q1⟩ := (hpc.below hb).len (p := Xp) (by omega) (by omega)
      subst hq
      have hx0 : 0 ≤ Xp := by omega
      have hx1 : Xp < n.pieces.length := by omega
      obtain ⟨xn, rfl⟩ := Int.eq_ofNat_of_zero_le hx0
      simp only [Int.toNat_natCast] at q1
      have e2n : decide (n.pieces.length ≤ xn) = false := by simp; omega
      by_cases h5 : lenOf n xn < Xt
      · have e5 : decide (lenOf n xn < Xt) = true := by simpa using h5
        go_wp2_with fail
        go_quiet (fail)
        go_wp2
        go_ret
        exact ⟨retB_false (unhide HFIN _ Iff.rfl fun h => by have := h.2.2.2; dsimp only at this; omega), (by repeat (first | with_reducible exact Below.refl _ _ | with_reducible exact hb | refine Below.setCell ?_ (by first | omega | (simp <;> omega) | (simp [World.setCell] <;> omega)) _ | refine Below.alloc ?_ (by first | omega | (simp <;> omega) | (simp [World.setCell] <;> omega)) _ | refine Below.drew ?_ | refine below_draws ?_ _ | exact hb | exact Below.refl _ _))⟩
      have e5 : decide (lenOf n xn < Xt) = false := by simpa using h5
      go_wp2_with fail
      go_quiet (fail)
      go_wp2
      have hb' : Below wr.heap.size wr _ := ((by repeat (first | with_reducible exact Below.refl _ _ | refine Below.setCell ?_ (by first | omega | (simp <;> omega) | (simp [World.setCell] <;> omega)) _ | refine Below.alloc ?_ (by first | omega | (simp <;> omega) | (simp [World.setCell] <;> omega)) _ | refine Below.drew ?_ | refine below_draws ?_ _ | exact Below.refl _ _)) : Below wr.heap.size wr ((wr.alloc (.cells #[.int .i64 xn, .int .i64 Xf, .int .i64 Xt] 44)).drewN nq))
      refine ⟨⟨k + 1, by omega, by go_num, hide fun j hj hjk => ?_, hN.below hb', below_then hb hb'⟩, by simp [intOf]; omega⟩
      by_cases e : j = k
      · subst e; rw [unhide HX]; exact ⟨⟨by omega, hx1⟩, by dsimp only; omega, by dsimp only; omega, by dsimp only; omega⟩
      · exact unhide HOK j hj (by omega)
    · have HALL : Hid (∀ p ∈ ps, PtFits n p) := fun p hp => by
        obtain ⟨j, hj, rfl⟩ := List.getElem_of_mem hp
        exact unhide HOK j hj (by omega)
      go_wp2
      go_ret
      exact ⟨retB_of ⟨fun h => ⟨unhide HALL, by simp at h; omega⟩, fun h => by have := h.2; simp; omega⟩, hb⟩

end Go.Proofs.Ytbdggfpfpjijoaa

namespace Go.Proofs.Ytbdggfpfpjijoaa
open Go.RowKit Go.Maps Go.WideElems

/-- A map from whole numbers to slices of pointers, by what a look at each number gives. -/
def anyElem : Value → Option (DataW Unit × List MemPlace) := fun _ => some (.nil, [])
theorem lyKey : Keyed Try.prog 3 := int_keyed (q := .i64) (by kernel_rfl)
theorem lyU : Try.prog.underlying 112 = some (.map 3 111) := by kernel_rfl
theorem lyZ (w : World) : (zeroValue 111).run Try.prog w = .ok (.slice none 0 0) w := by kernel_rfl
theorem lyInt : Try.prog.underlying 3 = some (.int .i64) := by kernel_rfl
theorem lyKeyOf {p : Int} (hp : (Lit.int .i64 p).wf = true) : keyOf Try.prog 3 (.int .i64 p) = some (.int .i64 p) := by
  first | (simp [keyOf, mapKey, hp]; done) | simp [keyOf, mapKey, lyInt, hp]

def MapIs (w : World) (b N : Nat) (f : Int → Value) : Prop :=
  ∃ D : DataW Unit, w.ownsMap Try.prog 3 anyElem b N D ∧ (∃ es clock, w.heap[b]? = some (.map es clock) ∧ ∀ x ∈ es.toList, ∀ p, x.key = .int .i64 p → x.val = f p) ∧ ∀ p, Maps.has D (.int .i64 p) = false → f p = .slice none 0 0

theorem MapIs.lt {w : World} {b N : Nat} {f : Int → Value} (h : MapIs w b N f) : b < w.heap.size := by
  obtain ⟨D, ho, _⟩ := h
  exact ho.lt
theorem MapIs.of_block {w w' : World} {b N : Nat} {f : Int → Value} (h : MapIs w b N f) (hb : w'.heap[b]? = w.heap[b]?) : MapIs w' b N f := by
  obtain ⟨D, ⟨es, clock, hblk, r⟩, ⟨es2, clock2, hb2, h2⟩, h3⟩ := h
  exact ⟨D, ⟨es, clock, hb.trans hblk, r⟩, ⟨es2, clock2, hb.trans hb2, h2⟩, h3⟩
theorem MapIs.below {w w' : World} {b N : Nat} {f : Int → Value} (h : MapIs w b N f) (hb : Below w.heap.size w w') : MapIs w' b N f := h.of_block (hb.block b h.lt)
theorem mapIs_made (w : World) : MapIs (w.alloc (.map #[] 0)) w.heap.size 0 (fun _ => .slice none 0 0) :=
  ⟨.map [], World.ownsMap_made _ _ _ _, ⟨#[], 0, (MapKept.heap_alloc w _).1, fun x hx => by simp at hx⟩, fun _ _ => rfl⟩

theorem MapIs.look {w : World} {b N : Nat} {f : Int → Value} (h : MapIs w b N f) {p : Int} (hp : (Lit.int .i64 p).wf = true) :
    (Instr.lookup 112 (.map (some b)) (.int .i64 p) false).run Try.prog w = .ok (f p) w := by
  obtain ⟨D, ⟨es, clock, hblk, F, _, rfl⟩, ⟨es2, clock2, hb2, h2⟩, h3⟩ := h
  obtain ⟨rfl, rfl⟩ : es = es2 ∧ clock = clock2 := by rw [hblk] at hb2; simpa using hb2
  rcases Maps.fit_look false lyKey lyU (lyZ w) hblk F (lyKeyOf hp) with ⟨hrun, _, hat⟩ | ⟨e0, y, hm0, hk0, hrun, _, _, _⟩
  · rw [h3 p (has_false_of_atKey hat)]
    exact hrun
  · rw [← h2 e0 hm0 p hk0]
    exact hrun

theorem MapIs.store {w : World} {b N : Nat} {f : Int → Value} (h : MapIs w b N f) (hN : N < maxLen) {p : Int} (hp : (Lit.int .i64 p).wf = true) (v : Value) :
    ∃ w', (Instr.mapUpdate 112 (.map (some b)) (.int .i64 p) v).run Try.prog w = .ok () w' ∧ MapIs w' b (N + 1) (fun q => if q = p then v else f q) ∧ w.grownBy w' (some b) := by
  obtain ⟨D, ho, ⟨es2, clock2, hb2, h2⟩, h3⟩ := h
  have hoo := ho
  obtain ⟨es, clock, hblk, F, hs, rfl⟩ := hoo
  obtain ⟨rfl, rfl⟩ : es = es2 ∧ clock = clock2 := by rw [hblk] at hb2; simpa using hb2
  obtain ⟨w', hrun, ho', ht⟩ := ho.store (val := v) (d := .nil) (ps := []) lyKey lyU hN (lyKeyOf hp) rfl
  obtain ⟨es', clock', hb', hwho⟩ := stored_who lyKey lyU hblk F (Nat.lt_of_le_of_lt hs hN) (lyKeyOf hp) hrun
  refine ⟨w', hrun, ⟨_, ho', ⟨es', clock', hb', fun x hx q hq => ?_⟩, fun q hq => ?_⟩, ht.grown⟩
  · rcases hwho x hx with ⟨hx0, hne⟩ | ⟨hk, hv⟩
    · have : q ≠ p := fun e => hne (by rw [hq, e])
      simp only [if_neg this]
      exact h2 x hx0 q hq
    · have : q = p := by rw [hk] at hq; simpa using hq.symm
      simp only [if_pos this]
      exact hv
  · by_cases e : q = p
    · subst e
      rw [Maps.has_put_same ho.isMap (show WideAt.IsKeyLit (.int .i64 q) from trivial)] at hq
      simp at hq
    · have hne : (Lit.int .i64 q) ≠ .int .i64 p := fun h => e (by simpa using h)
      rw [Maps.has_put_other hne] at hq
      simp only [if_neg e]
      exact h3 q hq

end Go.Proofs.Ytbdggfpfpjijoaa

