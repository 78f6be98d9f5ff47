import Derived.Test.YtbdggfpfpjijoabGreatDoorSh1
namespace Go.Proofs.YtbdggfpfpjijoabGreatDoor
open Go.RowKit

def tabNm : String := (Rows.fnExactShownRow.laid.map Prod.fst).getD 2 default
/-- The table of powers of ten stands in whatever world comes of this one. -/
def TabK (w : World) : Prop := ∀ W, Below w.heap.size w W → Lib.TabIs Tryz.prog W tabNm .u64 Lib.pow10Tab
theorem TabK.below {w w' : World} (h : TabK w) (hb : Below w.heap.size w w') : TabK w' := fun W hW => h W (hb.trans (hW.mono hb.size))

theorem below_gr (w : World) (k : Nat) (os : Array Obj) : Below w.heap.size w (Sort.grow (w.drewN k) os) :=
  ⟨rfl, rfl, rfl, by simp [Sort.grow, World.drewN], fun i hi => by simp [Sort.grow, World.drewN, Array.getElem?_append, hi]⟩

theorem itoa_any (n : Nat) (w : World) (hn : n ≤ 1000000000) (ht : TabK w) : Calls Tryz.prog 123 #[.int .i64 n] w fun e w' => e = .returned (.string (decS n)) ∧ Below w.heap.size w w' := by
  refine (Any.strconv_Itoa Tryz.laysM171 n (by omega) (by omega) w (ht w (Below.refl _ _))).mono ?_
  rintro e w' ⟨rfl, k, os, rfl⟩
  exact ⟨by rw [itoa_decS], below_gr w k os⟩
theorem bString_any (b : Nat) (s : ByteArray) (w : World) (h : BldF b (Lib.strCells s) w) (hb : b ≤ w.heap.size) : Calls Tryz.prog 79 #[.pointer (some ⟨b, 0, none⟩)] w fun e w' => e = .returned (.string s) ∧ Below b w w' := by
  refine (Tryz.Builder_String_any_k b b s.data.toList w h hb).mono ?_
  rintro e w' ⟨rfl, _, hb', _⟩
  exact ⟨rfl, hb'⟩
theorem BldF.blocks {b : Nat} {bs : List Value} {w w' : World} (h : BldF b bs w) (hb : ∀ k, b ≤ k → k < w.heap.size → w'.heap[k]? = w.heap[k]?) : BldF b bs w' := by
  have key : ∀ {p : Value}, Lib.BuilderAtF 147 5 b b p bs w → Lib.BuilderAtF 147 5 b b p bs w' := by
    rintro p ⟨h1, v, h2, h3, h4⟩
    refine ⟨h1, v, ?_, ⟨h3.1, ?_⟩, h4⟩
    · rw [hb b (Nat.le_refl _) (Array.getElem?_eq_some_iff.1 h2).1]; exact h2
    · rcases h3.2 with h5 | ⟨g, cap, cur, fz, hv, hg, hgg, hr⟩
      · exact Or.inl h5
      · exact Or.inr ⟨g, cap, cur, fz, hv, hg, by rw [hb g hg (Array.getElem?_eq_some_iff.1 hgg).1]; exact hgg, hr⟩
  rcases h with h | h
  · exact Or.inl (key h)
  · exact Or.inr (key h)
theorem BldF.below {b : Nat} {bs : List Value} {w w' : World} (h : BldF b bs w) (hb : Below w.heap.size w w') : BldF b bs w' := h.blocks fun k _ hk => hb.block k hk
theorem bld_new (w : World) : BldF w.heap.size (Lib.strCells ⟨#[]⟩) (w.alloc (.cells #[.pointer none, .slice none 0 0] 147)) := by
  refine Or.inl ⟨Nat.le_refl _, .slice none 0 0, heap_alloc_new w _, ⟨rfl, Or.inl ⟨rfl, rfl⟩⟩, by simp [Value.ownBlock]⟩

theorem part_kept {b X : Nat} {w w' : World} {c : Array Value} (hk : Lib.OthersKept 5 (some b) w w') (hX : w.heap[X]? = some (.cells c 138)) (hne : X ≠ b) : w'.heap[X]? = some (.cells c 138) :=
  hk X _ hX (by simpa using hne) (fun c' fz h => by injection h with _ h2 _; exact absurd h2 (by decide))
theorem part_cell {X : Nat} {w : World} {a b c : Int} (hX : w.heap[X]? = some (.cells #[.int .i64 a, .int .i64 b, .int .i64 c] 138)) : w.cell? ⟨X, 1, none⟩ = some (.int .i64 b) ∧ w.cell? ⟨X, 2, none⟩ = some (.int .i64 c) ∧ X < w.heap.size :=
  ⟨by rw [Lib.cell_of_heap hX]; rfl, by rw [Lib.cell_of_heap hX]; rfl, (Array.getElem?_eq_some_iff.1 hX).1⟩
theorem bld_app {b : Nat} {w : World} {acc s : ByteArray} (h : BldA b (Lib.strCells acc ++ Lib.strCells s) w) : BldF b (Lib.strCells (acc ++ s)) w := Or.inr (by rw [strCells_app]; exact h)
theorem bld_one {b : Nat} {w : World} {acc : ByteArray} {c : Int} (h0 : 0 ≤ c) (h1 : c ≤ 255) (h : BldA b (Lib.strCells acc ++ [.int .u8 c]) w) : BldF b (Lib.strCells (acc ++ strOfNums [c])) w := Or.inr (by rw [strCells_app, strCells_one h0 h1]; exact h)

set_option maxRecDepth 100000 in
set_option maxHeartbeats 4000000 in
theorem shownOn_any (M i : Nat) (p : Int) (ps : List Pt) (a : Option Addr) (cap : Nat) (w : World) {L : Nat} (hM : M < w.heap.size) (hnum : w.cell? ⟨M, 412, none⟩ = some (.int .i64 i)) (hcov : w.cell? ⟨M, 413, none⟩ = some (.slice a ps.length cap)) (hps : PtsAt L w a ps) (hpl : ps.length ≤ 1000) (hi : i ≤ 100) (hfit : ∀ x ∈ ps, (0 ≤ x.fr ∧ x.fr ≤ 10000000) ∧ (0 ≤ x.to ∧ x.to ≤ 10000000)) (ht : TabK w) :
    Calls Tryz.prog 77 #[.pointer (some ⟨M, 0, none⟩), .int .i64 p] w fun e w' => e = .returned (.string (onGo p i ps)) ∧ Below w.heap.size w w' := by
  have HPS := hide hps
  have HF := hide hfit
  have HT := hide ht
  clear hps hfit ht
  have hu8 : IntKind.u8.wrap (65 + IntKind.u8.wrap (i : Int)) = 65 + (i : Int) := by
    simp only [IntKind.wrap_u8]
    omega
  go_enter Tryz.func77, Tryz.ntmps77
  go_wp2_with fail
  have HB0 := hide (bld_new w)
  go_loopw [13] (fun z wr => ∃ (k : Nat), z = .int .i64 k ∧ k ≤ ps.length ∧ Hid (BldF w.heap.size (Lib.strCells (onGo p i (ps.take k))) wr) ∧ Below w.heap.size w wr ∧ w.heap.size < wr.heap.size) (fun z _ => ps.length - (intOf z).toNat)
  case atStart => exact ⟨0, rfl, Nat.zero_le _, HB0, (by repeat (first | with_reducible exact Below.refl _ _ | refine Below.setCell ?_ (by first | omega | (simp <;> omega) | (simp [World.setCell] <;> omega)) _ | refine Below.alloc ?_ (by first | omega | (simp <;> omega) | (simp [World.setCell] <;> omega)) _ | refine Below.drew ?_ | refine below_draws ?_ _ | exact Below.refl _ _)), by simp⟩
  case round =>
    clear HB0
    obtain ⟨k, rfl, hk, HBk, hbr, hsr⟩ := hrel
    by_cases hlt : k < ps.length
    · have hlt' : (k : Int) < (ps.length : Int) := by omega
      obtain ⟨pb, poff, hae, hpb, q0, q1, q2⟩ := (unhide HPS) k hlt
      have p0 := (hbr.cell hpb.2).trans q0
      have p1 := (hbr.cell hpb.2).trans q1
      have p2 := (hbr.cell hpb.2).trans q2
      have hpw : pb < wr.heap.size := by omega
      have hfx := unhide HF _ (List.getElem_mem hlt)
      have hpre := onGo_size p i (ps.take k) fun x hx => by have := unhide HF x (List.mem_of_mem_take hx); exact ⟨this.1.2, this.2.2⟩
      have htk : onGo p i (ps.take (k + 1)) = onGo p i (ps.take k) ++ (if ps[k].piece = p then shPart i ps[k] else ⟨#[]⟩) := by rw [← List.take_append_getElem hlt, onGo_snoc]
      obtain ⟨⟨xp, xf, xt⟩, hx⟩ : ∃ x, ps[k] = x := ⟨_, rfl⟩
      rw [hx] at p0 p1 p2 hfx htk
      dsimp only at p0 p1 p2 hfx htk
      have hlt2 : (ps.take k).length ≤ 1000 := by rw [List.length_take]; omega
      obtain ⟨acc, hacc⟩ : ∃ acc, onGo p i (ps.take k) = acc := ⟨_, rfl⟩
      rw [hacc] at HBk hpre htk
      have HTK := hide htk
      subst hae
      clear q0 q1 q2 hx htk hacc
      have hwk : IntKind.i64.wrap ((k : Int) + 1) = ((k + 1 : Nat) : Int) := (wrap_small (by omega) (by omega)).trans (by omega)
      have hmr : M < wr.heap.size := by omega
      by_cases hxp : xp = p
      · subst hxp
        obtain ⟨fn, rfl⟩ := Int.eq_ofNat_of_zero_le hfx.1.1
        obtain ⟨tn, rfl⟩ := Int.eq_ofNat_of_zero_le hfx.2.1
        have hds1 := decS_small (n := fn) (by omega)
        have hds2 := decS_small (n := tn) (by omega)
        have HN : Hid (onGo xp i (ps.take (k + 1)) = ((((acc ++ strOfNums [32]) ++ strOfNums [65 + (i : Int)]) ++ decS fn) ++ strOfNums [45]) ++ decS tn) := by
          rw [unhide HTK, if_pos rfl]
          unfold Hid shPart
          simp only [Int.toNat_natCast, ba_assoc]
          rfl
        clear HTK
        obtain ⟨X, hX⟩ : ∃ X, wr.heap.size = X := ⟨_, rfl⟩
        have hXe : w.heap.size < X := by omega
        go_wp2_with fail
        have hA0 : Below wr.heap.size wr (wr.alloc (.cells #[.int .i64 xp, .int .i64 fn, .int .i64 tn] 138)) := (by repeat (first | with_reducible exact Below.refl _ _ | refine Below.setCell ?_ (by first | omega | (simp <;> omega) | (simp [World.setCell] <;> omega)) _ | refine Below.alloc ?_ (by first | omega | (simp <;> omega) | (simp [World.setCell] <;> omega)) _ | refine Below.drew ?_ | refine below_draws ?_ _ | exact Below.refl _ _))
        have hP0 : (wr.alloc (.cells #[.int .i64 xp, .int .i64 fn, .int .i64 tn] 138)).heap[X]? = some (.cells #[.int .i64 xp, .int .i64 fn, .int .i64 tn] 138) := by rw [← hX]; exact heap_alloc_new wr _
        refine (bByte_any w.heap.size _ 32 _ ((unhide HBk).below hA0) (by rw [Lib.strCells_length]; omega) (by have := hA0.size; omega)).mono ?_
        rintro e w1 ⟨rfl, g1, b1, k1⟩
        have G1 := hide (bld_one (by omega) (by omega) g1)
        have P1 := hide (part_kept k1 hP0 (by omega))
        have B1 : Below w.heap.size w w1 := (below_then hbr hA0).trans b1
        have num1 := (B1.cell hM).trans hnum
        have hm1 : M < w1.heap.size := by have := B1.size; omega
        clear g1 b1 k1 hP0
        go_wp2_with fail
        refine (bByte_any w.heap.size _ (65 + (i : Int)) _ (unhide G1) (by rw [Lib.strCells_length, ByteArray.size_append, strOne]; omega) (by have := (part_cell (unhide P1)).2.2; omega)).mono ?_
        rintro e w2 ⟨rfl, g2, b2, k2⟩
        have G2 := hide (bld_one (by omega) (by omega) g2)
        have P2 := hide (part_kept k2 (unhide P1) (by omega))
        have B2 := B1.trans b2
        obtain ⟨c1, c2, xl2⟩ := part_cell (unhide P2)
        clear g2 b2 k2 num1 c2
        go_wp2_with fail
        refine (itoa_any fn _ (by omega) ((unhide HT).below B2)).mono ?_
        rintro e w3 ⟨rfl, b3⟩
        have B3 := B2.trans (b3.mono B2.size)
        have P3 : Hid (w3.heap[X]? = some (.cells #[.int .i64 xp, .int .i64 fn, .int .i64 tn] 138)) := (b3.block X xl2).trans (unhide P2)
        have G3 := hide ((unhide G2).below b3)
        have xl3 := (part_cell (unhide P3)).2.2
        clear c1 b3
        go_wp2_with fail
        refine (bStr_any w.heap.size _ (decS fn) _ (unhide G3) (by rw [Lib.strCells_length]; simp only [ByteArray.size_append, strOne]; omega) (by omega)).mono ?_
        rintro e w4 ⟨rfl, g4, b4, k4⟩
        have G4 := hide (bld_app g4)
        have P4 := hide (part_kept k4 (unhide P3) (by omega))
        have B4 := B3.trans b4
        have xl4 := (part_cell (unhide P4)).2.2
        clear g4 b4 k4
        go_wp2_with fail
        refine (bByte_any w.heap.size _ 45 _ (unhide G4) (by rw [Lib.strCells_length]; simp only [ByteArray.size_append, strOne]; omega) (by omega)).mono ?_
        rintro e w5 ⟨rfl, g5, b5, k5⟩
        have G5 := hide (bld_one (by omega) (by omega) g5)
        have P5 := hide (part_kept k5 (unhide P4) (by omega))
        have B5 := B4.trans b5
        obtain ⟨_, c2, xl5⟩ := part_cell (unhide P5)
        clear g5 b5 k5
        go_wp2_with fail
        refine (itoa_any tn _ (by omega) ((unhide HT).below B5)).mono ?_
        rintro e w6 ⟨rfl, b6⟩
        have B6 := B5.trans (b6.mono B5.size)
        have G6 := hide ((unhide G5).below b6)
        have hs6 := b6.size
        clear c2 b6
        go_wp2_with fail
        refine (bStr_any w.heap.size _ (decS tn) _ (unhide G6) (by rw [Lib.strCells_length]; simp only [ByteArray.size_append, strOne]; omega) (by omega)).mono ?_
        rintro e w7 ⟨rfl, g7, b7, k7⟩
        have G7 := hide (bld_app g7)
        have B7 := B6.trans b7
        have hs7 := b7.size
        clear g7 b7 k7
        go_wp2_with fail
        refine ⟨⟨k + 1, rfl, hlt, ?_, B7, by omega⟩, by simp [intOf]; omega⟩
        rw [unhide HN]
        exact G7
      · have hxp' : (xp == p) = false := by rw [beq_eq_false_iff_ne]; exact hxp
        have HN : Hid (onGo p i (ps.take (k + 1)) = acc) := by rw [unhide HTK, if_neg hxp]; exact nil_ba _
        clear HTK
        go_wp2_with fail
        have hA : Below wr.heap.size wr (wr.alloc (.cells #[.int .i64 xp, .int .i64 xf, .int .i64 xt] 138)) := (by repeat (first | with_reducible exact Below.refl _ _ | refine Below.setCell ?_ (by first | omega | (simp <;> omega) | (simp [World.setCell] <;> omega)) _ | refine Below.alloc ?_ (by first | omega | (simp <;> omega) | (simp [World.setCell] <;> omega)) _ | refine Below.drew ?_ | refine below_draws ?_ _ | exact Below.refl _ _))
        exact ⟨⟨k + 1, rfl, hlt, by rw [unhide HN]; exact (unhide HBk).below hA, below_then hbr hA, by simp; omega⟩, by simp [intOf]; omega⟩
    · have hlt' : ¬ (k : Int) < (ps.length : Int) := by omega
      have hke : k = ps.length := by omega
      rw [hke, List.take_length] at HBk
      go_wp2_with fail
      refine (bString_any w.heap.size _ _ (unhide HBk) (by omega)).mono ?_
      rintro e w9 ⟨rfl, hb9⟩
      go_wp2_with fail
      go_ret
      exact ⟨rfl, hbr.trans hb9⟩
end Go.Proofs.YtbdggfpfpjijoabGreatDoor

