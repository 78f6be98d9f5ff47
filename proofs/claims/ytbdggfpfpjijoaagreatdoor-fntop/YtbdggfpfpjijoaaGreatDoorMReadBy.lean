import Derived.Test.YtbdggfpfpjijoaaGreatDoorRead
import Derived.Test.YtbdggfpfpjijoaaGreatDoorMDr1
namespace Go.Proofs.YtbdggfpfpjijoaaGreatDoor
open Go.ChangeShapes Go.WideShapes Go.ChangeAt Go.RowKit Go.Deep

theorem cellsU8 : Tryz.prog.cellsOf 5 = 1 := by kernel_rfl
theorem uU8 : Tryz.prog.underlying 5 = some (.int .u8) := by kernel_rfl
theorem u8_range {z : Int} (h : (Lit.int .u8 z).wf = true) : 0 ≤ z ∧ z ≤ 255 := by
 simp [Lit.wf] at h
 have h1 : IntKind.u8.min = 0 := by decide
 have h2 : IntKind.u8.max = 255 := by decide
 omega

section
variable {H : Type} {enc : TypeId × Value → H} {w : World} {base : Nat} {held : Bool}

set_option maxRecDepth 100000 in
theorem readBytes {fuel : Nat} {cs : List Value} {x : DataW H × List MemPlace} (h : DataW.trod enc Tryz.prog w base (fun _ => true) held fuel 22 cs = some x) :
  ∃ a cap bs, cs = [.slice a (List.length bs) cap] ∧ BytesAt w.heap.size w a bs ∧ BytesIn bs := by
 rcases open_slice Tryz.underlying22 h with ⟨rfl, _⟩ | ⟨a, len, cap, m, n, D, Pl, rfl, hb, hl, hm, hmm, _, hx⟩
 ·exact ⟨none, 0, [], rfl, fun i h => by simp at h, fun i h => by simp at h⟩
 ·rw [cellsU8] at hx
  simp only [if_true] at hmm
  subst hmm
  have each : ∀ i, i < len → ∃ z : Int, ∃ b off, a = ⟨b, off, none⟩ ∧ b < w.heap.size ∧ w.cell? ⟨b, off + i, none⟩ = some (.int .u8 z) ∧ (0 ≤ z ∧ z ≤ 255) := by
   intro i hi
   obtain ⟨b, off, cs, ha, hblk, ht, hlen, hcell⟩ := row_cells (by omega) hx (show i < m by omega)
   match cs, hlen with
   | [v0], _ =>
    obtain ⟨p, e0, _, hwf⟩ := DataW.trod_int uU8 ht
    simp at e0
    subst e0
    exact ⟨p, b, off, ha, hblk, by simpa using hcell 0 (by omega), u8_range hwf⟩
  obtain ⟨f, hf⟩ := choose_lt each
  refine ⟨some a, m, (List.range len).map f, by simp, fun i hi => ?_, fun i hi => ?_⟩
  ·have hi' : i < len := by simpa using hi
   obtain ⟨b, off, ha, hblk, r0, hr⟩ := hf i hi'
   exact ⟨b, off, by rw [ha], ⟨hblk, hblk⟩, by simpa using r0, by simpa using hr⟩
  ·have hi' : i < len := by simpa using hi
   obtain ⟨b, off, ha, hblk, r0, hr⟩ := hf i hi'
   simpa using hr

set_option maxRecDepth 100000 in
theorem readBytesV {r : Reach} {b0 : Nat} {v : Value} {d : DataW H} {p : List MemPlace} (hv : Value.okWide Tryz.prog w r b0 22 v) (h : DataW.Trod enc Tryz.prog w base (fun _ => true) held 22 v d p) :
  ∃ a cap bs, v = .slice a (List.length bs) cap ∧ BytesAt w.heap.size w a bs ∧ BytesIn bs := by
 obtain ⟨a0, len0, cap0, rfl⟩ := okWide_slice Tryz.underlying22 hv
 obtain ⟨fuel, hf⟩ := h
 obtain ⟨a, cap, bs, hcs, hz, hl⟩ := readBytes hf
 simp [Value.cells] at hcs
 obtain ⟨rfl, rfl, rfl⟩ := hcs
 exact ⟨a0, cap0, bs, rfl, hz, hl⟩
end
end Go.Proofs.YtbdggfpfpjijoaaGreatDoor

set_option linter.unusedSimpArgs false
namespace Go.Proofs.YtbdggfpfpjijoaaGreatDoor
open Go.RowKit

set_option maxRecDepth 100000 in
set_option maxHeartbeats 2000000 in
theorem wByte_any (bs : List Int) (ba : Option Addr) (cap i : Nat) (w : World) {U : Nat} (hba : BytesAt U w ba bs) (hl : bs.length ≤ 1048576) (hi : i ≤ 1000000) :
  Calls Tryz.prog 36 #[.slice ba bs.length cap, .int .i64 i] w fun e w' => ∃ r, e = .returned (.int .i64 r) ∧ (0 ≤ r ∧ r ≤ 255) ∧ Below w.heap.size w w' := by
 have HB := hide hba
 clear hba
 go_enter Tryz.func36, Tryz.ntmps36
 by_cases h0 : bs.length = 0
 ·have h0' : ((bs.length : Int) == 0) = true := by simp [h0]
  have h0'' : (bs.length : Int) = 0 := by omega
  go_wp2_with fail
  go_ret
  exact ⟨0, rfl, by omega, Below.refl _ _⟩
 ·have h1 : ((bs.length : Int) == 0) = false := by rw [beq_eq_false_iff_ne]; omega
  have h2 : ¬ (bs.length : Int) = 0 := by omega
  have hlt : i % bs.length < bs.length := Nat.mod_lt _ (by omega)
  obtain ⟨b, off, rfl, hbl, e0, e1⟩ := unhide HB (i % bs.length) hlt
  obtain ⟨x, hx⟩ : ∃ x, bs[i % bs.length] = x := ⟨_, rfl⟩
  rw [hx] at e0 e1
  have hw : IntKind.i64.wrap x = x := wrap_small (by omega) (by omega)
  have e2 := hbl.2
  clear hx HB
  go_wp2_with fail
  go_ret
  exact ⟨x, by first | rfl | simp [hw] | go_num, e1, Below.refl _ _⟩

set_option maxRecDepth 100000 in
set_option maxHeartbeats 2000000 in
theorem wFar_any (bs : List Int) (ba : Option Addr) (cap i : Nat) (w : World) {U : Nat} (hba : BytesAt U w ba bs) (hl : bs.length ≤ 1048576) (hi : i ≤ 100000) :
  Calls Tryz.prog 8 #[.slice ba bs.length cap, .int .i64 i] w fun e w' => ∃ r, e = .returned (.int .i64 r) ∧ (0 ≤ r ∧ r ≤ 1530) ∧ Below w.heap.size w w' := by
 have HB := hide hba
 clear hba
 have keep : ∀ w', Below w.heap.size w w' → BytesAt U w' ba bs := fun w' hb j hj => by
  obtain ⟨b, off, e, h3, h4, h5⟩ := unhide HB j hj
  exact ⟨b, off, e, ⟨h3.1, Nat.lt_of_lt_of_le h3.2 hb.size⟩, (hb.cell h3.2).trans h4, h5⟩
 have KEEP := hide keep
 clear keep
 have hw1 : IntKind.i64.wrap ((i : Int) + 1) = ((i + 1 : Nat) : Int) := (wrap_small (by omega) (by omega)).trans (by omega)
 have hw2 : IntKind.i64.wrap ((i : Int) + 2) = ((i + 2 : Nat) : Int) := (wrap_small (by omega) (by omega)).trans (by omega)
 go_enter Tryz.func8, Tryz.ntmps8
 go_wp2_with fail
 refine (wByte_any bs ba cap i _ (unhide HB) hl (by omega)).mono ?_
 rintro e w1 ⟨x, rfl, hx, hb1⟩
 go_wp2_with fail
 refine (wByte_any bs ba cap (i + 1) _ (unhide KEEP _ hb1) hl (by omega)).mono ?_
 rintro e w2 ⟨y, rfl, hy, hb2⟩
 have hb12 := below_then hb1 hb2
 go_wp2_with fail
 refine (wByte_any bs ba cap (i + 2) _ (unhide KEEP _ hb12) hl (by omega)).mono ?_
 rintro e w3 ⟨z, rfl, hz, hb3⟩
 have hb13 := below_then hb12 hb3
 have hz0 : ((1 + 6 * z : Int) == 0) = false := by rw [beq_eq_false_iff_ne]; omega
 have e1 : IntKind.i64.wrap (256 * y) = 256 * y := wrap_small (by omega) (by omega)
 have e2 : IntKind.i64.wrap (x + 256 * y) = x + 256 * y := wrap_small (by omega) (by omega)
 have e3 : IntKind.i64.wrap (6 * z) = 6 * z := wrap_small (by omega) (by omega)
 have e4 : IntKind.i64.wrap (1 + 6 * z) = 1 + 6 * z := wrap_small (by omega) (by omega)
 go_wp2_with fail
 go_ret
 have e5 : Int.tmod (x + 256 * y) (1 + 6 * z) = (x + 256 * y) % (1 + 6 * z) := Int.tmod_eq_emod_of_nonneg (by omega)
 have e6 := Int.emod_nonneg (x + 256 * y) (show (1 + 6 * z : Int) ≠ 0 by omega)
 have e7 := Int.emod_lt_of_pos (x + 256 * y) (show (0 : Int) < 1 + 6 * z by omega)
 have e8 : IntKind.i64.wrap ((x + 256 * y) % (1 + 6 * z)) = (x + 256 * y) % (1 + 6 * z) := wrap_small (by omega) (by omega)
 exact ⟨(x + 256 * y) % (1 + 6 * z), by first | go_num | simp [e5, e8], by omega, hb13⟩

end Go.Proofs.YtbdggfpfpjijoaaGreatDoor

