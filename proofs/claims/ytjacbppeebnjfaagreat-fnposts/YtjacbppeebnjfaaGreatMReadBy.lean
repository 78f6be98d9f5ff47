import Derived.Test.YtjacbppeebnjfaaGreatMRead
import Derived.Test.YtjacbppeebnjfaaGreatMDr1
import Derived.Test.YtjacbppeebnjfaaGreatMPs1
import Derived.Test.YtjacbppeebnjfaaGreatMFe1
import Derived.Test.YtjacbppeebnjfaaGreatMSpec14
import Derived.Test.YtjacbppeebnjfaaGreatMSpec9
import Derived.Test.YtjacbppeebnjfaaGreatMRo
import Derived.Test.YtjacbppeebnjfaaGreatMPlain2
import Derived.Test.YtjacbppeebnjfaaGreatMPlain
namespace Go.Proofs.YtjacbppeebnjfaaGreat
open Go.ChangeShapes Go.WideShapes Go.ChangeAt Go.RowKit Go.Deep

theorem cellsU8 : Tryz.prog.cellsOf 5 = 1 := by kernel_rfl
theorem uU8 : Tryz.prog.underlying 5 = some (.int .u8) := by kernel_rfl
theorem u8_range {z : Int} (h : (Lit.int .u8 z).wf = true) : 0 ≤ z ∧ z ≤ 255 := by
 simp [Lit.wf] at h
 have h1 : IntKind.u8.min = 0 := by decide
 have h2 : IntKind.u8.max = 255 := by decide
 omega

section
variable {H : Type} {enc : TypeId × Value → H} {w : World} {base : Nat} {held : Bool}

set_option maxRecDepth 100000 in
theorem readBytes {fuel : Nat} {cs : List Value} {x : DataW H × List MemPlace} (h : DataW.trod enc Tryz.prog w base (fun _ => true) held fuel 22 cs = some x) :
  ∃ a cap bs, cs = [.slice a (List.length bs) cap] ∧ BytesAt w.heap.size w a bs ∧ BytesIn bs := by
 rcases open_slice Tryz.underlying22 h with ⟨rfl, _⟩ | ⟨a, len, cap, m, n, D, Pl, rfl, hb, hl, hm, hmm, _, hx⟩
 ·exact ⟨none, 0, [], rfl, fun i h => by simp at h, fun i h => by simp at h⟩
 ·rw [cellsU8] at hx
  simp only [if_true] at hmm
  subst hmm
  have each : ∀ i, i < len → ∃ z : Int, ∃ b off, a = ⟨b, off, none⟩ ∧ b < w.heap.size ∧ w.cell? ⟨b, off + i, none⟩ = some (.int .u8 z) ∧ (0 ≤ z ∧ z ≤ 255) := by
   intro i hi
   obtain ⟨b, off, cs, ha, hblk, ht, hlen, hcell⟩ := row_cells (by omega) hx (show i < m by omega)
   match cs, hlen with
   | [v0], _ =>
    obtain ⟨p, e0, _, hwf⟩ := DataW.trod_int uU8 ht
    simp at e0
    subst e0
    exact ⟨p, b, off, ha, hblk, by simpa using hcell 0 (by omega), u8_range hwf⟩
  obtain ⟨f, hf⟩ := choose_lt each
  refine ⟨some a, m, (List.range len).map f, by simp, fun i hi => ?_, fun i hi => ?_⟩
  ·have hi' : i < len := by simpa using hi
   obtain ⟨b, off, ha, hblk, r0, hr⟩ := hf i hi'
   exact ⟨b, off, by rw [ha], ⟨hblk, hblk⟩, by simpa using r0, by simpa using hr⟩
  ·have hi' : i < len := by simpa using hi
   obtain ⟨b, off, ha, hblk, r0, hr⟩ := hf i hi'
   simpa using hr

set_option maxRecDepth 100000 in
theorem readBytesV {r : Reach} {b0 : Nat} {v : Value} {d : DataW H} {p : List MemPlace} (hv : Value.okWide Tryz.prog w r b0 22 v) (h : DataW.Trod enc Tryz.prog w base (fun _ => true) held 22 v d p) :
  ∃ a cap bs, v = .slice a (List.length bs) cap ∧ BytesAt w.heap.size w a bs ∧ BytesIn bs := by
 obtain ⟨a0, len0, cap0, rfl⟩ := okWide_slice Tryz.underlying22 hv
 obtain ⟨fuel, hf⟩ := h
 obtain ⟨a, cap, bs, hcs, hz, hl⟩ := readBytes hf
 simp [Value.cells] at hcs
 obtain ⟨rfl, rfl, rfl⟩ := hcs
 exact ⟨a0, cap0, bs, rfl, hz, hl⟩
end
end Go.Proofs.YtjacbppeebnjfaaGreat

set_option linter.unusedSimpArgs false
namespace Go.Proofs.YtjacbppeebnjfaaGreat
open Go.RowKit

theorem stRow_at0' {w : World} {base : Nat} {a : Option Addr} {m cap : Nat} {xs : List St} (h : StRow w base (.slice a m cap) xs) : StsAt 0 w a xs := by
 obtain ⟨a', cap', hv, _, hx⟩ := stRow_at (h.mono (Nat.zero_le _))
 simp at hv
 rw [hv.1]
 exact hx
theorem axle_fits {n : Nt} {t : Tr} (hF : TrainFits n t) {a : Int} (h1 : 1 ≤ a) (h2 : a ≤ t.long) : TrainFits n ⟨t.front, a, takeLen n a (behind n t.front) t.back⟩ := by
 obtain ⟨f1, f2, f3, f4⟩ := hF
 obtain ⟨b1, b2, b3, b4⟩ := back_ch.1 f4
 obtain ⟨k, k1, k2, k3, k4⟩ := takeLen_take n a t.back (behind n t.front)
 refine ⟨f1, ⟨h1, by dsimp only; omega⟩, ?_, back_ch.2 ⟨?_, ?_, ?_, ?_⟩⟩
 ·dsimp only
  rw [k2, List.length_take]
  omega
 ·dsimp only
  rw [k2]
  exact b1.take k
 ·dsimp only
  rw [k2]
  exact fun x hx => b2 x (List.mem_of_mem_take hx)
 ·dsimp only
  rw [k2]
  intro j hj
  rw [List.length_take] at hj
  rw [List.take_take, Nat.min_eq_left (by omega)]
  exact k3 j (by omega)
 ·dsimp only
  rw [k2]
  rcases k4 with e | e
  ·rw [e, List.take_length]
   omega
  ·exact e
set_option maxRecDepth 100000 in
set_option maxHeartbeats 8000000 in
theorem l3axle_any (v : Value) (n : Nt) (ba : Option Addr) (bc : Nat) (t : Tr) (a : Int) (w : World) {L : Nat} (hv : NetAt L w v n) (hst : StsAt 0 w ba t.back) (hG : NetGood n) (hT : TrainFits n t) (ha : 0 ≤ a ∧ a ≤ t.long) :
  Calls Tryz.prog 28 #[v, .agg #[.int .i64 t.front.piece, .int .i64 t.front.at_, .int .i64 t.front.way, .int .i64 t.long, .slice ba t.back.length bc], .int .i64 a] w fun e w' => e = .returned (.agg #[.int .i64 (axleSp n t.front t.back a).piece, .int .i64 (axleSp n t.front t.back a).at_, .int .i64 (axleSp n t.front t.back a).way]) ∧ Below w.heap.size w w' := by
 have hvv := hv
 obtain ⟨x, c, ca, cc, rfl, hp, hj⟩ := hv
 have HV := hide hvv
 have HST := hide hst
 have HT := hide hT
 clear hvv hst hp hj hT
 by_cases h0 : a = 0
 ·subst h0
  have HA : Hid (axleSp n t.front t.back 0 = t.front) := by unfold Hid axleSp; rw [if_pos rfl]
  go_enter Tryz.func28, Tryz.ntmps28
  go_wp2
  refine bodyPost_ret (v := .agg #[.int .i64 t.front.piece, .int .i64 t.front.at_, .int .i64 t.front.way]) (by simp [results, Tryz.results28, go_sem]) rfl ⟨by rw [unhide HA], bw0⟩
 ·have HA : Hid (axleSp n t.front t.back a = tailOf n ⟨t.front, a, takeLen n a (behind n t.front) t.back⟩) := by unfold Hid axleSp; rw [if_neg h0]
  have hb0 : (a == 0) = false := by simpa using h0
  have HFA := hide (axle_fits (unhide HT) (show 1 ≤ a by omega) ha.2)
  go_enter Tryz.func28, Tryz.ntmps28
  go_wp2_with fail
  obtain ⟨W0, hW0⟩ : ∃ W0, ((w.alloc (.cells #[.slice x n.pieces.length ca, .slice c n.joints.length cc] 26)).alloc (.cells #[.int .i64 t.front.piece, .int .i64 t.front.at_, .int .i64 t.front.way, .int .i64 a, .slice ba t.back.length bc] 32)).alloc (.cells #[.int .i64 0, .int .i64 0, .int .i64 0] 29) = W0 := ⟨_, rfl⟩
  have hbW : Below w.heap.size w W0 := by rw [← hW0]; exact bw0
  have hx0 : Boxed W0 w.heap.size [.slice x n.pieces.length ca, .slice c n.joints.length cc] := by rw [← hW0]; exact ((boxed_alloc _ _ _).alloc _).alloc _
  have hx1 : Boxed W0 (w.heap.size + 1) [.int .i64 t.front.piece, .int .i64 t.front.at_, .int .i64 t.front.way, .int .i64 a, .slice ba t.back.length bc] := by rw [← hW0]; exact (boxedN _ _ _ (by simp)).alloc _
  have hx2 : Boxed W0 (w.heap.size + 1 + 1) [.int .i64 0, .int .i64 0, .int .i64 0] := by rw [← hW0]; exact boxedN _ _ _ (by simp)
  rw [hW0]
  clear hW0
  have HS : Hid (∀ wx, Below W0.heap.size W0 wx → (fun w' => w'.cell? ⟨w.heap.size, 0, none⟩ = some (.slice x n.pieces.length ca) ∧ w'.cell? ⟨w.heap.size, 1, none⟩ = some (.slice c n.joints.length cc) ∧ w'.cell? ⟨w.heap.size + 1, 0, none⟩ = some (.int .i64 t.front.piece) ∧ w'.cell? ⟨w.heap.size + 1, 1, none⟩ = some (.int .i64 t.front.at_) ∧ w'.cell? ⟨w.heap.size + 1, 2, none⟩ = some (.int .i64 t.front.way) ∧ w'.cell? ⟨w.heap.size + 1, 3, none⟩ = some (.int .i64 a) ∧ w'.cell? ⟨w.heap.size + 1, 4, none⟩ = some (.slice ba t.back.length bc)) wx) := fun wx hb =>
   ⟨(hx0.below hb).2.1 0 _ rfl, (hx0.below hb).2.1 1 _ rfl, (hx1.below hb).2.1 0 _ rfl, (hx1.below hb).2.1 1 _ rfl, (hx1.below hb).2.1 2 _ rfl, (hx1.below hb).2.1 3 _ rfl, (hx1.below hb).2.1 4 _ rfl⟩
  have hbD : Below W0.heap.size W0 W0.drew := bw0
  have HX2 := hide hx2
  have HX0 := hide hx0
  have HX1 := hide hx1
  clear hx0 hx1 hx2
  refine wp_region_held_drew (S := fun w' => w'.cell? ⟨w.heap.size, 0, none⟩ = some (.slice x n.pieces.length ca) ∧ w'.cell? ⟨w.heap.size, 1, none⟩ = some (.slice c n.joints.length cc) ∧ w'.cell? ⟨w.heap.size + 1, 0, none⟩ = some (.int .i64 t.front.piece) ∧ w'.cell? ⟨w.heap.size + 1, 1, none⟩ = some (.int .i64 t.front.at_) ∧ w'.cell? ⟨w.heap.size + 1, 2, none⟩ = some (.int .i64 t.front.way) ∧ w'.cell? ⟨w.heap.size + 1, 3, none⟩ = some (.int .i64 a) ∧ w'.cell? ⟨w.heap.size + 1, 4, none⟩ = some (.slice ba t.back.length bc)) (by kernel_rfl) ?_ (fun hHeld => ?_)
  ·exact unhide HS _ hbD
  refine tkH 0 ?_
  refine tkH 1 ?_
  refine tkH 2 ?_
  refine wpAnyH_ready (rs := [3]) (by kernel_rfl) (by simp) ?_
  refine (AllReadyH.cons rfl (fun K hK => ?_) AllReadyH.nil)
  go_simp
  refine (l3trim_any _ _ n ⟨t.front, a, t.back⟩ _ ((unhide HV).below (below_then hbW hbD)) ⟨ba, bc, rfl, (unhide HST).below (below_then hbW hbD)⟩ hG (unhide HT).1 (backOk_steps (unhide HT).2.2.2) (by have := (unhide HT).2.2.1; dsimp only; omega)).mono ?_
  rintro e w4 ⟨ra, rc, rfl, hr4, hb4⟩
  dsimp only at hr4 ⊢
  have hb04 := below_then hbD hb4
  refine hK.out _ _ (unhide HS _ hb04) (fun hHeld => ?_)
  clear hK K
  (try simp only [Act.put, List.getElem_toArray, List.getElem_cons_zero, List.getElem_cons_succ, List.setIfInBounds_toArray, List.set_cons_zero, List.set_cons_succ])
  refine wpAnyH_ready (rs := [4]) (by kernel_rfl) (by simp) ?_
  refine (AllReadyH.cons rfl (fun K hK => ?_) AllReadyH.nil)
  go_simp
  refine (l2tail_any _ _ n ⟨t.front, a, takeLen n a (behind n t.front) t.back⟩ _ (L' := 0) ((unhide HV).below (below_then hbW hb04)) ⟨ra, rc, rfl, stRow_at0' hr4⟩ hG (unhide HFA)).mono ?_
  rintro e w5 ⟨rfl, hb5⟩
  rw [← unhide HA]
  have hb05 := below_then hb04 hb5
  refine hK.out _ _ (unhide HS _ hb05) (fun hHeld => ?_)
  clear hK K
  (try simp only [Act.put, List.getElem_toArray, List.getElem_cons_zero, List.getElem_cons_succ, List.setIfInBounds_toArray, List.set_cons_zero, List.set_cons_succ])
  have hx5 := (unhide HX2).below hb05
  have z0 := hx5.2.1 0 _ rfl
  have z1 := hx5.2.1 1 _ rfl
  have z2 := hx5.2.1 2 _ rfl
  have zf := hx5.2.2
  have zl := hx5.1
  have hbw5 := below_then hbW hb05
  obtain ⟨⟨ap, aa, ay⟩, hax⟩ : ∃ s, axleSp n t.front t.back a = s := ⟨_, rfl⟩
  rw [hax]
  dsimp only
  refine wpAnyH_ready (rs := [5]) (by kernel_rfl) (by simp) ?_
  refine (AllReadyH.cons rfl (fun K hK => ?_) AllReadyH.nil)
  go_simp
  have ho := ((only_setCell (S := fun k => k = w.heap.size + 1 + 1) w5 (p := ⟨w.heap.size + 1 + 1, 0, none⟩) rfl (.int .i64 ap)).trans (only_setCell (S := fun k => k = w.heap.size + 1 + 1) _ (p := ⟨w.heap.size + 1 + 1, 1, none⟩) rfl (.int .i64 aa))).trans (only_setCell (S := fun k => k = w.heap.size + 1 + 1) _ (p := ⟨w.heap.size + 1 + 1, 2, none⟩) rfl (.int .i64 ay))
  have hr6 := ((hx5.setAt (i := 0) (by simp) (.int .i64 ap)).setAt (i := 1) (by simp) (.int .i64 aa)).setAt (i := 2) (by simp) (.int .i64 ay)
  have g0 := ((unhide HX0).below hb05).onlyS ho (show ¬ w.heap.size = w.heap.size + 1 + 1 by omega)
  have g1 := ((unhide HX1).below hb05).onlyS ho (show ¬ w.heap.size + 1 = w.heap.size + 1 + 1 by omega)
  have hbw6 := hbw5.trans (ho.below hbw5.size (fun k hk (he : k = w.heap.size + 1 + 1) => by omega))
  refine hK.out _ _ ⟨g0.2.1 0 _ rfl, g0.2.1 1 _ rfl, g1.2.1 0 _ rfl, g1.2.1 1 _ rfl, g1.2.1 2 _ rfl, g1.2.1 3 _ rfl, g1.2.1 4 _ rfl⟩ (fun hHeld => ?_)
  clear hK K hHeld z0 z1 z2 zf zl hx5
  (try simp only [Act.put, List.getElem_toArray, List.getElem_cons_zero, List.getElem_cons_succ, List.setIfInBounds_toArray, List.set_cons_zero, List.set_cons_succ])
  have r0 := hr6.2.1 0 (.int .i64 ap) (by simp)
  have r1 := hr6.2.1 1 (.int .i64 aa) (by simp)
  have r2 := hr6.2.1 2 (.int .i64 ay) (by simp)
  clear g0 g1 ho hr6
  generalize ((w5.setCell ⟨w.heap.size + 1 + 1, 0, none⟩ (.int .i64 ap)).setCell ⟨w.heap.size + 1 + 1, 1, none⟩ (.int .i64 aa)).setCell ⟨w.heap.size + 1 + 1, 2, none⟩ (.int .i64 ay) = w6 at *
  refine wpAnyH_done (by kernel_rfl) ?_ _
  go_wp2_with fail
  refine bodyPost_ret (v := .agg #[.int .i64 ap, .int .i64 aa, .int .i64 ay]) (by simp [results, Tryz.results28, go_sem, r0, r1, r2]) rfl ⟨rfl, hbw6⟩
end Go.Proofs.YtjacbppeebnjfaaGreat

set_option linter.unusedSimpArgs false
namespace Go.Proofs.YtjacbppeebnjfaaGreat
open Go.RowKit

def PoAt (L : Nat) (w : World) (a : Option Addr) (qs : List (Int × Int)) : Prop :=
 ∀ i (h : i < qs.length), ∃ b off, a = some ⟨b, off, none⟩ ∧ (L ≤ b ∧ b < w.heap.size) ∧ w.cell? ⟨b, off + i * 2, none⟩ = some (.int .i64 qs[i].1) ∧ w.cell? ⟨b, off + i * 2 + 1, none⟩ = some (.int .i64 qs[i].2)
theorem PoAt.keeps {L : Nat} {w w' : World} {a : Option Addr} {es : List (Int × Int)} (h : PoAt L w a es) (hk : Keeps L w w') : PoAt L w' a es := by
 intro i hi
 obtain ⟨b, off, ha, hlt, c0, c1⟩ := h i hi
 exact ⟨b, off, ha, ⟨hlt.1, Nat.lt_of_lt_of_le hlt.2 hk.1⟩, by rw [hk.cell hlt]; exact c0, by rw [hk.cell hlt]; exact c1⟩
theorem PoAt.below {L : Nat} {w w' : World} {a : Option Addr} {es : List (Int × Int)} (h : PoAt L w a es) (hb : Below w.heap.size w w') : PoAt L w' a es := h.keeps (keeps_below L hb)
def AxOne (ax : List Int) (long : Int) (i : Nat) (a : Int) : Prop := (0 ≤ a ∧ a ≤ long) ∧ (0 < i → ax.getD (i - 1) 0 ≤ a)
def AxFit (ax : List Int) (long : Int) : Prop := ax.length ≤ 60 ∧ ∀ i (h : i < ax.length), AxOne ax long i ax[i]
def PoFit (n : Nt) (qs : List (Int × Int)) : Prop := qs.length ≤ 60 ∧ ∀ i (h : i < qs.length), PostOk n qs[i]
theorem AxFit.mem {ax : List Int} {long : Int} (h : AxFit ax long) : ∀ a ∈ ax, 0 ≤ a ∧ a ≤ long := fun a ha => by
 obtain ⟨i, hi, rfl⟩ := List.getElem_of_mem ha
 exact (h.2 i hi).1
theorem PoFit.mem {n : Nt} {qs : List (Int × Int)} (h : PoFit n qs) : ∀ p ∈ qs, PostOk n p := fun a ha => by
 obtain ⟨i, hi, rfl⟩ := List.getElem_of_mem ha
 exact h.2 i hi
end Go.Proofs.YtjacbppeebnjfaaGreat

set_option linter.unusedSimpArgs false
namespace Go.Proofs.YtjacbppeebnjfaaGreat
open Go.RowKit

theorem sorted_unique {α : Type} {R : α → α → Prop} (asy : ∀ x y, R x y → ¬ R y x) : ∀ (l k : List α), l.Pairwise R → k.Pairwise R → (∀ x, x ∈ l ↔ x ∈ k) → l = k
 | [], [], _, _, _ => rfl
 | [], y :: k, _, _, h => by have := (h y).2 List.mem_cons_self; cases this
 | x :: l, [], _, _, h => by have := (h x).1 List.mem_cons_self; cases this
 | x :: l, y :: k, hl, hk, h => by
  have irr : ∀ z, ¬ R z z := fun z hz => asy z z hz hz
  obtain ⟨hl1, hl2⟩ := List.pairwise_cons.1 hl
  obtain ⟨hk1, hk2⟩ := List.pairwise_cons.1 hk
  have e : x = y := by
   rcases List.mem_cons.1 ((h x).1 List.mem_cons_self) with e | hx
   ·exact e
   ·rcases List.mem_cons.1 ((h y).2 List.mem_cons_self) with e | hy
    ·exact e.symm
    ·exact absurd (hk1 x hx) (asy _ _ (hl1 y hy))
  subst e
  rw [sorted_unique asy l k hl2 hk2 fun z => ?_]
  constructor
  ·intro hz
   rcases List.mem_cons.1 ((h z).1 (List.mem_cons_of_mem _ hz)) with e | hz'
   ·exact absurd (hl1 z hz) (by rw [e]; exact irr x)
   ·exact hz'
  ·intro hz
   rcases List.mem_cons.1 ((h z).2 (List.mem_cons_of_mem _ hz)) with e | hz'
   ·exact absurd (hk1 z hz) (by rw [e]; exact irr x)
   ·exact hz'
structure Mrk where
 far : Int
 post : Int
 way : Int
def Mlt (x y : Mrk) : Prop := x.far < y.far ∨ (x.far = y.far ∧ x.post < y.post)
theorem Mlt.asymm (x y : Mrk) (h : Mlt x y) : ¬ Mlt y x := fun g => by unfold Mlt at h g; omega
def mkX (n : Nt) (qs : List (Int × Int)) (d : Int) (x : Sx) : List Mrk :=
 qs.zipIdx.filterMap fun (p, i) => if p.1 = x.step.piece ∧ x.low < beh n p x.step.way ∧ beh n p x.step.way ≤ x.high then some ⟨d + beh n p x.step.way - x.low, (i : Int), x.step.way⟩ else none
def marksI (n : Nt) (qs : List (Int × Int)) : Int → List Sx → List Mrk
 | _, [] => []
 | d, x :: r => mkX n qs d x ++ marksI n qs (d + (x.high - x.low)) r
theorem marksI_app (n : Nt) (qs : List (Int × Int)) (l k : List Sx) (d : Int) : marksI n qs d (l ++ k) = marksI n qs d l ++ marksI n qs (d + lenS l) k := by
 induction l generalizing d with
 | nil => simp [marksI, lenS]
 | cons x r ih =>
  simp only [List.cons_append, marksI, ih, List.append_assoc, lenS]
  rw [show d + (x.high - x.low) + lenS r = d + (x.high - x.low + lenS r) by omega]
def Hit (n : Nt) (qs : List (Int × Int)) (W : List (St × Int)) (F : Int) (m : Mrk) : Prop :=
 ∃ u p, m.far ≤ F ∧ W[(F - m.far).toNat]? = some u ∧ 0 ≤ m.post ∧ qs[m.post.toNat]? = some p ∧ AtU n p u ∧ m.way = u.1.way
def LowHigh (x : Sx) : Prop := 0 ≤ x.low ∧ x.low ≤ x.high
theorem unR_len {x : Sx} (h : LowHigh x) : ((unR x).length : Int) = x.high - x.low := by
 have := h.1
 have := h.2
 unfold unR
 rw [List.length_take, down_len]
 omega
theorem unR_get {x : Sx} (h : LowHigh x) (j : Nat) (hj : (j : Int) < x.high - x.low) : (unR x)[j]? = some (x.step, x.high - j) := by
 have := h.1
 unfold unR
 rw [List.getElem?_take_of_lt (by omega), down_get _ _ _ (by omega)]
 congr 2
 omega
theorem ur_len {l : List Sx} (h : ∀ x ∈ l, LowHigh x) : ((ur l).length : Int) = lenS l := by
 induction l with
 | nil => simp [ur, lenS]
 | cons x r ih =>
  have h1 := unR_len (h x List.mem_cons_self)
  have h2 := ih fun y hy => h y (List.mem_cons_of_mem _ hy)
  have e : ur (x :: r) = ur r ++ unR x := by simp [ur]
  rw [e, List.length_append]
  simp only [lenS]
  omega
theorem mem_mkX {n : Nt} {qs : List (Int × Int)} {d : Int} {x : Sx} {m : Mrk} : m ∈ mkX n qs d x ↔ ∃ p, 0 ≤ m.post ∧ qs[m.post.toNat]? = some p ∧ p.1 = x.step.piece ∧ x.low < beh n p x.step.way ∧ beh n p x.step.way ≤ x.high ∧ m.far = d + beh n p x.step.way - x.low ∧ m.way = x.step.way := by
 unfold mkX
 rw [List.mem_filterMap]
 constructor
 ·rintro ⟨⟨p, i⟩, hm, he⟩
  dsimp only at he
  split at he
  ·rename_i hc
   cases he
   rw [List.mem_zipIdx_iff_getElem?] at hm
   exact ⟨p, by simp, by simpa using hm, hc.1, hc.2.1, hc.2.2, rfl, rfl⟩
  ·cases he
 ·rintro ⟨p, h0, hq, h1, h2, h3, h4, h5⟩
  refine ⟨(p, m.post.toNat), by rw [List.mem_zipIdx_iff_getElem?]; simpa using hq, ?_⟩
  dsimp only
  rw [if_pos ⟨h1, h2, h3⟩]
  obtain ⟨f, q, y⟩ := m
  dsimp only at h0 h4 h5 ⊢
  rw [← h4, ← h5, show ((q.toNat : Nat) : Int) = q by omega]
theorem hit_step {n : Nt} {qs : List (Int × Int)} {W : List (St × Int)} {d : Int} {x : Sx} (hx : LowHigh x) (m : Mrk) : Hit n qs (unR x ++ W) (d + (x.high - x.low)) m ↔ Hit n qs W d m ∨ m ∈ mkX n qs d x := by
 have hl := unR_len hx
 have h0 := hx.1
 have h1 := hx.2
 rw [mem_mkX]
 constructor
 ·rintro ⟨u, p, g1, g2, g3, g4, g5, g6⟩
  by_cases hlt : m.far ≤ d
  ·left
   refine ⟨u, p, hlt, ?_, g3, g4, g5, g6⟩
   rw [List.getElem?_append_right (by omega)] at g2
   rw [← g2]
   congr 1
   omega
  ·right
   rw [List.getElem?_append_left (by omega), unR_get hx _ (by omega)] at g2
   cases g2
   have g7 := g5.2
   dsimp only at g7
   exact ⟨p, g3, g4, g5.1, by omega, by omega, by omega, g6⟩
 ·rintro (⟨u, p, g1, g2, g3, g4, g5, g6⟩ | ⟨p, g1, g2, g3, g4, g5, g6, g7⟩)
  ·refine ⟨u, p, by omega, ?_, g3, g4, g5, g6⟩
   rw [List.getElem?_append_right (by omega), ← g2]
   congr 1
   omega
  ·refine ⟨(x.step, beh n p x.step.way), p, by omega, ?_, g1, g2, ⟨g3, rfl⟩, g7⟩
   rw [List.getElem?_append_left (by omega), unR_get hx _ (by omega)]
   congr 2
   omega
theorem mem_marks {n : Nt} {qs : List (Int × Int)} : ∀ (P : List Sx) (d : Int) (W : List (St × Int)) (Ms : List Mrk), (∀ x ∈ P, LowHigh x) → (∀ m, m ∈ Ms ↔ Hit n qs W d m) → ∀ m, (m ∈ Ms ++ marksI n qs d P ↔ Hit n qs (ur P ++ W) (d + lenS P) m)
 | [], d, W, Ms, _, h, m => by simpa [marksI, ur, lenS] using h m
 | x :: r, d, W, Ms, hP, h, m => by
  have e : ur (x :: r) = ur r ++ unR x := by simp [ur]
  have hx := hP x List.mem_cons_self
  have ih := mem_marks r (d + (x.high - x.low)) (unR x ++ W) (Ms ++ mkX n qs d x) (fun y hy => hP y (List.mem_cons_of_mem _ hy)) (fun m => by rw [List.mem_append, h m, hit_step hx]) m
  rw [marksI, ← List.append_assoc, ih, e, List.append_assoc, lenS, show d + (x.high - x.low) + lenS r = d + (x.high - x.low + lenS r) by omega]
theorem marks_far {n : Nt} {qs : List (Int × Int)} {P : List Sx} (hP : ∀ x ∈ P, LowHigh x) {d : Int} {m : Mrk} (h : m ∈ marksI n qs d P) : d < m.far := by
 induction P generalizing d with
 | nil => cases h
 | cons x r ih =>
  have hx := hP x List.mem_cons_self
  have := hx.2
  rcases List.mem_append.1 h with h | h
  ·obtain ⟨p, _, _, _, h4, _, h6, _⟩ := mem_mkX.1 h
   omega
  ·have := ih (fun y hy => hP y (List.mem_cons_of_mem _ hy)) h
   omega
theorem zipIdx_two {α : Type} (l : List α) (k : Nat) : (l.zipIdx k).Pairwise fun x y => x.2 ≠ y.2 := by
 induction l generalizing k with
 | nil => simp
 | cons x r ih =>
  rw [List.zipIdx_cons, List.pairwise_cons]
  refine ⟨fun y hy => ?_, ih (k + 1)⟩
  have := (List.mem_zipIdx hy).1
  dsimp only
  omega
theorem marks_two {n : Nt} {qs : List (Int × Int)} {P : List Sx} (hP : ∀ x ∈ P, LowHigh x) (d : Int) : (marksI n qs d P).Pairwise fun x y => x.far ≠ y.far ∨ x.post ≠ y.post := by
 induction P generalizing d with
 | nil => exact List.Pairwise.nil
 | cons x r ih =>
  have hr : ∀ y ∈ r, LowHigh y := fun y hy => hP y (List.mem_cons_of_mem _ hy)
  rw [marksI, List.pairwise_append]
  refine ⟨?_, ih hr _, fun a ha b hb => ?_⟩
  ·unfold mkX
   rw [List.pairwise_filterMap]
   refine (zipIdx_two qs 0).imp fun {a b} hab c hc e he => ?_
   right
   dsimp only at hc he
   split at hc
   ·split at he
    ·cases hc
     cases he
     dsimp only
     omega
    ·cases he
   ·cases hc
  ·left
   obtain ⟨p, _, _, _, h4, h5, h6, _⟩ := mem_mkX.1 ha
   have := marks_far hr hb
   omega
theorem sorted_marks {M K : List Mrk} (hp : M.Perm K) (h : M.Pairwise fun x y => ¬ Mlt y x) (ht : K.Pairwise fun x y => x.far ≠ y.far ∨ x.post ≠ y.post) : M.Pairwise Mlt := by
 have ht' := (hp.pairwise_iff (R := fun x y : Mrk => x.far ≠ y.far ∨ x.post ≠ y.post) (fun {x y} h => by rcases h with h | h; exact Or.inl (Ne.symm h); exact Or.inr (Ne.symm h))).2 ht
 refine (h.and ht').imp fun {x y} ⟨h1, h2⟩ => ?_
 unfold Mlt at h1 ⊢
 omega

structure Tg where
 k : Int
 i : Nat
 post : Int
 way : Int
def Tlt (x y : Tg) : Prop := x.k < y.k ∨ (x.k = y.k ∧ (x.i < y.i ∨ (x.i = y.i ∧ x.post < y.post)))
theorem Tlt.asymm (x y : Tg) (h : Tlt x y) : ¬ Tlt y x := fun g => by unfold Tlt at h g; omega
def Tg.un (t : Tg) : Int × Int × Int := (t.k, t.post, t.way)
def outT (n : Nt) (qs : List (Int × Int)) (ax : List Int) (B0 : List (St × Int)) : List (St × Int) → List Tg
 | [] => []
 | u :: us => outT n qs ax B0 us ++ ax.zipIdx.flatMap fun (a, i) => (hitsAt n qs ((us.length : Int) + 1) ((u :: us ++ B0)[a.toNat]?)).map fun h => ⟨h.1, i, h.2.1, h.2.2⟩
theorem flatMap_zip {α β : Type} (l : List α) (f : α → List β) (k : Nat) : (l.zipIdx k).flatMap (fun x => f x.1) = l.flatMap f := by
 induction l generalizing k with
 | nil => rfl
 | cons x r ih => rw [List.zipIdx_cons, List.flatMap_cons, List.flatMap_cons, ih]
theorem outT_un (n : Nt) (qs : List (Int × Int)) (ax : List Int) (B0 us : List (St × Int)) : (outT n qs ax B0 us).map Tg.un = outS n qs ax B0 us := by
 induction us with
 | nil => rfl
 | cons u us ih =>
  rw [outT, outS, List.map_append, ih, List.map_flatMap]
  congr 1
  rw [← flatMap_zip ax _ 0]
  congr 1
  funext x
  rw [List.map_map]
  conv => rhs; rw [← List.map_id (hitsAt n qs ((us.length : Int) + 1) ((u :: us ++ B0)[x.1.toNat]?))]
  rfl
theorem mem_hits {n : Nt} {qs : List (Int × Int)} {k : Int} {o : Option (St × Int)} {h : Int × Int × Int} : h ∈ hitsAt n qs k o ↔ ∃ u p, o = some u ∧ h.1 = k ∧ 0 ≤ h.2.1 ∧ qs[h.2.1.toNat]? = some p ∧ AtU n p u ∧ h.2.2 = u.1.way := by
 unfold hitsAt
 cases o with
 | none => simp
 | some u =>
  dsimp only
  rw [List.mem_filterMap]
  constructor
  ·rintro ⟨⟨p, i⟩, hm, he⟩
   dsimp only at he
   split at he
   ·rename_i hc
    cases he
    rw [List.mem_zipIdx_iff_getElem?] at hm
    exact ⟨u, p, rfl, rfl, by simp, by simpa using hm, hc, rfl⟩
   ·cases he
  ·rintro ⟨u', p, hu, h1, h2, h3, h4, h5⟩
   cases hu
   refine ⟨(p, h.2.1.toNat), by rw [List.mem_zipIdx_iff_getElem?]; simpa using h3, ?_⟩
   dsimp only
   rw [if_pos h4]
   obtain ⟨a, b, c⟩ := h
   dsimp only at h1 h2 h5 ⊢
   rw [← h1, ← h5, show ((b.toNat : Nat) : Int) = b by omega]
theorem hits_sorted (n : Nt) (qs : List (Int × Int)) (k : Int) (o : Option (St × Int)) : (hitsAt n qs k o).Pairwise fun x y => x.2.1 < y.2.1 := by
 unfold hitsAt
 cases o with
 | none => exact List.Pairwise.nil
 | some u =>
  rw [List.pairwise_filterMap]
  have hz : ∀ (l : List (Int × Int)) (k : Nat), (l.zipIdx k).Pairwise fun x y => x.2 < y.2 := by
   intro l
   induction l with
   | nil => intro k; simp
   | cons x r ih =>
    intro k
    rw [List.zipIdx_cons, List.pairwise_cons]
    refine ⟨fun y hy => ?_, ih (k + 1)⟩
    have := (List.mem_zipIdx hy).1
    dsimp only
    omega
  refine (hz qs 0).imp fun {a b} hab c hc e he => ?_
  dsimp only at hc he
  split at hc
  ·split at he
   ·cases hc
    cases he
    dsimp only
    omega
   ·cases he
  ·cases hc
theorem outT_k {n : Nt} {qs : List (Int × Int)} {ax : List Int} {B0 us : List (St × Int)} {t : Tg} (h : t ∈ outT n qs ax B0 us) : 1 ≤ t.k ∧ t.k ≤ us.length := by
 induction us with
 | nil => cases h
 | cons u us ih =>
  rw [outT] at h
  rcases List.mem_append.1 h with h | h
  ·have := ih h
   simp only [List.length_cons]
   omega
  ·rw [List.mem_flatMap] at h
   obtain ⟨x, _, hx⟩ := h
   obtain ⟨y, hy, rfl⟩ := List.mem_map.1 hx
   obtain ⟨_, _, _, e, _⟩ := mem_hits.1 hy
   dsimp only
   simp only [List.length_cons]
   omega
theorem outT_sorted (n : Nt) (qs : List (Int × Int)) (ax : List Int) (B0 us : List (St × Int)) : (outT n qs ax B0 us).Pairwise Tlt := by
 induction us with
 | nil => exact List.Pairwise.nil
 | cons u us ih =>
  rw [outT, List.pairwise_append]
  refine ⟨ih, ?_, fun a ha b hb => ?_⟩
  ·have hz : ∀ (l : List Int) (k : Nat), ((l.zipIdx k).flatMap fun (a, i) => (hitsAt n qs ((us.length : Int) + 1) ((u :: us ++ B0)[a.toNat]?)).map fun h => (⟨h.1, i, h.2.1, h.2.2⟩ : Tg)).Pairwise Tlt ∧ ∀ t ∈ ((l.zipIdx k).flatMap fun (a, i) => (hitsAt n qs ((us.length : Int) + 1) ((u :: us ++ B0)[a.toNat]?)).map fun h => (⟨h.1, i, h.2.1, h.2.2⟩ : Tg)), t.k = (us.length : Int) + 1 ∧ k ≤ t.i := by
    intro l
    induction l with
    | nil => intro k; exact ⟨List.Pairwise.nil, fun t ht => by cases ht⟩
    | cons a r ih2 =>
     intro k
     obtain ⟨i1, i2⟩ := ih2 (k + 1)
     rw [List.zipIdx_cons, List.flatMap_cons]
     have hk : ∀ t ∈ (hitsAt n qs ((us.length : Int) + 1) ((u :: us ++ B0)[a.toNat]?)).map fun h => (⟨h.1, k, h.2.1, h.2.2⟩ : Tg), t.k = (us.length : Int) + 1 ∧ t.i = k := fun t ht => by
      obtain ⟨y, hy, rfl⟩ := List.mem_map.1 ht
      obtain ⟨_, _, _, e, _⟩ := mem_hits.1 hy
      exact ⟨e, rfl⟩
     refine ⟨List.pairwise_append.2 ⟨?_, i1, fun x hx y hy => ?_⟩, fun t ht => ?_⟩
     ·rw [List.pairwise_map]
      refine (List.Pairwise.and_mem.1 (hits_sorted n qs _ _)).imp fun {x y} ⟨hx, hy, hxy⟩ => ?_
      obtain ⟨_, _, _, e1, _⟩ := mem_hits.1 hx
      obtain ⟨_, _, _, e2, _⟩ := mem_hits.1 hy
      exact Or.inr ⟨e1.trans e2.symm, Or.inr ⟨rfl, hxy⟩⟩
     ·have h1 := hk x hx
      have h2 := i2 y hy
      exact Or.inr ⟨h1.1.trans h2.1.symm, Or.inl (by omega)⟩
     ·rcases List.mem_append.1 ht with ht | ht
      ·have := hk t ht
       exact ⟨this.1, by omega⟩
      ·have := i2 t ht
       exact ⟨this.1, by omega⟩
   exact (hz ax 0).1
  ·have h1 := outT_k ha
   rw [List.mem_flatMap] at hb
   obtain ⟨x, _, hx⟩ := hb
   obtain ⟨y, hy, rfl⟩ := List.mem_map.1 hx
   obtain ⟨_, _, _, e, _⟩ := mem_hits.1 hy
   left
   dsimp only
   omega
theorem mem_outT {n : Nt} {qs : List (Int × Int)} {ax : List Int} {B0 us : List (St × Int)} (hax : ∀ a ∈ ax, 0 ≤ a) {t : Tg} : t ∈ outT n qs ax B0 us ↔ 1 ≤ t.k ∧ t.k ≤ us.length ∧ ∃ a, ax[t.i]? = some a ∧ Hit n qs (us ++ B0) us.length ⟨t.k - a, t.post, t.way⟩ := by
 induction us with
 | nil =>
  constructor
  ·intro h; cases h
  ·rintro ⟨h1, h2, _⟩
   simp at h2
   omega
 | cons u us ih =>
  rw [outT, List.mem_append, ih]
  have step : ∀ a, t.k ≤ us.length → 0 ≤ a → (Hit n qs (u :: us ++ B0) ((u :: us).length : Int) ⟨t.k - a, t.post, t.way⟩ ↔ Hit n qs (us ++ B0) (us.length : Int) ⟨t.k - a, t.post, t.way⟩) := fun a hk ha => by
   unfold Hit
   dsimp only
   have e : (u :: us ++ B0)[(((u :: us).length : Int) - (t.k - a)).toNat]? = (us ++ B0)[((us.length : Int) - (t.k - a)).toNat]? := by
    rw [List.length_cons, show (((us.length + 1 : Nat) : Int) - (t.k - a)).toNat = ((us.length : Int) - (t.k - a)).toNat + 1 by omega, List.cons_append, List.getElem?_cons_succ]
   rw [e]
   constructor
   ·rintro ⟨v, p, _, h2⟩
    exact ⟨v, p, by omega, h2⟩
   ·rintro ⟨v, p, _, h2⟩
    exact ⟨v, p, by simp only [List.length_cons]; omega, h2⟩
  constructor
  ·rintro (⟨h1, h2, a, h3, h4⟩ | h)
   ·exact ⟨h1, by simp only [List.length_cons]; omega, a, h3, (step a h2 (hax a (List.mem_of_getElem? h3))).2 h4⟩
   ·rw [List.mem_flatMap] at h
    obtain ⟨⟨a, i⟩, hm, hx⟩ := h
    obtain ⟨y, hy, rfl⟩ := List.mem_map.1 hx
    obtain ⟨v, p, hv, e, g1, g2, g3, g4⟩ := mem_hits.1 hy
    rw [List.mem_zipIdx_iff_getElem?] at hm
    dsimp only at hm hv ⊢
    have ha := hax a (List.mem_of_getElem? hm)
    refine ⟨by omega, by simp only [List.length_cons]; omega, a, hm, v, p, by simp only [List.length_cons]; omega, ?_, g1, g2, g3, g4⟩
    dsimp only
    rw [e, ← hv]
    congr 1
    simp only [List.length_cons]
    omega
  ·rintro ⟨h1, h2, a, h3, h4⟩
   have ha := hax a (List.mem_of_getElem? h3)
   simp only [List.length_cons] at h2
   by_cases hk : t.k ≤ us.length
   ·exact Or.inl ⟨h1, hk, a, h3, (step a hk ha).1 h4⟩
   ·right
    have hk' : t.k = (us.length : Int) + 1 := by omega
    obtain ⟨v, p, g0, g1, g2, g3, g4, g5⟩ := h4
    rw [List.mem_flatMap]
    refine ⟨(a, t.i), by rw [List.mem_zipIdx_iff_getElem?]; exact h3, ?_⟩
    dsimp only at g1 ⊢
    rw [List.mem_map]
    refine ⟨(t.k, t.post, t.way), mem_hits.2 ⟨v, p, ?_, hk', g2, g3, g4, g5⟩, rfl⟩
    rw [← g1]
    congr 1
    simp only [List.length_cons]
    omega
theorem passes_are {n : Nt} {qs : List (Int × Int)} {ax : List Int} {B0 us : List (St × Int)} (hax : ∀ a ∈ ax, 0 ≤ a) {L : List Tg} (hs : L.Pairwise Tlt) (hm : ∀ t, t ∈ L ↔ 1 ≤ t.k ∧ t.k ≤ us.length ∧ ∃ a, ax[t.i]? = some a ∧ Hit n qs (us ++ B0) us.length ⟨t.k - a, t.post, t.way⟩) : L.map Tg.un = outS n qs ax B0 us := by
 rw [← outT_un, sorted_unique Tlt.asymm _ _ hs (outT_sorted n qs ax B0 us) fun t => by rw [hm, mem_outT hax]]

end Go.Proofs.YtjacbppeebnjfaaGreat

set_option linter.unusedSimpArgs false
namespace Go.Proofs.YtjacbppeebnjfaaGreat
open Go.RowKit

set_option maxRecDepth 100000 in
set_option maxHeartbeats 2000000 in
theorem wByte_any (bs : List Int) (ba : Option Addr) (cap i : Nat) (w : World) {U : Nat} (hba : BytesAt U w ba bs) (hl : bs.length ≤ 1048576) (hi : i ≤ 1000000) :
  Calls Tryz.prog 16 #[.slice ba bs.length cap, .int .i64 i] w fun e w' => ∃ r, e = .returned (.int .i64 r) ∧ (0 ≤ r ∧ r ≤ 255) ∧ Below w.heap.size w w' := by
 have HB := hide hba
 clear hba
 go_enter Tryz.func16, Tryz.ntmps16
 by_cases h0 : bs.length = 0
 ·have h0' : ((bs.length : Int) == 0) = true := by simp [h0]
  have h0'' : (bs.length : Int) = 0 := by omega
  go_wp2_with fail
  go_ret
  exact ⟨0, rfl, by omega, Below.refl _ _⟩
 ·have h1 : ((bs.length : Int) == 0) = false := by rw [beq_eq_false_iff_ne]; omega
  have h2 : ¬ (bs.length : Int) = 0 := by omega
  have hlt : i % bs.length < bs.length := Nat.mod_lt _ (by omega)
  obtain ⟨b, off, rfl, hbl, e0, e1⟩ := unhide HB (i % bs.length) hlt
  obtain ⟨x, hx⟩ : ∃ x, bs[i % bs.length] = x := ⟨_, rfl⟩
  rw [hx] at e0 e1
  have hw : IntKind.i64.wrap x = x := wrap_small (by omega) (by omega)
  have e2 := hbl.2
  clear hx HB
  go_wp2_with fail
  go_ret
  exact ⟨x, by first | rfl | simp [hw] | go_num, e1, Below.refl _ _⟩

set_option maxRecDepth 100000 in
set_option maxHeartbeats 2000000 in
theorem wFar_any (bs : List Int) (ba : Option Addr) (cap i : Nat) (w : World) {U : Nat} (hba : BytesAt U w ba bs) (hl : bs.length ≤ 1048576) (hi : i ≤ 100000) :
  Calls Tryz.prog 6 #[.slice ba bs.length cap, .int .i64 i] w fun e w' => ∃ r, e = .returned (.int .i64 r) ∧ (0 ≤ r ∧ r ≤ 1530) ∧ Below w.heap.size w w' := by
 have HB := hide hba
 clear hba
 have keep : ∀ w', Below w.heap.size w w' → BytesAt U w' ba bs := fun w' hb j hj => by
  obtain ⟨b, off, e, h3, h4, h5⟩ := unhide HB j hj
  exact ⟨b, off, e, ⟨h3.1, Nat.lt_of_lt_of_le h3.2 hb.size⟩, (hb.cell h3.2).trans h4, h5⟩
 have KEEP := hide keep
 clear keep
 have hw1 : IntKind.i64.wrap ((i : Int) + 1) = ((i + 1 : Nat) : Int) := (wrap_small (by omega) (by omega)).trans (by omega)
 have hw2 : IntKind.i64.wrap ((i : Int) + 2) = ((i + 2 : Nat) : Int) := (wrap_small (by omega) (by omega)).trans (by omega)
 go_enter Tryz.func6, Tryz.ntmps6
 go_wp2_with fail
 refine (wByte_any bs ba cap i _ (unhide HB) hl (by omega)).mono ?_
 rintro e w1 ⟨x, rfl, hx, hb1⟩
 go_wp2_with fail
 refine (wByte_any bs ba cap (i + 1) _ (unhide KEEP _ hb1) hl (by omega)).mono ?_
 rintro e w2 ⟨y, rfl, hy, hb2⟩
 have hb12 := below_then hb1 hb2
 go_wp2_with fail
 refine (wByte_any bs ba cap (i + 2) _ (unhide KEEP _ hb12) hl (by omega)).mono ?_
 rintro e w3 ⟨z, rfl, hz, hb3⟩
 have hb13 := below_then hb12 hb3
 have hz0 : ((1 + 6 * z : Int) == 0) = false := by rw [beq_eq_false_iff_ne]; omega
 have e1 : IntKind.i64.wrap (256 * y) = 256 * y := wrap_small (by omega) (by omega)
 have e2 : IntKind.i64.wrap (x + 256 * y) = x + 256 * y := wrap_small (by omega) (by omega)
 have e3 : IntKind.i64.wrap (6 * z) = 6 * z := wrap_small (by omega) (by omega)
 have e4 : IntKind.i64.wrap (1 + 6 * z) = 1 + 6 * z := wrap_small (by omega) (by omega)
 go_wp2_with fail
 go_ret
 have e5 : Int.tmod (x + 256 * y) (1 + 6 * z) = (x + 256 * y) % (1 + 6 * z) := Int.tmod_eq_emod_of_nonneg (by omega)
 have e6 := Int.emod_nonneg (x + 256 * y) (show (1 + 6 * z : Int) ≠ 0 by omega)
 have e7 := Int.emod_lt_of_pos (x + 256 * y) (show (0 : Int) < 1 + 6 * z by omega)
 have e8 : IntKind.i64.wrap ((x + 256 * y) % (1 + 6 * z)) = (x + 256 * y) % (1 + 6 * z) := wrap_small (by omega) (by omega)
 exact ⟨(x + 256 * y) % (1 + 6 * z), by first | go_num | simp [e5, e8], by omega, hb13⟩

end Go.Proofs.YtjacbppeebnjfaaGreat

