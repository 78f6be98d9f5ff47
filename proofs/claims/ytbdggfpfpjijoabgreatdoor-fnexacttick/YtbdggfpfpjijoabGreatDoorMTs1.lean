import Derived.Test.YtbdggfpfpjijoabGreatDoorMPlain2
import Derived.Test.YtbdggfpfpjijoabGreatDoorMTo
import Derived.Test.YtbdggfpfpjijoabGreatDoorMKw8a
import Derived.Test.YtbdggfpfpjijoabGreatDoorMEq
namespace Go.Proofs.YtbdggfpfpjijoabGreatDoor
open Go.RowKit

def TrsIn (L : Nat) (w : World) (a : Option Addr) (ts : List Tr) : Prop :=
 ∀ i (h : i < ts.length), ∃ b off ba bc, a = some ⟨b, off, none⟩ ∧ (L ≤ b ∧ b < w.heap.size) ∧ w.cell? ⟨b, off + i * 5, none⟩ = some (.int .i64 ts[i].front.piece) ∧ w.cell? ⟨b, off + i * 5 + 1, none⟩ = some (.int .i64 ts[i].front.at_)
  ∧ w.cell? ⟨b, off + i * 5 + 2, none⟩ = some (.int .i64 ts[i].front.way) ∧ w.cell? ⟨b, off + i * 5 + 3, none⟩ = some (.int .i64 ts[i].long) ∧ w.cell? ⟨b, off + i * 5 + 4, none⟩ = some (.slice ba ts[i].back.length bc) ∧ StsAt L w ba ts[i].back
theorem TrsIn.below {L : Nat} {w w' : World} {a : Option Addr} {ts : List Tr} (h : TrsIn L w a ts) (hb : Below w.heap.size w w') : TrsIn L w' a ts := by
 intro i hi
 obtain ⟨b, off, ba, bc, ha, hlt, c0, c1, c2, c3, c4, hs⟩ := h i hi
 exact ⟨b, off, ba, bc, ha, ⟨hlt.1, Nat.lt_of_lt_of_le hlt.2 hb.size⟩, (hb.cell hlt.2).trans c0, (hb.cell hlt.2).trans c1, (hb.cell hlt.2).trans c2, (hb.cell hlt.2).trans c3, (hb.cell hlt.2).trans c4, hs.below hb⟩
theorem TrsAt.in {L : Nat} {w : World} {a : Option Addr} {ts : List Tr} (h : TrsAt L w a ts) : TrsIn L w a ts := by
 intro i hi
 obtain ⟨b, off, ba, bc, ha, hlt, c0, c1, c2, c3, c4, hs, _⟩ := h i hi
 exact ⟨b, off, ba, bc, ha, hlt, c0, c1, c2, c3, c4, hs⟩

def rowTr (ts : List Tr) (L U : Nat) (w : World) (f : Nat → Value) (k : Nat) : Prop :=
 ∀ i (h : i < ts.length), i < k → ∃ ea, f (i * 5) = .int .i64 ts[i].front.piece ∧ f (i * 5 + 1) = .int .i64 ts[i].front.at_ ∧ f (i * 5 + 2) = .int .i64 ts[i].front.way ∧ f (i * 5 + 3) = .int .i64 ts[i].long ∧ f (i * 5 + 4) = .slice ea ts[i].back.length ts[i].back.length ∧ StsOwn L U w ea ts[i].back
def TrsOwn (L U : Nat) (w : World) (a : Option Addr) (ts : List Tr) : Prop :=
 ∃ b f, a = some ⟨b, 0, none⟩ ∧ (L ≤ b ∧ b < U) ∧ w.rowIs b 37 (ts.length * 5) f ∧ rowTr ts L U w f ts.length
theorem TrsOwn.at {L U : Nat} {w : World} {a : Option Addr} {ts : List Tr} (h : TrsOwn L U w a ts) : TrsAt L w a ts := by
 obtain ⟨b, f, rfl, hb, hrow, hf⟩ := h
 intro i hi
 obtain ⟨ea, e0, e1, e2, e3, e4, hs⟩ := hf i hi hi
 refine ⟨b, 0, ea, ts[i].back.length, rfl, ⟨hb.1, hrow.lt⟩, ?_, ?_, ?_, ?_, ?_, hs.at, Nat.le_refl _⟩
 ·rw [← e0, hrow.cell (by omega)]; simp
 ·rw [← e1, hrow.cell (by omega)]; simp
 ·rw [← e2, hrow.cell (by omega)]; simp
 ·rw [← e3, hrow.cell (by omega)]; simp
 ·rw [← e4, hrow.cell (by omega)]; simp
theorem TrsOwn.stays {L U : Nat} {w w' : World} {a : Option Addr} {ts : List Tr} (h : TrsOwn L U w a ts) (hk : Stays L U w w') : TrsOwn L U w' a ts := by
 obtain ⟨b, f, ha, hb, hrow, hf⟩ := h
 refine ⟨b, f, ha, hb, hrow.of_block (hk b hb.1 hb.2), fun i hi hi' => ?_⟩
 obtain ⟨ea, e0, e1, e2, e3, e4, hs⟩ := hf i hi hi'
 exact ⟨ea, e0, e1, e2, e3, e4, hs.stays hk⟩

theorem info_Train : (Tryz.prog.info? 37).map (fun i => (i.zero, i.size, i.bytes)) = some (some (.agg #[.int .i64 0, .int .i64 0, .int .i64 0, .int .i64 0, .slice none 0 0]), 5, 56) := by kernel_rfl

set_option maxHeartbeats 1000000 in
theorem szTrainS_any (a : Option Addr) (ts : List Tr) (cap : Nat) (left : Int) (w : World) (h0 : 0 ≤ left) (h1 : left ≤ 1048576) (hl : ts.length ≤ maxLen)
  {L : Nat} (hp : TrsIn L w a ts) (hs : ∀ i (h : i < ts.length), ts[i].back.length ≤ maxLen) :
  Calls Tryz.prog 22 #[.slice a ts.length cap, .int .i64 left] w fun e w' =>
   ∃ r : Int, e = .returned (.int .i64 r) ∧ r ≤ left ∧ (0 ≤ r → ts.length ≤ left ∧ ∀ i (h : i < ts.length), (ts[i].back.length : Int) ≤ left) ∧ Below w.heap.size w w' := by
 unfold maxLen at hl
 by_cases h : left - ts.length < 0
 ·go_enter Tryz.func22, Tryz.ntmps22
  go_wp2
  go_ret
  exact ⟨-1, rfl, by omega, by omega, (Below.refl _ _)⟩
 ·go_enter Tryz.func22, Tryz.ntmps22
  go_wp2
  go_loopw [1, 5] (fun l i w' => ∃ (k : Nat) (r : Int), k ≤ ts.length ∧ i = .int .i64 k ∧ l = .int .i64 r ∧ 0 ≤ r ∧ r ≤ left - ts.length ∧ (∀ i (h : i < ts.length), i < k → (ts[i].back.length : Int) ≤ left) ∧ Below w.heap.size w w') (fun _ i _ => ts.length - (intOf i).toNat)
  case atStart => exact ⟨0, _, Nat.zero_le _, rfl, rfl, by omega, by omega, fun i h h' => by omega, Below.refl _ _⟩
  case round =>
   obtain ⟨k, r, hk, rfl, rfl, hr0, hr1, hall, hb⟩ := hrel
   by_cases hlt : k < ts.length
   ·obtain ⟨b, off, ba, bc, rfl, hbs, c0, c1, c2, c3, c4, he⟩ := hp.below hb k hlt
    have hz := hs k hlt
    go_wp2_with fail
    refine (szTrain_any _ ts[k] _ _ hr0 (by omega) (L := L) ⟨ba, bc, rfl, he⟩ hz).mono ?_
    rintro e w' ⟨r', rfl, hr', hn', hb'⟩
    by_cases hneg : r' < 0
    ·go_wp2
     go_ret
     exact ⟨-1, rfl, by omega, by omega, below_then hb hb'⟩
    ·go_wp2
     go_roundw
     case rel =>
      refine ⟨k + 1, r', by omega, by go_num, rfl, by omega, by omega, fun i h h' => ?_, below_then hb hb'⟩
      by_cases e : i = k
      ·subst e; have := hn' (by omega); omega
      ·exact hall i h (by omega)
     case measure => simp [intOf]; omega
   ·go_wp2
    go_ret
    exact ⟨r, rfl, by omega, fun _ => ⟨by omega, fun i h => hall i h (by omega)⟩, hb⟩

set_option maxHeartbeats 1000000 in
theorem toTrainS_own (a : Option Addr) (ts : List Tr) (cap : Nat) (w : World) (hl : ts.length ≤ 1048576) (hle : ∀ i (h : i < ts.length), ts[i].back.length ≤ 1048576) {L : Nat} (hp : TrsIn L w a ts) :
  Calls Tryz.prog 24 #[.slice a ts.length cap] w fun e w' =>
   ∃ a', e = .returned (.slice a' ts.length ts.length) ∧ TrsOwn w.heap.size w'.heap.size w' a' ts ∧ Below w.heap.size w w' := by
 have hmk := run_make_rows (P := Tryz.prog) 60 37 _ 5 56 (by kernel_rfl) info_Train ts.length (by omega) hl
 go_enter Tryz.func24, Tryz.ntmps24
 go_wp2
 go_loopw [4] (fun i wr => ∃ (k : Nat) (f : Nat → Value), k ≤ ts.length ∧ i = .int .i64 k ∧ wr.rowIs w.heap.size 37 (ts.length * 5) f ∧ rowTr ts (w.heap.size + 1) wr.heap.size wr f k ∧ Below w.heap.size w wr) (fun i _ => ts.length - (intOf i).toNat)
 case atStart => exact ⟨0, _, Nat.zero_le _, rfl, row_made _ _ _ _, fun i h h' => by omega, (Below.refl _ _).alloc (Nat.le_refl _) _⟩
 case round =>
  obtain ⟨k, f, hk, rfl, hrow, hf, hb⟩ := hrel
  clear hmk
  by_cases hlt : k < ts.length
  ·obtain ⟨b, off, ba, bc, rfl, hbs, c0, c1, c2, c3, c4, he⟩ := hp.below hb k hlt
   go_wp2_with fail
   refine (toTrain_own _ ts[k] _ (L := L) ⟨ba, bc, rfl, he⟩ (hle k hlt)).mono ?_
   rintro e w1 ⟨_, rfl, ⟨a1, rfl, he1⟩, hb1⟩
   have hrow1 := hrow.of_block (hb1.block _ hrow.lt)
   have z0 := hrow1.frozen (k * 5)
   have z1 := hrow1.frozen (k * 5 + 1)
   have z2 := hrow1.frozen (k * 5 + 2)
   have z3 := hrow1.frozen (k * 5 + 3)
   have z4 := hrow1.frozen (k * 5 + 4)
   have y0 := hrow1.cell (i := k * 5) (by omega)
   have y1 := hrow1.cell (i := k * 5 + 1) (by omega)
   have y2 := hrow1.cell (i := k * 5 + 2) (by omega)
   have y3 := hrow1.cell (i := k * 5 + 3) (by omega)
   have y4 := hrow1.cell (i := k * 5 + 4) (by omega)
   have hl0 := hrow.lt
   have hs1 := hb1.size
   have HR := hide hrow1
   clear hrow1
   go_wp2
   go_roundw
   case rel =>
    refine ⟨k + 1, _, by omega, by go_num, (((((unhide HR).set _ _).set _ _).set _ _).set _ _).set _ _, ?_, ?_⟩
    ·intro i h h'
     by_cases e : i = k
     ·subst e
      refine ⟨a1, by simp, by simp, by simp, by simp, by simp, ?_⟩
      exact ((he1.mono (by omega) (Nat.le_refl _)).stays (((((stays_setCell _ (by simp) _).trans (stays_setCell _ (by simp) _)).trans (stays_setCell _ (by simp) _)).trans (stays_setCell _ (by simp) _)).trans (stays_setCell _ (by simp) _))).mono (Nat.le_refl _) (by simp [World.setCell])
     ·obtain ⟨a2, f0, f1, f2, f3, f4, he2⟩ := hf i h (by omega)
      refine ⟨a2, ?_, ?_, ?_, ?_, ?_, ?_⟩
      ·dsimp only; (repeat rw [if_neg (by omega)]); exact f0
      ·dsimp only; (repeat rw [if_neg (by omega)]); exact f1
      ·dsimp only; (repeat rw [if_neg (by omega)]); exact f2
      ·dsimp only; (repeat rw [if_neg (by omega)]); exact f3
      ·dsimp only; (repeat rw [if_neg (by omega)]); exact f4
      ·exact ((he2.stays (stays_below hb1 (Nat.le_refl _))).stays (((((stays_setCell _ (by simp) _).trans (stays_setCell _ (by simp) _)).trans (stays_setCell _ (by simp) _)).trans (stays_setCell _ (by simp) _)).trans (stays_setCell _ (by simp) _))).mono (Nat.le_refl _) (by simp [World.setCell]; omega)
    ·have := below_then hb hb1
     repeat (first | exact this | refine Below.setCell ?_ (by simp <;> omega) _)
   case measure => simp [intOf]; omega
  ·obtain rfl : k = ts.length := by omega
   go_wp2
   go_ret
   refine ⟨_, rfl, ⟨_, f, rfl, ⟨Nat.le_refl _, hrow.lt⟩, hrow, fun i h h' => ?_⟩, hb⟩
   obtain ⟨a2, e0, e1, e2, e3, e4, he2⟩ := hf i h h
   exact ⟨a2, e0, e1, e2, e3, e4, he2.mono (by omega) (Nat.le_refl _)⟩

set_option maxHeartbeats 1000000 in
theorem eqTrainS_any (a c : Option Addr) (ts : List Tr) (ca cc : Nat) (w : World) {L L' : Nat} (hl : ts.length ≤ 1048576) (hle : ∀ i (h : i < ts.length), ts[i].back.length ≤ 1048576) (hp : TrsIn L w a ts) (hq : TrsIn L' w c ts) :
  Calls Tryz.prog 27 #[.slice a ts.length ca, .slice c ts.length cc] w fun e w' =>
   e = .returned (.bool true) ∧ Below w.heap.size w w' := by
 go_enter Tryz.func27, Tryz.ntmps27
 go_wp2
 go_loopw [5] (fun i wr => ∃ (k : Nat), k ≤ ts.length ∧ i = .int .i64 k ∧ Below w.heap.size w wr) (fun i _ => ts.length - (intOf i).toNat)
 case atStart => exact ⟨0, Nat.zero_le _, rfl, Below.refl _ _⟩
 case round =>
  obtain ⟨k, hk, rfl, hb⟩ := hrel
  by_cases hlt : k < ts.length
  ·obtain ⟨b, off, ba, bc, rfl, hbs, c0, c1, c2, c3, c4, he⟩ := hp.below hb k hlt
   obtain ⟨b', off', ba', bc', rfl, hbs', c0', c1', c2', c3', c4', he'⟩ := hq.below hb k hlt
   have hlk := hle k hlt
   go_wp2_with fail
   go_region_with (go_at_call 16; refine (eqTrain_any _ _ ts[k] _ hlk (L := L) (L' := L') ⟨ba, bc, rfl, he.below bw0⟩ ⟨ba', bc', rfl, he'.below bw0⟩).mono ?_; rintro e w1 ⟨rfl, hb1⟩)
   all_goals go_wp2
   all_goals exact ⟨⟨k + 1, by omega, by go_num, below_then hb.drew hb1⟩, by simp [intOf]; omega⟩
  ·go_wp2
   go_ret
   exact ⟨rfl, hb⟩

set_option maxHeartbeats 1000000 in
theorem markTrainS_any (b n cap : Nat) (k0 : Int) (f : Nat → Value) (E : Nat → Option Addr) (l : Nat → Nat) (w : World) (hn : n ≤ 1048576) (h0 : 0 ≤ k0) (h1 : k0 ≤ 100000000000000) (ho : w.rowIs b 37 (n * 5) f)
  (hE : ∀ i, i < n → f (i * 5 + 4) = .slice (E i) (l i) (l i) ∧ l i ≤ 1048576 ∧ ∃ eb, E i = some ⟨eb, 0, none⟩ ∧ ∃ g, w.rowIs eb 86 (l i * 2) g) :
  Calls Tryz.prog 28 #[.slice (some ⟨b, 0, none⟩) n cap, .int .i64 k0] w fun e w' => ∃ r : Int, e = .returned (.int .i64 r) ∧ k0 ≤ r ∧ r ≤ k0 + n * 3000000 ∧ Only (fun k => k = b ∨ ∃ i, i < n ∧ blk (E i) k) w w' := by
 go_enter Tryz.func28, Tryz.ntmps28
 go_wp2
 go_loopw [1, 5] (fun y x wr => ∃ (k : Nat) (r : Int) (f' : Nat → Value), k ≤ n ∧ x = .int .i64 k ∧ y = .int .i64 r ∧ k0 ≤ r ∧ r ≤ k0 + k * 3000000 ∧ wr.rowIs b 37 (n * 5) f' ∧ (∀ i, i < n → f' (i * 5 + 4) = f (i * 5 + 4)) ∧ Only (fun k => k = b ∨ ∃ i, i < n ∧ blk (E i) k) w wr) (fun _ x _ => n - (intOf x).toNat)
 case atStart => exact ⟨0, k0, f, Nat.zero_le _, rfl, rfl, by omega, by omega, ho, fun i _ => rfl, only_refl _ _⟩
 case round =>
  obtain ⟨k, r, f', hk, rfl, rfl, hr0, hr1, hrow, hf', hon⟩ := hrel
  by_cases hlt : k < n
  ·obtain ⟨e2, hl2, eb, heb, hg⟩ := hE k hlt
   have z0 := hrow.frozen (k * 5)
   have z1 := hrow.frozen (k * 5 + 1)
   have z2 := hrow.frozen (k * 5 + 2)
   have z3 := hrow.frozen (k * 5 + 3)
   have y0 := hrow.cell (i := k * 5) (by omega)
   have y1 := hrow.cell (i := k * 5 + 1) (by omega)
   have y2 := hrow.cell (i := k * 5 + 2) (by omega)
   have y3 := hrow.cell (i := k * 5 + 3) (by omega)
   have y4 := hrow.cell (i := k * 5 + 4) (by omega)
   rw [hf' k hlt, e2, heb] at y4
   have hM := hrow.lt
   have HROW := hide hrow
   have HEB := hide heb
   clear hrow e2 heb
   go_wp2_with fail
   have hrow2 := ((((unhide HROW).set (k * 5) (.int .i64 r)).set (k * 5 + 1) (.int .i64 (r + 1))).set (k * 5 + 2) (.int .i64 (r + 1 + 1))).set (k * 5 + 3) (.int .i64 (r + 1 + 1 + 1))
   have hon2 : Only (fun k => k = b ∨ ∃ i, i < n ∧ blk (E i) k) w _ := (((hon.trans (only_setCell (p := ⟨b, k * 5, none⟩) _ (Or.inl rfl) (.int .i64 r))).trans (only_setCell (p := ⟨b, k * 5 + 1, none⟩) _ (Or.inl rfl) (.int .i64 (r + 1)))).trans (only_setCell (p := ⟨b, k * 5 + 2, none⟩) _ (Or.inl rfl) (.int .i64 (r + 1 + 1)))).trans (only_setCell (p := ⟨b, k * 5 + 3, none⟩) _ (Or.inl rfl) (.int .i64 (r + 1 + 1 + 1)))
   obtain ⟨g2, hg2⟩ := hon2.row hg
   refine (markStepS_any _ (l k) _ _ g2 _ hl2 (by omega) (by omega) (fun _ => ⟨eb, 0, rfl, own_row hg2⟩)).mono ?_
   rintro e w2 ⟨rfl, _, hon3⟩
   have hne : b ≠ eb := rows_apart hrow2 hg2 (by decide)
   have hrow3 := hrow2.of_block (hon3.block b hrow2.lt (fun ⟨b', off', h1, h2⟩ => hne (by have h3 := congrArg Addr.block (Option.some.inj h1); dsimp only at h3; omega)))
   have hon4 : Only (fun k => k = b ∨ ∃ i, i < n ∧ blk (E i) k) w w2 := hon2.trans (hon3.mono (fun j _ ⟨b', off', h1, h2⟩ => Or.inr ⟨k, hlt, b', off', by rw [unhide HEB]; exact h1, h2⟩))
   have HROW3 := hide hrow3
   clear hrow2 hrow3 hg2
   go_wp2
   refine ⟨⟨k + 1, _, _, by omega, by go_num, rfl, by omega, by omega, unhide HROW3, fun i hi => ?_, hon4⟩, by simp [intOf]; omega⟩
   rw [if_neg (by omega), if_neg (by omega), if_neg (by omega), if_neg (by omega)]
   exact hf' i hi
  ·obtain rfl : k = n := by omega
   go_wp2
   go_ret
   exact ⟨r, rfl, hr0, hr1, hon⟩

theorem markTrsOwn_any (a : Option Addr) (ts : List Tr) (cap : Nat) (L U : Nat) (k0 : Int) (w : World) (hv : TrsOwn L U w a ts) (hl : ts.length ≤ 1048576) (hle : ∀ i (h : i < ts.length), ts[i].back.length ≤ 1048576) (h0 : 0 ≤ k0) (h1 : k0 ≤ 100000000000000) :
  Calls Tryz.prog 28 #[.slice a ts.length cap, .int .i64 k0] w fun e w' => ∃ r : Int, e = .returned (.int .i64 r) ∧ k0 ≤ r ∧ r ≤ k0 + 5000000000000 ∧ Only (fun k => L ≤ k ∧ k < U) w w' := by
 obtain ⟨b, f, rfl, hb, hrow, hf⟩ := hv
 haveI : Inhabited (Option Addr) := ⟨none⟩
 obtain ⟨E, hE⟩ : ∃ E : Nat → Option Addr, ∀ i (h : i < ts.length), f (i * 5 + 4) = .slice (E i) ts[i].back.length ts[i].back.length ∧ StsOwn L U w (E i) ts[i].back := by
  obtain ⟨E, hE⟩ := Deep.choose_lt (n := ts.length) (p := fun i (ea : Option Addr) => ∀ h : i < ts.length, f (i * 5 + 4) = .slice ea ts[i].back.length ts[i].back.length ∧ StsOwn L U w ea ts[i].back) (fun i hi => by
   obtain ⟨ea, _, _, _, _, h2, h3⟩ := hf i hi hi
   exact ⟨ea, fun _ => ⟨h2, h3⟩⟩)
  exact ⟨E, fun i h => hE i h h⟩
 refine (markTrainS_any b _ _ _ f E (fun i => (ts[i]?.map fun t => t.back.length).getD 0) _ hl h0 h1 hrow (fun i hi => ?_)).mono ?_
 ·obtain ⟨h2, h3⟩ := hE i hi
  obtain ⟨eb, ef, ha, hb, hrow, _⟩ := h3
  simp only [List.getElem?_eq_getElem hi, Option.map_some, Option.getD_some]
  exact ⟨h2, hle i hi, eb, ha, ef, hrow⟩
 rintro e w2 ⟨r, rfl, hr0, hr1, hon2⟩
 refine ⟨r, rfl, by omega, by omega, hon2.mono fun k _ hk => ?_⟩
 rcases hk with rfl | ⟨i, hi, b', off', hb', rfl⟩
 ·exact hb
 ·obtain ⟨_, eb, ef, ha, hb, _⟩ := hE i hi
  rw [ha] at hb'
  simp at hb'
  rw [← hb'.1]
  exact hb
end Go.Proofs.YtbdggfpfpjijoabGreatDoor

namespace Go.Proofs.YtbdggfpfpjijoabGreatDoor
open Go.ChangeShapes Go.WideShapes Go.ChangeAt Go.RowKit Go.Deep Go.Joins

section
variable {H : Type} {enc : TypeId × Value → H} {w : World} {base : Nat} {held : Bool}

set_option maxRecDepth 100000 in
theorem readTrs {fuel : Nat} {cs : List Value} {x : DataW H × List MemPlace} (h : DataW.trod enc Tryz.prog w base (fun _ => true) held fuel 58 cs = some x) :
  ∃ a cap es, cs = [.slice a (List.length es) cap] ∧ TrsIn 0 w a es ∧ es.length ≤ maxLen ∧ ∀ i (h : i < es.length), es[i].back.length ≤ maxLen := by
 rcases open_slice Tryz.underlying58 h with ⟨rfl, _⟩ | ⟨a, len, cap, m, n, D, Pl, rfl, hb, hl, hm, hmm, _, hx⟩
 ·exact ⟨none, 0, [], rfl, fun i h => by simp at h, by simp, fun i h => by simp at h⟩
 ·rw [cellsLTrain] at hx
  simp only [if_true] at hmm
  subst hmm
  have each : ∀ i, i < len → ∃ e : Tr, ∃ b off ba bc, a = ⟨b, off, none⟩ ∧ b < w.heap.size ∧ w.cell? ⟨b, off + i * 5, none⟩ = some (.int .i64 e.front.piece) ∧ w.cell? ⟨b, off + i * 5 + 1, none⟩ = some (.int .i64 e.front.at_) ∧ w.cell? ⟨b, off + i * 5 + 2, none⟩ = some (.int .i64 e.front.way) ∧ w.cell? ⟨b, off + i * 5 + 3, none⟩ = some (.int .i64 e.long) ∧ w.cell? ⟨b, off + i * 5 + 4, none⟩ = some (.slice ba e.back.length bc) ∧ StsAt 0 w ba e.back ∧ e.back.length ≤ maxLen := by
   intro i hi
   obtain ⟨b, off, cs, ha, hblk, ht, hlen, hcell⟩ := row_cells (by omega) hx (show i < m by omega)
   obtain ⟨y0, y1, y2, k, _, _, h0, h1, h2⟩ := trod_struct3 Tryz.underlying31 ht
   match cs, hlen with
   | [c0, c1, c2, c3, c4], _ =>
    simp [cellsInt, cellsLSpot, cellsLSteps] at h0 h1 h2
    obtain ⟨z0, z1, z2, k', _, _, g0, g1, g2⟩ := trod_struct3 Tryz.underlying28 h0
    simp [cellsInt] at g0 g1 g2
    obtain ⟨x0, e0, _, _⟩ := DataW.trod_int uInt g0
    obtain ⟨x1, e1, _, _⟩ := DataW.trod_int uInt g1
    obtain ⟨x2, e2, _, _⟩ := DataW.trod_int uInt g2
    obtain ⟨x3, e3, _, _⟩ := DataW.trod_int uInt h1
    obtain ⟨ea, ec, es, e4, hes, hel⟩ := readSts h2
    simp at e0 e1 e2 e3 e4
    subst e0 e1 e2 e3 e4
    exact ⟨⟨⟨x0, x1, x2⟩, x3, es⟩, b, off, ea, ec, ha, hblk, by simpa using hcell 0 (by omega), by simpa using hcell 1 (by omega), by simpa using hcell 2 (by omega), by simpa using hcell 3 (by omega), by simpa using hcell 4 (by omega), hes, hel⟩
  haveI : Inhabited Tr := ⟨⟨⟨0, 0, 0⟩, 0, []⟩⟩
  obtain ⟨f, hf⟩ := choose_lt each
  refine ⟨some a, m, (List.range len).map f, by simp, fun i hi => ?_, by simp; omega, fun i hi => ?_⟩
  ·have hi' : i < len := by simpa using hi
   obtain ⟨b, off, ba, bc, ha, hblk, r0, r1, r2, r3, r4, r5, _⟩ := hf i hi'
   exact ⟨b, off, ba, bc, by rw [ha], ⟨Nat.zero_le _, hblk⟩, by simpa using r0, by simpa using r1, by simpa using r2, by simpa using r3, by simpa using r4, by simpa using r5⟩
  ·have hi' : i < len := by simpa using hi
   obtain ⟨b, off, ba, bc, ha, hblk, r0, r1, r2, r3, r4, r5, r6⟩ := hf i hi'
   simpa using r6

set_option maxRecDepth 100000 in
theorem readTrsV {r : Reach} {b0 : Nat} {v : Value} {d : DataW H} {p : List MemPlace} (hv : Value.okWide Tryz.prog w r b0 58 v) (h : DataW.Trod enc Tryz.prog w base (fun _ => true) held 58 v d p) :
  ∃ a cap ts, v = .slice a (List.length ts) cap ∧ TrsIn 0 w a ts ∧ ts.length ≤ maxLen ∧ ∀ i (h : i < ts.length), ts[i].back.length ≤ maxLen := by
 obtain ⟨a0, len0, cap0, rfl⟩ := okWide_slice Tryz.underlying58 hv
 obtain ⟨fuel, hf⟩ := h
 obtain ⟨a, cap, zs, hcs, hz, hl, hb⟩ := readTrs hf
 simp [Value.cells] at hcs
 obtain ⟨rfl, rfl, rfl⟩ := hcs
 exact ⟨a0, cap0, zs, rfl, hz, hl, hb⟩
end
end Go.Proofs.YtbdggfpfpjijoabGreatDoor

namespace Go.Proofs.YtbdggfpfpjijoabGreatDoor
open Go.RowKit

set_option maxHeartbeats 400000 in
theorem toIntS_own (a : Option Addr) (zs : List Int) (cap : Nat) (w : World) (hl : zs.length ≤ 1048576) {L : Nat} (hp : IntsAt L w a zs) :
  Calls Tryz.prog 10 #[.slice a zs.length cap] w fun e w' =>
   ∃ b f, e = .returned (.slice (some ⟨b, 0, none⟩) zs.length zs.length) ∧ IntsAt w.heap.size w' (some ⟨b, 0, none⟩) zs ∧ OwnL w' (some ⟨b, 0, none⟩) zs.length f ∧ (w.heap.size ≤ b ∧ b < w'.heap.size) ∧ Below w.heap.size w w' := by
 have hmk := run_make_rows (P := Tryz.prog) 26 3 _ 1 8 (by kernel_rfl) info_Int zs.length (by omega) hl
 go_enter Tryz.func10, Tryz.ntmps10
 go_wp2
 go_loopw [4] (fun i wr => ∃ (k : Nat) (f : Nat → Value), k ≤ zs.length ∧ i = .int .i64 k ∧ wr.rowIs w.heap.size 3 (zs.length * 1) f ∧ (∀ i (h : i < zs.length), i < k → f i = .int .i64 zs[i]) ∧ Below w.heap.size w wr) (fun i _ => zs.length - (intOf i).toNat)
 case atStart => exact ⟨0, _, Nat.zero_le _, rfl, by simpa using row_made _ _ (zs.length * 1) _, fun i h h' => by omega, (Below.refl _ _).alloc (Nat.le_refl _) _⟩
 case round =>
  obtain ⟨k, f, hk, rfl, hrow, hf, hb⟩ := hrel
  clear hmk
  by_cases hlt : k < zs.length
  ·obtain ⟨b, off, rfl, hbs, c0⟩ := hp.below hb k hlt
   have z0 := hrow.frozen k
   have y0 := hrow.cell (i := k) (by omega)
   have HR := hide hrow
   clear hrow
   go_wp2
   go_roundw
   case rel =>
    refine ⟨k + 1, _, by omega, by go_num, (unhide HR).set _ _, ?_, Below.setCell hb (by simp) _⟩
    intro i h h'
    by_cases e : i = k
    ·subst e
     simp
    ·rw [if_neg (by omega)]
     exact hf i h (by omega)
   case measure => simp [intOf]; omega
  ·obtain rfl : k = zs.length := by omega
   go_wp2
   go_ret
   refine ⟨_, f, rfl, fun i h => ?_, fun _ => ⟨_, 0, rfl, ?_⟩, ⟨Nat.le_refl _, hrow.lt⟩, hb⟩
   ·exact ⟨_, 0, rfl, ⟨Nat.le_refl _, hrow.lt⟩, by rw [← hf i h h, hrow.cell (by omega)]; simp⟩
   ·have := own_row hrow
    rwa [Nat.mul_one] at this
end Go.Proofs.YtbdggfpfpjijoabGreatDoor

namespace Go.Proofs.YtbdggfpfpjijoabGreatDoor
open Go.RowKit

def rowPt (ps : List Pt) (f : Nat → Value) (k : Nat) : Prop :=
 ∀ i (h : i < ps.length), i < k → f (i * 3) = .int .i64 ps[i].piece ∧ f (i * 3 + 1) = .int .i64 ps[i].fr ∧ f (i * 3 + 2) = .int .i64 ps[i].to
def PtsOwn (L U : Nat) (w : World) (a : Option Addr) (ps : List Pt) : Prop :=
 ∃ b f, a = some ⟨b, 0, none⟩ ∧ (L ≤ b ∧ b < U) ∧ w.rowIs b 138 (ps.length * 3) f ∧ rowPt ps f ps.length
theorem PtsOwn.at {L U : Nat} {w : World} {a : Option Addr} {ps : List Pt} (h : PtsOwn L U w a ps) : PtsAt L w a ps := by
 obtain ⟨b, f, rfl, hb, hrow, hf⟩ := h
 intro i hi
 obtain ⟨e0, e1, e2⟩ := hf i hi hi
 refine ⟨b, 0, rfl, ⟨hb.1, hrow.lt⟩, ?_, ?_, ?_⟩
 ·rw [← e0, hrow.cell (by omega)]; simp
 ·rw [← e1, hrow.cell (by omega)]; simp
 ·rw [← e2, hrow.cell (by omega)]; simp
theorem PtsOwn.stays {L U : Nat} {w w' : World} {a : Option Addr} {ps : List Pt} (h : PtsOwn L U w a ps) (hk : Stays L U w w') : PtsOwn L U w' a ps := by
 obtain ⟨b, f, ha, hb, hrow, hf⟩ := h
 exact ⟨b, f, ha, hb, hrow.of_block (hk b hb.1 hb.2), hf⟩
theorem PtsOwn.below {L U : Nat} {w w' : World} {a : Option Addr} {ps : List Pt} (h : PtsOwn L U w a ps) (hb : Below w.heap.size w w') (hU : U ≤ w.heap.size) : PtsOwn L U w' a ps := h.stays (stays_below hb hU)
theorem PtsOwn.own {L U : Nat} {w : World} {a : Option Addr} {ps : List Pt} (h : PtsOwn L U w a ps) : ∃ f, OwnL w a (ps.length * 3) f ∧ ∀ k, blk a k → L ≤ k ∧ k < U := by
 obtain ⟨b, f, rfl, hb, hrow, _⟩ := h
 refine ⟨f, fun _ => ⟨b, 0, rfl, own_row hrow⟩, fun k hk => ?_⟩
 obtain ⟨b', off, ha, rfl⟩ := hk
 simp at ha
 obtain ⟨rfl, _⟩ := ha
 exact hb

set_option maxHeartbeats 400000 in
theorem heldIntS_any (a : Option Addr) (n cap : Nat) (k0 : Int) (w : World) (hn : n ≤ 1048576) (h0 : 0 ≤ k0) (h1 : k0 ≤ 1000000000000000) (ho : OwnL w a n (marks k0)) :
  Calls Tryz.prog 73 #[.slice a n cap, .int .i64 k0] w fun e w' => e = .returned (.int .i64 (k0 + n)) ∧ w' = w := by
 go_enter Tryz.func73, Tryz.ntmps73
 go_wp2
 go_loop [1, 5] (fun y x => ∃ k : Nat, k ≤ n ∧ x = .int .i64 k ∧ y = .int .i64 (k0 + k)) (fun _ x => n - (intOf x).toNat)
 case atStart => exact ⟨0, Nat.zero_le _, rfl, by simp⟩
 case round =>
  obtain ⟨k, hk, rfl, rfl⟩ := hrel
  by_cases hlt : k < n
  ·obtain ⟨b, off, rfl, hC⟩ := ho (by omega)
   have y0 := (hC.2 k hlt).1
   rw [show marks k0 k = .int .i64 (k0 + (k : Int)) from rfl] at y0
   clear hC
   go_wp2
   exact ⟨⟨k + 1, by omega, by go_num, congrArg (Value.int .i64) (by omega)⟩, by simp [intOf]; omega⟩
  ·obtain rfl : k = n := by omega
   go_wp2
   go_ret
   exact ⟨rfl, rfl⟩

end Go.Proofs.YtbdggfpfpjijoabGreatDoor

