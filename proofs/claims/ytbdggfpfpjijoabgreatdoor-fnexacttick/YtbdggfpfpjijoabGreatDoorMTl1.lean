import Derived.Test.YtbdggfpfpjijoabGreatDoorMTk7
import Derived.Test.YtbdggfpfpjijoabGreatDoorMPlain2
import Derived.Test.YtbdggfpfpjijoabGreatDoorMTo
import Derived.Test.YtbdggfpfpjijoabGreatDoorMTs1
set_option linter.unusedSimpArgs false
namespace Go.Proofs.YtbdggfpfpjijoabGreatDoor
open Go.RowKit

def SksAt (L : Nat) (w : World) (a : Option Addr) (zs : List (Int × Int)) : Prop :=
 ∀ i (h : i < zs.length), ∃ b off, a = some ⟨b, off, none⟩ ∧ (L ≤ b ∧ b < w.heap.size) ∧ w.cell? ⟨b, off + i * 2, none⟩ = some (.int .i64 zs[i].1) ∧ w.cell? ⟨b, off + i * 2 + 1, none⟩ = some (.int .i64 zs[i].2)
theorem SksAt.below {L : Nat} {w w' : World} {a : Option Addr} {zs : List (Int × Int)} (h : SksAt L w a zs) (hb : Below w.heap.size w w') : SksAt L w' a zs := by
 intro i hi
 obtain ⟨b, off, ha, hlt, c0, c1⟩ := h i hi
 exact ⟨b, off, ha, ⟨hlt.1, Nat.lt_of_lt_of_le hlt.2 hb.size⟩, (hb.cell hlt.2).trans c0, (hb.cell hlt.2).trans c1⟩
theorem skRow_at {w : World} {base : Nat} {v : Value} {zs : List (Int × Int)} (h : SkRow w base v zs) : ∃ a cap, v = .slice a zs.length cap ∧ zs.length ≤ cap ∧ SksAt base w a zs := by
 obtain ⟨a, cap, hv, hc, hx⟩ := h.shape skF_len
 refine ⟨a, cap, hv, hc, fun i hi => ?_⟩
 obtain ⟨g, rfl, hl, hcell⟩ := hx i hi
 exact ⟨g, 0, rfl, hl, by simpa [skF] using hcell 0 (by omega), by simpa [skF] using hcell 1 (by omega)⟩

set_option maxHeartbeats 400000 in
theorem eqStrike_any (p s : Int) (w : World) :
  Calls Tryz.prog 121 #[.agg #[.int .i64 p, .int .i64 s], .agg #[.int .i64 p, .int .i64 s]] w fun e w' =>
   e = .returned (.bool true) ∧ Below w.heap.size w w' := by
 go_enter Tryz.func121, Tryz.ntmps121
 go_wp2
 go_ret
 exact ⟨rfl, bw0⟩

set_option maxHeartbeats 1000000 in
theorem eqStrikeS_any (a c : Option Addr) (es : List (Int × Int)) (ca cc : Nat) (w : World) {L L' : Nat} (hl : es.length ≤ 1048576) (hp : SksAt L w a es) (hq : SksAt L' w c es) :
  Calls Tryz.prog 70 #[.slice a es.length ca, .slice c es.length cc] w fun e w' =>
   e = .returned (.bool true) ∧ Below w.heap.size w w' := by
 go_enter Tryz.func70, Tryz.ntmps70
 go_wp2
 go_loopw [5] (fun i wr => ∃ (k : Nat), k ≤ es.length ∧ i = .int .i64 k ∧ Below w.heap.size w wr) (fun i _ => es.length - (intOf i).toNat)
 case atStart => exact ⟨0, Nat.zero_le _, rfl, Below.refl _ _⟩
 case round =>
  obtain ⟨k, hk, rfl, hb⟩ := hrel
  by_cases hlt : k < es.length
  ·obtain ⟨b, off, rfl, hbs, c0, c1⟩ := hp.below hb k hlt
   obtain ⟨b', off', rfl, hbs', c0', c1'⟩ := hq.below hb k hlt
   go_wp2_with fail
   go_region_with (go_at_call 121; refine (eqStrike_any _ _ _).mono ?_; rintro e w1 ⟨rfl, hb1⟩)
   all_goals go_wp2
   all_goals exact ⟨⟨k + 1, by omega, by go_num, below_then hb.drew hb1⟩, by simp [intOf]; omega⟩
  ·go_wp2
   go_ret
   exact ⟨rfl, hb⟩

set_option maxHeartbeats 400000 in
theorem markStrikeS_any (a : Option Addr) (n cap : Nat) (k0 : Int) (f : Nat → Value) (w : World) (hn : n ≤ 1048576) (h0 : 0 ≤ k0) (h1 : k0 ≤ 1000000000000000) (ho : OwnL w a (n * 2) f) :
  Calls Tryz.prog 71 #[.slice a n cap, .int .i64 k0] w fun e w' => e = .returned (.int .i64 (k0 + (n * 2 : Nat))) ∧ OwnL w' a (n * 2) (marks k0) ∧ Only (blk a) w w' := by
 go_enter Tryz.func71, Tryz.ntmps71
 go_wp2
 go_loopw [1, 5] (fun y x wr => ∃ k : Nat, k ≤ n ∧ x = .int .i64 k ∧ y = .int .i64 (k0 + (k * 2 : Nat)) ∧ OwnL wr a (n * 2) (fun j => if j < k * 2 then marks k0 j else f j) ∧ Only (blk a) w wr) (fun _ x _ => n - (intOf x).toNat)
 case atStart => exact ⟨0, Nat.zero_le _, rfl, by simp, by simpa using ho, only_refl _ _⟩
 case round =>
  obtain ⟨k, hk, rfl, rfl, hO, hon⟩ := hrel
  by_cases hlt : k < n
  ·obtain ⟨b, off, rfl, hC⟩ := hO (by omega)
   have y0 := (hC.2 (k * 2) (by omega)).1
   have z0 := (hC.2 (k * 2) (by omega)).2
   have y1 := (hC.2 (k * 2 + 1) (by omega)).1
   have z1 := (hC.2 (k * 2 + 1) (by omega)).2
   simp only [← Nat.add_assoc] at y0 z0 y1 z1
   have HC := hide hC
   clear hC
   go_wp2
   refine ⟨⟨k + 1, by omega, by go_num, congrArg (Value.int .i64) (by omega), fun _ => ⟨b, off, rfl, ?_⟩, ((hon.trans (only_setCell _ ⟨b, off, rfl, rfl⟩ _)).trans (only_setCell _ ⟨b, off, rfl, rfl⟩ _))⟩, by simp [intOf]; omega⟩
   refine OwnC.congr (f := ?f) ?h1 fun j hj => ?h2
   case h1 => exact (((unhide HC).set (i := k * 2) (by omega) _).set (i := k * 2 + 1) (by omega) _)
   case h2 =>
    by_cases e2 : j < k * 2
    ·(repeat rw [if_neg (by omega)])
     rw [if_pos e2, if_pos (by omega)]
    ·by_cases e3 : j < (k + 1) * 2
     ·have hj3 : j = k * 2 ∨ j = k * 2 + 1 := by omega
      rw [if_pos e3]
      rcases hj3 with rfl | rfl
      all_goals (simp [marks] <;> omega)
     ·(repeat rw [if_neg (by omega)])
  ·obtain rfl : k = n := by omega
   go_wp2
   go_ret
   refine ⟨rfl, fun hp => ?_, hon⟩
   obtain ⟨b, off, ha, hC⟩ := hO hp
   exact ⟨b, off, ha, hC.congr fun j hj => by simp [hj]⟩

set_option maxHeartbeats 400000 in
theorem heldStrikeS_any (a : Option Addr) (n cap : Nat) (k0 : Int) (w : World) (hn : n ≤ 1048576) (h0 : 0 ≤ k0) (h1 : k0 ≤ 1000000000000000) (ho : OwnL w a (n * 2) (marks k0)) :
  Calls Tryz.prog 74 #[.slice a n cap, .int .i64 k0] w fun e w' => e = .returned (.int .i64 (k0 + (n * 2 : Nat))) ∧ w' = w := by
 go_enter Tryz.func74, Tryz.ntmps74
 go_wp2
 go_loop [1, 5] (fun y x => ∃ k : Nat, k ≤ n ∧ x = .int .i64 k ∧ y = .int .i64 (k0 + (k * 2 : Nat))) (fun _ x => n - (intOf x).toNat)
 case atStart => exact ⟨0, Nat.zero_le _, rfl, by simp⟩
 case round =>
  obtain ⟨k, hk, rfl, rfl⟩ := hrel
  by_cases hlt : k < n
  ·obtain ⟨b, off, rfl, hC⟩ := ho (by omega)
   have y0 := (hC.2 (k * 2) (by omega)).1
   have y1 := (hC.2 (k * 2 + 1) (by omega)).1
   simp only [← Nat.add_assoc] at y0 y1
   rw [show marks k0 (k * 2) = .int .i64 (k0 + ((k * 2 : Nat) : Int)) from congrArg (Value.int .i64) (by omega)] at y0
   rw [show marks k0 (k * 2 + 1) = .int .i64 (k0 + ((k * 2 : Nat) : Int) + 1) from congrArg (Value.int .i64) (by omega)] at y1
   clear hC
   go_wp2
   exact ⟨⟨k + 1, by omega, by go_num, congrArg (Value.int .i64) (by omega)⟩, by simp [intOf]; omega⟩
  ·obtain rfl : k = n := by omega
   go_wp2
   go_ret
   exact ⟨rfl, rfl⟩

end Go.Proofs.YtbdggfpfpjijoabGreatDoor

set_option linter.unusedSimpArgs false
namespace Go.Proofs.YtbdggfpfpjijoabGreatDoor
open Go.RowKit

def posT (k0 : Int) (l : Nat → Nat) : Nat → Int
 | 0 => k0
 | i + 1 => posT k0 l i + 4 + ((l i * 2 : Nat) : Int)
theorem posT_le {k0 : Int} {l : Nat → Nat} : ∀ {n : Nat}, (∀ i, i < n → l i ≤ 1000) → k0 ≤ posT k0 l n ∧ posT k0 l n ≤ k0 + (n * 2004 : Nat)
 | 0, _ => by simp [posT]
 | n + 1, h => by
  have ih := posT_le (k0 := k0) (l := l) (n := n) (fun i hi => h i (by omega))
  have := h n (by omega)
  simp only [posT]
  omega
structure TrHeld (w : World) (a : Option Addr) (n : Nat) (k0 : Int) (E : Nat → Option Addr) (l C : Nat → Nat) (f : Nat → Value) : Prop where
 row : OwnL w a (n * 5) f
 own : ∀ i, i < n → f (i * 5) = .int .i64 (posT k0 l i) ∧ f (i * 5 + 1) = .int .i64 (posT k0 l i + 1) ∧ f (i * 5 + 2) = .int .i64 (posT k0 l i + 1 + 1) ∧ f (i * 5 + 3) = .int .i64 (posT k0 l i + 1 + 1 + 1)
 sl : ∀ i, i < n → f (i * 5 + 4) = .slice (E i) (l i) (C i)
 steps : ∀ i, i < n → OwnL w (E i) (l i * 2) (marks (posT k0 l i + 1 + 1 + 1 + 1))
theorem only_own {S : Nat → Prop} {w w' : World} {b o : Nat} {v : Value} (ho : Only S w w') (hc : w.cell? ⟨b, o, none⟩ = some v) (hz : w.frozen? ⟨b, o, none⟩ = false) : ∃ v', w'.cell? ⟨b, o, none⟩ = some v' ∧ w'.frozen? ⟨b, o, none⟩ = false := by
 cases hb : w.heap[b]? with
 | none => simp [World.cell?, hb] at hc
 | some ob =>
  cases ob with
  | cells c T fr =>
   obtain ⟨c', h1, h2⟩ := ho.shape b c T fr hb
   have hlt : o < c.size := by
    simp [World.cell?, hb] at hc
    exact (Array.getElem?_eq_some_iff.1 hc).1
   refine ⟨c'[o]'(by omega), by simp [World.cell?, h1], ?_⟩
   simp [World.frozen?, hb] at hz
   simp [World.frozen?, h1]
   exact hz
  | _ => simp [World.cell?, hb] at hc
theorem OwnL.anyOnly {S : Nat → Prop} {w w' : World} {a : Option Addr} {m : Nat} (h : ∃ g, OwnL w a m g) (ho : Only S w w') : ∃ g, OwnL w' a m g := by
 obtain ⟨g, hg⟩ := h
 by_cases hm : 0 < m
 ·obtain ⟨b, off, ha, hl, hc⟩ := hg hm
  haveI : Inhabited Value := ⟨undef⟩
  have hcell : ∀ j, j < m → ∃ v, w'.cell? ⟨b, off + j, none⟩ = some v ∧ w'.frozen? ⟨b, off + j, none⟩ = false := fun j hj => only_own ho (hc j hj).1 (hc j hj).2
  obtain ⟨F, hF⟩ := Deep.choose_lt (n := m) (p := fun j (v : Value) => w'.cell? ⟨b, off + j, none⟩ = some v ∧ w'.frozen? ⟨b, off + j, none⟩ = false) hcell
  exact ⟨F, fun _ => ⟨b, off, ha, Nat.lt_of_lt_of_le hl ho.size, hF⟩⟩
 ·exact ⟨g, fun h => absurd h hm⟩

set_option maxRecDepth 100000 in
set_option maxHeartbeats 4000000 in
theorem markTrainsA_any (a : Option Addr) (n cap : Nat) (k0 : Int) (f : Nat → Value) (E : Nat → Option Addr) (l C : Nat → Nat) (w : World) (hn : n ≤ 1000) (h0 : 0 ≤ k0) (h1 : k0 ≤ 1000000000000) (hf : OwnL w a (n * 5) f) (hsl : ∀ i, i < n → f (i * 5 + 4) = .slice (E i) (l i) (C i)) (hl : ∀ i, i < n → l i ≤ 1000) (hE : ∀ i, i < n → ∃ g, OwnL w (E i) (l i * 2) g)
  (hdis : ∀ i j, i < n → j < n → i ≠ j → ∀ k, blk (E i) k → ¬ blk (E j) k) (hap : ∀ i, i < n → ∀ k, blk (E i) k → ¬ blk a k) :
  Calls Tryz.prog 28 #[.slice a n cap, .int .i64 k0] w fun e w' => e = .returned (.int .i64 (posT k0 l n)) ∧ (∃ f', TrHeld w' a n k0 E l C f') ∧ Only (fun k => blk a k ∨ ∃ i, i < n ∧ blk (E i) k) w w' := by
 have HD := hide hdis
 have HAP := hide hap
 have HL := hide hl
 clear hdis hap hl
 go_enter Tryz.func28, Tryz.ntmps28
 go_wp2
 go_loopw [1, 5] (fun y x wr => ∃ (k : Nat) (f' : Nat → Value), k ≤ n ∧ x = .int .i64 k ∧ y = .int .i64 (posT k0 l k) ∧ Hid (OwnL wr a (n * 5) f') ∧ Hid (∀ i, i < n → f' (i * 5 + 4) = .slice (E i) (l i) (C i)) ∧ Hid (∀ i, i < k → f' (i * 5) = .int .i64 (posT k0 l i) ∧ f' (i * 5 + 1) = .int .i64 (posT k0 l i + 1) ∧ f' (i * 5 + 2) = .int .i64 (posT k0 l i + 1 + 1) ∧ f' (i * 5 + 3) = .int .i64 (posT k0 l i + 1 + 1 + 1)) ∧ Hid (∀ i, i < k → OwnL wr (E i) (l i * 2) (marks (posT k0 l i + 1 + 1 + 1 + 1))) ∧ Hid (∀ i, i < n → ∃ g, OwnL wr (E i) (l i * 2) g) ∧ Hid (Only (fun k => blk a k ∨ ∃ i, i < n ∧ blk (E i) k) w wr)) (fun _ x _ => n - (intOf x).toNat)
 case atStart => exact ⟨0, f, Nat.zero_le _, rfl, rfl, hide hf, hide hsl, hide fun i hi => by omega, hide fun i hi => by omega, hide hE, hide (only_refl _ _)⟩
 case round =>
  obtain ⟨k, f', hk, rfl, rfl, HF, HSL, HOWN, HST, HE, HON⟩ := hrel
  have hpos := posT_le (k0 := k0) (l := l) (n := k) (fun i hi => unhide HL i (by omega))
  by_cases hlt : k < n
  ·obtain ⟨b, off, rfl, hC⟩ := unhide HF (by omega)
   have hlk := unhide HL k hlt
   have hpk : posT k0 l (k + 1) = posT k0 l k + 4 + ((l k * 2 : Nat) : Int) := rfl
   have HPK := hide hpk
   obtain ⟨P, hP⟩ : ∃ P, posT k0 l k = P := ⟨_, rfl⟩
   rw [hP] at hpos ⊢
   have HP := hide hP
   clear hpk hP
   have y0 := (hC.2 (k * 5) (by omega)).1
   have z0 := (hC.2 (k * 5) (by omega)).2
   have y1 := (hC.2 (k * 5 + 1) (by omega)).1
   have z1 := (hC.2 (k * 5 + 1) (by omega)).2
   have y2 := (hC.2 (k * 5 + 2) (by omega)).1
   have z2 := (hC.2 (k * 5 + 2) (by omega)).2
   have y3 := (hC.2 (k * 5 + 3) (by omega)).1
   have z3 := (hC.2 (k * 5 + 3) (by omega)).2
   have y4 := (hC.2 (k * 5 + 4) (by omega)).1
   rw [unhide HSL k hlt] at y4
   simp only [← Nat.add_assoc] at y0 z0 y1 z1 y2 z2 y3 z3 y4
   have HC := hide hC
   have hbl := hC.1
   clear hC
   go_wp2_with fail
   have hset := ((((unhide HC).set (i := k * 5) (by omega) (.int .i64 P)).set (i := k * 5 + 1) (by omega) (.int .i64 (P + 1))).set (i := k * 5 + 2) (by omega) (.int .i64 (P + 1 + 1))).set (i := k * 5 + 3) (by omega) (.int .i64 (P + 1 + 1 + 1))
   simp only [← Nat.add_assoc] at hset
   have hoA : Only (blk (some ⟨b, off, none⟩)) wr _ := (((only_setCell (p := ⟨b, off + k * 5, none⟩) _ ⟨b, off, rfl, rfl⟩ (.int .i64 P)).trans (only_setCell (p := ⟨b, off + k * 5 + 1, none⟩) _ ⟨b, off, rfl, rfl⟩ (.int .i64 (P + 1)))).trans (only_setCell (p := ⟨b, off + k * 5 + 2, none⟩) _ ⟨b, off, rfl, rfl⟩ (.int .i64 (P + 1 + 1)))).trans (only_setCell (p := ⟨b, off + k * 5 + 3, none⟩) _ ⟨b, off, rfl, rfl⟩ (.int .i64 (P + 1 + 1 + 1)))
   generalize (((wr.setCell ⟨b, off + k * 5, none⟩ (.int .i64 P)).setCell ⟨b, off + k * 5 + 1, none⟩ (.int .i64 (P + 1))).setCell ⟨b, off + k * 5 + 2, none⟩ (.int .i64 (P + 1 + 1))).setCell ⟨b, off + k * 5 + 3, none⟩ (.int .i64 (P + 1 + 1 + 1)) = w1 at hset hoA ⊢
   have HEk := unhide HE k hlt
   obtain ⟨g, hg⟩ := HEk
   have hg1 := hg.only hoA (fun j hj => unhide HAP k hlt j hj)
   refine (markStepS_any _ (l k) _ _ g _ (by omega) (by omega) (by omega) hg1).mono ?_
   rintro e w2 ⟨rfl, hm2, ho2⟩
   have hset2 : OwnL w2 (some ⟨b, off, none⟩) (n * 5) _ := OwnL.only (fun _ => ⟨b, off, rfl, hset⟩) ho2 (fun j hj hj2 => unhide HAP k hlt j hj2 hj)
   have HSET := hide hset2
   have HST2 : Hid (∀ i, i < k + 1 → OwnL w2 (E i) (l i * 2) (marks (posT k0 l i + 1 + 1 + 1 + 1))) := fun i hi => by
    by_cases e : i = k
    ·subst e
     rw [unhide HP]
     exact hm2
    ·exact ((unhide HST i (by omega)).only hoA (fun j hj => unhide HAP i (by omega) j hj)).only ho2 (fun j hj hj2 => unhide HD i k (by omega) hlt e j hj hj2)
   have HE2 : Hid (∀ i, i < n → ∃ g, OwnL w2 (E i) (l i * 2) g) := fun i hi => OwnL.anyOnly (OwnL.anyOnly (unhide HE i hi) hoA) ho2
   have HON2 := hide (((unhide HON).trans (hoA.mono (fun j _ h => Or.inl h))).trans (ho2.mono (fun j _ h => Or.inr ⟨k, hlt, h⟩)))
   clear hset hset2 hm2 ho2 hoA hg hg1
   go_wp2
   refine ⟨⟨k + 1, _, by omega, by go_num, congrArg (Value.int .i64) (by rw [unhide HPK, unhide HP]; omega), HSET, hide fun i hi => ?_, hide fun i hi => ?_, HST2, HE2, HON2⟩, by simp [intOf]; omega⟩
   ·(try dsimp only)
    rw [if_neg (by omega), if_neg (by omega), if_neg (by omega), if_neg (by omega)]
    exact unhide HSL i hi
   ·by_cases e : i = k
    ·subst e
     rw [unhide HP]
     refine ⟨?_, ?_, ?_, ?_⟩
     ·(try dsimp only); rw [if_neg (by omega), if_neg (by omega), if_neg (by omega), if_pos rfl]
     ·(try dsimp only); rw [if_neg (by omega), if_neg (by omega), if_pos rfl]
     ·(try dsimp only); rw [if_neg (by omega), if_pos rfl]
     ·(try dsimp only); rw [if_pos rfl]
    ·obtain ⟨h1, h2, h3, h4⟩ := unhide HOWN i (by omega)
     refine ⟨?_, ?_, ?_, ?_⟩
     ·(try dsimp only); rw [if_neg (by omega), if_neg (by omega), if_neg (by omega), if_neg (by omega)]; exact h1
     ·(try dsimp only); rw [if_neg (by omega), if_neg (by omega), if_neg (by omega), if_neg (by omega)]; exact h2
     ·(try dsimp only); rw [if_neg (by omega), if_neg (by omega), if_neg (by omega), if_neg (by omega)]; exact h3
     ·(try dsimp only); rw [if_neg (by omega), if_neg (by omega), if_neg (by omega), if_neg (by omega)]; exact h4
  ·obtain rfl : k = n := by omega
   go_wp2
   go_ret
   exact ⟨rfl, ⟨f', unhide HF, unhide HOWN, unhide HSL, unhide HST⟩, unhide HON⟩

set_option maxRecDepth 100000 in
set_option maxHeartbeats 4000000 in
theorem heldTrainsA_any (a : Option Addr) (n cap : Nat) (k0 : Int) (f : Nat → Value) (E : Nat → Option Addr) (l C : Nat → Nat) (w : World) (hn : n ≤ 1000) (h0 : 0 ≤ k0) (h1 : k0 ≤ 1000000000000) (hl : ∀ i, i < n → l i ≤ 1000) (h : TrHeld w a n k0 E l C f) :
  Calls Tryz.prog 72 #[.slice a n cap, .int .i64 k0] w fun e w' => e = .returned (.int .i64 (posT k0 l n)) ∧ w' = w := by
 have HL := hide hl
 have HH := hide h
 clear hl h
 go_enter Tryz.func72, Tryz.ntmps72
 go_wp2
 go_loopw [1, 5] (fun y x wr => ∃ k : Nat, k ≤ n ∧ x = .int .i64 k ∧ y = .int .i64 (posT k0 l k) ∧ wr = w) (fun _ x _ => n - (intOf x).toNat)
 case atStart => exact ⟨0, Nat.zero_le _, rfl, rfl, rfl⟩
 case round =>
  obtain ⟨k, hk, rfl, rfl, rfl⟩ := hrel
  have hpos := posT_le (k0 := k0) (l := l) (n := k) (fun i hi => unhide HL i (by omega))
  by_cases hlt : k < n
  ·obtain ⟨b, off, ha, hC⟩ := (unhide HH).row (by omega)
   subst ha
   have hlk := unhide HL k hlt
   have hpk : posT k0 l (k + 1) = posT k0 l k + 4 + ((l k * 2 : Nat) : Int) := rfl
   have HPK := hide hpk
   obtain ⟨o0, o1, o2, o3⟩ := (unhide HH).own k hlt
   have hst := (unhide HH).steps k hlt
   obtain ⟨P, hP⟩ : ∃ P, posT k0 l k = P := ⟨_, rfl⟩
   rw [hP] at hpos o0 o1 o2 o3 hst ⊢
   have HP := hide hP
   clear hpk hP
   have y0 := (hC.2 (k * 5) (by omega)).1
   have y1 := (hC.2 (k * 5 + 1) (by omega)).1
   have y2 := (hC.2 (k * 5 + 2) (by omega)).1
   have y3 := (hC.2 (k * 5 + 3) (by omega)).1
   have y4 := (hC.2 (k * 5 + 4) (by omega)).1
   rw [(unhide HH).sl k hlt] at y4
   rw [o0] at y0
   rw [o1] at y1
   rw [o2] at y2
   rw [o3] at y3
   simp only [← Nat.add_assoc] at y0 y1 y2 y3 y4
   have hbl := hC.1
   have hn1 : ¬ P + 1 + 1 + 1 + 1 + ((l k * 2 : Nat) : Int) < 0 := by omega
   have HSTk := hide hst
   clear hC o0 o1 o2 o3 hst
   go_wp2_with fail
   refine (heldStepS_any _ (l k) _ _ _ (by omega) (by omega) (by omega) (unhide HSTk)).mono ?_
   rintro e w2 ⟨rfl, rfl⟩
   go_wp2
   refine ⟨⟨k + 1, by omega, by go_num, congrArg (Value.int .i64) (by rw [unhide HPK, unhide HP]; omega), by first | rfl | trivial⟩, by simp [intOf]; omega⟩
  ·obtain rfl : k = n := by omega
   go_wp2
   go_ret
   exact ⟨rfl, rfl⟩

end Go.Proofs.YtbdggfpfpjijoabGreatDoor

set_option linter.unusedSimpArgs false
namespace Go.Proofs.YtbdggfpfpjijoabGreatDoor
open Go.RowKit

def TB (a : Option Addr) (n : Nat) (E : Nat → Option Addr) (k : Nat) : Prop := blk a k ∨ ∃ i, i < n ∧ blk (E i) k
def AB (a c f s : Option Addr) (n : Nat) (E : Nat → Option Addr) (k : Nat) : Prop := TB a n E k ∨ blk c k ∨ blk f k ∨ blk s k
structure TkOwn (w : World) (base : Nat) (a c f s : Option Addr) (n n2 n3 n4 : Nat) (E : Nat → Option Addr) (l C : Nat → Nat) : Prop where
 row : ∃ F, OwnL w a (n * 5) F ∧ ∀ i, i < n → F (i * 5 + 4) = .slice (E i) (l i) (C i)
 steps : ∀ i, i < n → ∃ g, OwnL w (E i) (l i * 2) g
 codes : ∃ g, OwnL w c n2 g
 fars : ∃ g, OwnL w f n3 g
 strs : ∃ g, OwnL w s (n4 * 2) g
 few : n ≤ 1000 ∧ n2 ≤ 1000 ∧ n3 ≤ 1000 ∧ n4 ≤ 1000
 fewl : ∀ i, i < n → l i ≤ 1000
 dE : ∀ i j, i < n → j < n → i ≠ j → ∀ k, blk (E i) k → ¬ blk (E j) k
 da : ∀ i, i < n → ∀ k, blk (E i) k → ¬ blk a k
 dc : ∀ k, TB a n E k → ¬ blk c k
 df : ∀ k, TB a n E k → ¬ blk f k
 ds : ∀ k, TB a n E k → ¬ blk s k
 dcf : ∀ k, blk c k → ¬ blk f k
 dcs : ∀ k, blk c k → ¬ blk s k
 dfs : ∀ k, blk f k → ¬ blk s k
 lo : ∀ k, AB a c f s n E k → base ≤ k ∧ k < w.heap.size
structure TkHeld (w : World) (a c f s : Option Addr) (n n2 n3 n4 : Nat) (E : Nat → Option Addr) (l C : Nat → Nat) (k0 : Int) : Prop where
 trs : ∃ F, TrHeld w a n k0 E l C F
 cd : OwnL w c n2 (marks (posT k0 l n))
 fr : OwnL w f n3 (marks (posT k0 l n + n2))
 sk : OwnL w s (n4 * 2) (marks (posT k0 l n + n2 + n3))
theorem TrHeld.below {w w' : World} {a : Option Addr} {n : Nat} {k0 : Int} {E : Nat → Option Addr} {l C : Nat → Nat} {F : Nat → Value} (h : TrHeld w a n k0 E l C F) (hb : Below w.heap.size w w') : TrHeld w' a n k0 E l C F := ⟨h.row.below hb, h.own, h.sl, fun i hi => (h.steps i hi).below hb⟩
theorem TrHeld.only {S : Nat → Prop} {w w' : World} {a : Option Addr} {n : Nat} {k0 : Int} {E : Nat → Option Addr} {l C : Nat → Nat} {F : Nat → Value} (h : TrHeld w a n k0 E l C F) (ho : Only S w w') (hS : ∀ k, TB a n E k → ¬ S k) : TrHeld w' a n k0 E l C F := ⟨h.row.only ho (fun k hk => hS k (Or.inl hk)), h.own, h.sl, fun i hi => (h.steps i hi).only ho (fun k hk => hS k (Or.inr ⟨i, hi, hk⟩))⟩
theorem TkHeld.below {w w' : World} {a c f s : Option Addr} {n n2 n3 n4 : Nat} {E : Nat → Option Addr} {l C : Nat → Nat} {k0 : Int} (h : TkHeld w a c f s n n2 n3 n4 E l C k0) (hb : Below w.heap.size w w') : TkHeld w' a c f s n n2 n3 n4 E l C k0 := by
 obtain ⟨⟨F, h1⟩, h2, h3, h4⟩ := h
 exact ⟨⟨F, h1.below hb⟩, h2.below hb, h3.below hb, h4.below hb⟩
theorem OwnL.anyBelow {w w' : World} {a : Option Addr} {m : Nat} (h : ∃ g, OwnL w a m g) (hb : Below w.heap.size w w') : ∃ g, OwnL w' a m g := by
 obtain ⟨g, h⟩ := h
 exact ⟨g, h.below hb⟩
theorem TkOwn.below {w w' : World} {base : Nat} {a c f s : Option Addr} {n n2 n3 n4 : Nat} {E : Nat → Option Addr} {l C : Nat → Nat} (h : TkOwn w base a c f s n n2 n3 n4 E l C) (hb : Below w.heap.size w w') : TkOwn w' base a c f s n n2 n3 n4 E l C := by
 obtain ⟨F, h1, h2⟩ := h.row
 exact ⟨⟨F, h1.below hb, h2⟩, fun i hi => OwnL.anyBelow (h.steps i hi) hb, OwnL.anyBelow h.codes hb, OwnL.anyBelow h.fars hb, OwnL.anyBelow h.strs hb, h.few, h.fewl, h.dE, h.da, h.dc, h.df, h.ds, h.dcf, h.dcs, h.dfs, fun k hk => ⟨(h.lo k hk).1, Nat.lt_of_lt_of_le (h.lo k hk).2 hb.size⟩⟩
theorem TkOwn.only {S : Nat → Prop} {w w' : World} {base : Nat} {a c f s : Option Addr} {n n2 n3 n4 : Nat} {E : Nat → Option Addr} {l C : Nat → Nat} (h : TkOwn w base a c f s n n2 n3 n4 E l C) (ho : Only S w w') (hS : ∀ k, AB a c f s n E k → ¬ S k) : TkOwn w' base a c f s n n2 n3 n4 E l C := by
 obtain ⟨F, h1, h2⟩ := h.row
 exact ⟨⟨F, h1.only ho (fun k hk => hS k (Or.inl (Or.inl hk))), h2⟩, fun i hi => OwnL.anyOnly (h.steps i hi) ho, OwnL.anyOnly h.codes ho, OwnL.anyOnly h.fars ho, OwnL.anyOnly h.strs ho, h.few, h.fewl, h.dE, h.da, h.dc, h.df, h.ds, h.dcf, h.dcs, h.dfs, fun k hk => ⟨(h.lo k hk).1, Nat.lt_of_lt_of_le (h.lo k hk).2 ho.size⟩⟩

set_option maxRecDepth 100000 in
set_option maxHeartbeats 4000000 in
theorem markTicked_any (ok : Bool) (a c f s : Option Addr) (n n2 n3 n4 m1 m2 m3 m4 : Nat) (E : Nat → Option Addr) (l C : Nat → Nat) (k0 : Int) (w : World) {base : Nat} (h0 : 0 ≤ k0) (h1 : k0 ≤ 1000000000000) (h : TkOwn w base a c f s n n2 n3 n4 E l C) :
  Calls Tryz.prog 29 #[.agg #[.bool ok, .slice a n m1, .slice c n2 m2, .slice f n3 m3, .slice s n4 m4], .int .i64 k0] w fun e w' => e = .returned (.int .i64 (posT k0 l n + n2 + n3 + (n4 : Int) * 2)) ∧ TkHeld w' a c f s n n2 n3 n4 E l C k0 ∧ Only (AB a c f s n E) w w' := by
 have HO := hide h
 obtain ⟨f1, f2, f3, f4⟩ := h.few
 have hpos := posT_le (k0 := k0) (l := l) (n := n) h.fewl
 clear h
 go_enter Tryz.func29, Tryz.ntmps29
 go_wp2_with fail
 have hb0 : Below w.heap.size w (w.alloc (.cells #[.bool ok, .slice a n m1, .slice c n2 m2, .slice f n3 m3, .slice s n4 m4] 63)) := bw0
 have hO := (unhide HO).below hb0
 obtain ⟨F, hF1, hF2⟩ := hO.row
 refine (markTrainsA_any a n m1 k0 F E l C _ f1 h0 h1 hF1 hF2 hO.fewl hO.steps hO.dE hO.da).mono ?_
 rintro e w1 ⟨rfl, ⟨F1, hh1⟩, ho1⟩
 have hX1 : Boxed w1 w.heap.size [.bool ok, .slice a n m1, .slice c n2 m2, .slice f n3 m3, .slice s n4 m4] := (boxed_alloc _ _ _).onlyS ho1 (fun h => by have := ((unhide HO).lo _ (Or.inl h)).2; omega)
 have x2 := hX1.2.1 2 _ rfl
 have xl := hX1.1
 obtain ⟨gc, hgc⟩ := hO.codes
 obtain ⟨gf, hgf⟩ := hO.fars
 obtain ⟨gs, hgs⟩ := hO.strs
 have hgc1 := hgc.only ho1 (fun k hk hk' => hO.dc k hk' hk)
 have hgf1 := hgf.only ho1 (fun k hk hk' => hO.df k hk' hk)
 have hgs1 := hgs.only ho1 (fun k hk hk' => hO.ds k hk' hk)
 obtain ⟨P, hP⟩ : ∃ P, posT k0 l n = P := ⟨_, rfl⟩
 rw [hP] at hpos ⊢
 have HP := hide hP
 have HH1 := hide hh1
 have HO1 := hide ho1
 have HB0 := hide hb0
 clear hP hh1 ho1 hgc hgf hgs hF1 hF2 hO hb0
 go_wp2_with fail
 refine (markIntS_any c n2 m2 P gc _ (by omega) (by omega) (by omega) hgc1).mono ?_
 rintro e w2 ⟨rfl, hm2, ho2⟩
 have hX2 := hX1.onlyS ho2 (fun h => by have := ((unhide HO).lo _ (Or.inr (Or.inl h))).2; omega)
 have x3 := hX2.2.1 3 _ rfl
 have xl2 := hX2.1
 have hgf2 := hgf1.only ho2 (fun k hk hk' => (unhide HO).dcf k hk' hk)
 have hgs2 := hgs1.only ho2 (fun k hk hk' => (unhide HO).dcs k hk' hk)
 have HM2 := hide hm2
 have HO2 := hide ho2
 clear hm2 ho2 x2 xl hgf1 hgs1 hgc1
 go_wp2_with fail
 refine (markIntS_any f n3 m3 (P + n2) gf _ (by omega) (by omega) (by omega) hgf2).mono ?_
 rintro e w3 ⟨rfl, hm3, ho3⟩
 have hX3 := hX2.onlyS ho3 (fun h => by have := ((unhide HO).lo _ (Or.inr (Or.inr (Or.inl h)))).2; omega)
 have x4 := hX3.2.1 4 _ rfl
 have xl3 := hX3.1
 have hgs3 := hgs2.only ho3 (fun k hk hk' => (unhide HO).dfs k hk' hk)
 have HM3 := hide hm3
 have HO3 := hide ho3
 clear hm3 ho3 x3 xl2 hgf2 hgs2
 go_wp2_with fail
 refine (markStrikeS_any s n4 m4 (P + n2 + n3) gs _ (by omega) (by omega) (by omega) hgs3).mono ?_
 rintro e w4 ⟨rfl, hm4, ho4⟩
 have HM4 := hide hm4
 have HO4 := hide ho4
 clear hm4 ho4 x4 xl3 hgs3
 go_wp2
 go_ret
 refine ⟨by rw [unhide HP]; first | rfl | (simp; done), ⟨⟨F1, (((unhide HH1).only (unhide HO2) (fun k hk hk' => (unhide HO).dc k hk hk')).only (unhide HO3) (fun k hk hk' => (unhide HO).df k hk hk')).only (unhide HO4) (fun k hk hk' => (unhide HO).ds k hk hk')⟩, ?_, ?_, ?_⟩, ((((only_of_below (unhide HB0)).trans ((unhide HO1).mono (fun k _ h => Or.inl h))).trans ((unhide HO2).mono (fun k _ h => Or.inr (Or.inl h)))).trans ((unhide HO3).mono (fun k _ h => Or.inr (Or.inr (Or.inl h))))).trans ((unhide HO4).mono (fun k _ h => Or.inr (Or.inr (Or.inr h))))⟩
 ·rw [unhide HP]
  exact ((unhide HM2).only (unhide HO3) (fun k hk hk' => (unhide HO).dcf k hk hk')).only (unhide HO4) (fun k hk hk' => (unhide HO).dcs k hk hk')
 ·rw [unhide HP]
  exact (unhide HM3).only (unhide HO4) (fun k hk hk' => (unhide HO).dfs k hk hk')
 ·rw [unhide HP]
  exact unhide HM4

set_option maxRecDepth 100000 in
set_option maxHeartbeats 4000000 in
theorem heldTicked_any (ok : Bool) (a c f s : Option Addr) (n n2 n3 n4 m1 m2 m3 m4 : Nat) (E : Nat → Option Addr) (l C : Nat → Nat) (k0 : Int) (w : World) (h0 : 0 ≤ k0) (h1 : k0 ≤ 1000000000000) (hn : n ≤ 1000 ∧ n2 ≤ 1000 ∧ n3 ≤ 1000 ∧ n4 ≤ 1000) (hl : ∀ i, i < n → l i ≤ 1000) (h : TkHeld w a c f s n n2 n3 n4 E l C k0) :
  Calls Tryz.prog 30 #[.agg #[.bool ok, .slice a n m1, .slice c n2 m2, .slice f n3 m3, .slice s n4 m4], .int .i64 k0] w fun e w' => e = .returned (.int .i64 (posT k0 l n + n2 + n3 + (n4 : Int) * 2)) ∧ Below w.heap.size w w' := by
 have HH := hide h
 obtain ⟨f1, f2, f3, f4⟩ := hn
 have hpos := posT_le (k0 := k0) (l := l) (n := n) hl
 clear h
 go_enter Tryz.func30, Tryz.ntmps30
 go_wp2_with fail
 have hb0 : Below w.heap.size w (w.alloc (.cells #[.bool ok, .slice a n m1, .slice c n2 m2, .slice f n3 m3, .slice s n4 m4] 63)) := bw0
 have hX : Boxed (w.alloc (.cells #[.bool ok, .slice a n m1, .slice c n2 m2, .slice f n3 m3, .slice s n4 m4] 63)) w.heap.size [.bool ok, .slice a n m1, .slice c n2 m2, .slice f n3 m3, .slice s n4 m4] := boxed_alloc _ _ _
 have hO := (unhide HH).below hb0
 generalize w.alloc (.cells #[.bool ok, .slice a n m1, .slice c n2 m2, .slice f n3 m3, .slice s n4 m4] 63) = w0 at *
 obtain ⟨F, hF⟩ := hO.trs
 have c1 := hO.cd
 have c2 := hO.fr
 have c3 := hO.sk
 refine (heldTrainsA_any a n m1 k0 F E l C _ f1 h0 h1 hl hF).mono ?_
 rintro e w1 ⟨rfl, rfl⟩
 obtain ⟨w0, rfl⟩ : ∃ w0, w0 = w1 := ⟨_, rfl⟩
 obtain ⟨P, hP⟩ : ∃ P, posT k0 l n = P := ⟨_, rfl⟩
 rw [hP] at hpos c1 c2 c3 ⊢
 have x2 := hX.2.1 2 _ rfl
 have x3 := hX.2.1 3 _ rfl
 have x4 := hX.2.1 4 _ rfl
 have xl := hX.1
 have n1' : ¬ P < 0 := by omega
 have n2' : ¬ P + (n2 : Int) < 0 := by omega
 have n3' : ¬ P + (n2 : Int) + (n3 : Int) < 0 := by omega
 have n4' : ¬ P + (n2 : Int) + (n3 : Int) + ((n4 * 2 : Nat) : Int) < 0 := by omega
 have HP := hide hP
 clear hP hO hF HH
 go_wp2_with fail
 refine (heldIntS_any c n2 m2 P _ (by omega) (by omega) (by omega) c1).mono ?_
 rintro e w2 ⟨rfl, rfl⟩
 go_wp2_with fail
 refine (heldIntS_any f n3 m3 (P + n2) _ (by omega) (by omega) (by omega) c2).mono ?_
 rintro e w3 ⟨rfl, rfl⟩
 go_wp2_with fail
 refine (heldStrikeS_any s n4 m4 (P + n2 + n3) _ (by omega) (by omega) (by omega) c3).mono ?_
 rintro e w4 ⟨rfl, rfl⟩
 go_wp2
 go_ret
 exact ⟨by first | rfl | (rw [unhide HP]; rfl) | (rw [← unhide HP]; rfl), hb0⟩

set_option maxRecDepth 100000 in
set_option maxHeartbeats 4000000 in
theorem eqTicked_any (ok : Bool) (ts : List Tr) (cs fs : List Int) (ss : List (Int × Int)) (a a' c c' f f' s s' : Option Addr) (m1 m1' m2 m2' m3 m3' m4 m4' : Nat) (w : World) {L1 L2 L3 L4 L5 L6 L7 L8 : Nat} (ht : ts.length ≤ 1048576) (htb : ∀ i (h : i < ts.length), ts[i].back.length ≤ 1048576) (hc : cs.length ≤ 1048576) (hf : fs.length ≤ 1048576) (hs : ss.length ≤ 1048576)
  (h1 : TrsIn L1 w a ts) (h2 : TrsIn L2 w a' ts) (h3 : IntsAt L3 w c cs) (h4 : IntsAt L4 w c' cs) (h5 : IntsAt L5 w f fs) (h6 : IntsAt L6 w f' fs) (h7 : SksAt L7 w s ss) (h8 : SksAt L8 w s' ss) :
  Calls Tryz.prog 26 #[.agg #[.bool ok, .slice a ts.length m1, .slice c cs.length m2, .slice f fs.length m3, .slice s ss.length m4], .agg #[.bool ok, .slice a' ts.length m1', .slice c' cs.length m2', .slice f' fs.length m3', .slice s' ss.length m4']] w fun e w' => e = .returned (.bool true) ∧ Below w.heap.size w w' := by
 cases ok
 all_goals
  go_enter Tryz.func26, Tryz.ntmps26
  go_wp2_with fail
  refine (eqTrainS_any a a' ts m1 m1' _ ht htb (h1.below ?_) (h2.below ?_)).mono ?_
 all_goals first | exact bw0 | skip
 all_goals
  rintro e w1 ⟨rfl, hb1⟩
  have hbw1 : Below w.heap.size w w1 := below_then bw0 hb1
  have hX0 : Boxed w1 w.heap.size [.bool _, .slice a ts.length m1, .slice c cs.length m2, .slice f fs.length m3, .slice s ss.length m4] := ((boxed_alloc _ _ _).alloc _).below hb1
  have hX1 : Boxed w1 (w.heap.size + 1) [.bool _, .slice a' ts.length m1', .slice c' cs.length m2', .slice f' fs.length m3', .slice s' ss.length m4'] := (boxedN _ _ _ (by simp)).below hb1
  have x2 := hX0.2.1 2 _ rfl
  have y2 := hX1.2.1 2 _ rfl
  have xl := hX0.1
  have yl := hX1.1
  go_wp2_with fail
  refine (eqIntS_any c c' cs m2 m2' _ hc (h3.below hbw1) (h4.below hbw1)).mono ?_
  rintro e w2 ⟨rfl, hb2⟩
  have hbw2 := below_then hbw1 hb2
  have hX2 := hX0.below hb2
  have hX3 := hX1.below hb2
  have x3 := hX2.2.1 3 _ rfl
  have y3 := hX3.2.1 3 _ rfl
  have xl2 := hX2.1
  have yl2 := hX3.1
  clear x2 y2 xl yl
  go_wp2_with fail
  refine (eqIntS_any f f' fs m3 m3' _ hf (h5.below hbw2) (h6.below hbw2)).mono ?_
  rintro e w3 ⟨rfl, hb3⟩
  have hbw3 := below_then hbw2 hb3
  have hX4 := hX2.below hb3
  have hX5 := hX3.below hb3
  have x4 := hX4.2.1 4 _ rfl
  have y4 := hX5.2.1 4 _ rfl
  have xl3 := hX4.1
  have yl3 := hX5.1
  clear x3 y3 xl2 yl2
  go_wp2_with fail
  refine (eqStrikeS_any s s' ss m4 m4' _ hs (h7.below hbw3) (h8.below hbw3)).mono ?_
  rintro e w4 ⟨rfl, hb4⟩
  go_wp2
  go_ret
  exact ⟨rfl, below_then hbw3 hb4⟩

end Go.Proofs.YtbdggfpfpjijoabGreatDoor

