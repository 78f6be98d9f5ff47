import Derived.Test.YtbdggfpfpjijoabGreatKw9
import Derived.Test.YtbdggfpfpjijoabGreatG13
import Derived.Test.YtbdggfpfpjijoabGreatSpec14
namespace Go.Proofs.YtbdggfpfpjijoabGreat
open Go.RowKit

theorem touch_hits (cs ps : List Pt) : TouchL cs ps ↔ hits ps cs = true := by
  unfold hits TouchL
  simp only [List.any_eq_true, decide_eq_true_eq]
  constructor
  · rintro ⟨i, j, h, h', ht⟩
    exact ⟨ps[j], List.getElem_mem h', cs[i], List.getElem_mem h, ht⟩
  · rintro ⟨y, hy, x, hx, ht⟩
    obtain ⟨j, h', rfl⟩ := List.getElem_of_mem hy
    obtain ⟨i, h, rfl⟩ := List.getElem_of_mem hx
    exact ⟨i, j, h, h', ht⟩

set_option maxRecDepth 100000 in
set_option maxHeartbeats 4000000 in
theorem l4good_any (v : Value) (n : Nt) (tq : Option Addr) (ts : List Tr) (tk : Nat) (w : World) {L L' : Nat} (hv : NetAt L w v n) (hts : TrsAt L' w tq ts) (htl : ts.length ≤ 1048576) (hbl : ∀ t ∈ ts, t.back.length ≤ 1048576) (hl : n.pieces.length ≤ 1048576) (hl' : n.joints.length ≤ 1048576)
    (hle : ∀ i (h : i < n.joints.length), n.joints[i].ends.length ≤ 1048576 ∧ n.joints[i].name.size ≤ maxLen) (hnm : ∀ i (h : i < n.pieces.length), n.pieces[i].name.size ≤ maxLen) :
    Calls Tryz.prog 76 #[v, .slice tq ts.length tk] w fun e w' => RetB (WorldOk n ts) e ∧ Below w.heap.size w w' := by
  have hvv := hv
  obtain ⟨x, c, ca, cc, rfl, hp, hj⟩ := hv
  go_enter Tryz.func76, Tryz.ntmps76
  go_wp2_with fail
  refine (l1ok_any _ n _ (hvv.below ?_) hl hl' hle hnm).mono ?_
  · exact (by repeat (first | with_reducible exact Below.refl _ _ | refine Below.setCell ?_ (by first | omega | (simp <;> omega) | (simp [World.setCell] <;> omega)) _ | refine Below.alloc ?_ (by first | omega | (simp <;> omega) | (simp [World.setCell] <;> omega)) _ | refine Below.drew ?_ | refine below_draws ?_ _ | exact Below.refl _ _))
  rintro e w1 ⟨hR, hb1⟩
  have hbw1 : Below w.heap.size w w1 := below_then (by repeat (first | with_reducible exact Below.refl _ _ | refine Below.setCell ?_ (by first | omega | (simp <;> omega) | (simp [World.setCell] <;> omega)) _ | refine Below.alloc ?_ (by first | omega | (simp <;> omega) | (simp [World.setCell] <;> omega)) _ | refine Below.drew ?_ | refine below_draws ?_ _ | exact Below.refl _ _)) hb1
  have hN1 : Boxed w1 w.heap.size [.slice x n.pieces.length ca, .slice c n.joints.length cc] := (boxed_alloc _ _ _).below hb1
  rcases hR with ⟨rfl, hR⟩ | ⟨rfl, hR⟩
  rotate_left
  · have HR := hide hR
    clear hR
    go_wp2
    go_ret
    exact ⟨retB_false fun h => unhide HR h.1, hbw1⟩
  have hG := netGood hR
  have HR := hide hR
  clear hR
  by_cases h20 : ts.length ≤ 20
  rotate_left
  · have h20b : (20 : Int) < (ts.length : Int) := by omega
    go_wp2
    go_ret
    exact ⟨retB_false fun h => h20 h.2.1, hbw1⟩
  have h20b : ¬ (20 : Int) < (ts.length : Int) := by omega
  go_wp2_with fail
  go_loopw [17] (fun z wr => ∃ k : Nat, k ≤ ts.length ∧ z = .int .i64 k ∧ Hid (∀ t ∈ ts.take k, TrainFits n t) ∧ Boxed wr w.heap.size [.slice x n.pieces.length ca, .slice c n.joints.length cc] ∧ Below w.heap.size w wr) (fun z _ => ts.length - (intOf z).toNat)
  case atStart => exact ⟨0, Nat.zero_le _, rfl, hide fun t ht => by simp at ht, hN1, hbw1⟩
  case round =>
    obtain ⟨k, hk, rfl, HOK, hN, hb⟩ := hrel
    have nn := hN.1
    have a0 := hN.2.1 0 _ rfl
    have a1 := hN.2.1 1 _ rfl
    by_cases hlt : k < ts.length
    · obtain ⟨tb, toff, ba, bc, hte, htb, c0, c1, c2, c3, c4, hst, hcap⟩ := hts.below hb k hlt
      have hblk := hbl ts[k] (List.getElem_mem hlt)
      have htk : ts.take (k + 1) = ts.take k ++ [ts[k]] := List.take_succ_eq_append_getElem hlt
      have hmemk : ts[k] ∈ ts := List.getElem_mem hlt
      generalize ts[k] = t at *
      have htb2 := htb.2
      subst hte
      have hA : Below wr.heap.size wr (wr.alloc (.cells #[.int .i64 t.front.piece, .int .i64 t.front.at_, .int .i64 t.front.way, .int .i64 t.long, .slice ba t.back.length bc] 36)) := (by repeat (first | with_reducible exact Below.refl _ _ | refine Below.setCell ?_ (by first | omega | (simp <;> omega) | (simp [World.setCell] <;> omega)) _ | refine Below.alloc ?_ (by first | omega | (simp <;> omega) | (simp [World.setCell] <;> omega)) _ | refine Below.drew ?_ | refine below_draws ?_ _ | exact Below.refl _ _))
      have hbA := below_then hb hA
      go_wp2_with fail
      refine (l2train_any _ _ n t _ (hvv.below hbA) ⟨ba, bc, rfl, hst.below hA⟩ hG hblk).mono ?_
      rintro e w2 ⟨⟨rfl, hf⟩ | ⟨rfl, hf⟩, hb2⟩
      · have HF := hide hf
        clear hf
        go_wp2
        refine ⟨⟨k + 1, by omega, by go_num, hide fun t' ht' => ?_, hN.below (below_then hA hb2), below_then hbA hb2⟩, by simp [intOf]; omega⟩
        rw [htk] at ht'
        rcases List.mem_append.1 ht' with h | h
        · exact unhide HOK t' h
        · obtain rfl : t' = t := by simpa using h
          exact unhide HF
      · have HF : Hid (¬ WorldOk n ts) := fun h => hf (h.2.2 t hmemk)
        clear hf
        go_wp2
        go_ret
        exact ⟨retB_false (unhide HF), below_then hbA hb2⟩
    · have hkl : k = ts.length := by omega
      have HFIN : Hid (WorldOk n ts) := ⟨unhide HR, h20, by have := unhide HOK; rw [hkl] at this; simpa using this⟩
      clear hkl
      go_wp2
      go_ret
      exact ⟨retB_true (unhide HFIN), hb⟩

theorem l1in_Tb (x a b : Int) (w : World) (h : inB x a b = true) : Calls Tryz.prog 62 #[.int .i64 x, .int .i64 a, .int .i64 b] w fun e w' => e = .returned (.bool true) ∧ Below w.heap.size w w' :=
  (l1in_T x a b w h).mono fun e w' ⟨he, hw⟩ => ⟨he, by rw [hw]; exact Below.refl _ _⟩
theorem l1in_Fb (x a b : Int) (w : World) (h : inB x a b = false) : Calls Tryz.prog 62 #[.int .i64 x, .int .i64 a, .int .i64 b] w fun e w' => e = .returned (.bool false) ∧ Below w.heap.size w w' :=
  (l1in_F x a b w h).mono fun e w' ⟨he, hw⟩ => ⟨he, by rw [hw]; exact Below.refl _ _⟩

set_option maxRecDepth 100000 in
set_option maxHeartbeats 8000000 in
theorem specTaken_any (v : Value) (n : Nt) (tq : Option Addr) (ts : List Tr) (tk : Nat) (pq : Option Addr) (ps : List Pt) (pk : Nat) (w : World) {L L' L3 : Nat} (hv : NetAt L w v n) (hts : TrsAt L' w tq ts) (hps : PtsAt L3 w pq ps) (htl : ts.length ≤ 1048576) (hbl : ∀ t ∈ ts, t.back.length ≤ 1048576) (hpl : ps.length ≤ 1048576) (hl : n.pieces.length ≤ 1048576) (hl' : n.joints.length ≤ 1048576)
    (hle : ∀ i (h : i < n.joints.length), n.joints[i].ends.length ≤ 1048576 ∧ n.joints[i].name.size ≤ maxLen) (hnm : ∀ i (h : i < n.pieces.length), n.pieces[i].name.size ≤ maxLen) :
    Calls Tryz.prog 31 #[v, .slice tq ts.length tk, .slice pq ps.length pk] w fun e w' => RetInts (TakenIs n ts ps) w.heap.size e w' ∧ Below w.heap.size w w' := by
  have hvv := hv
  obtain ⟨x, c, ca, cc, rfl, hp, hj⟩ := hv
  obtain ⟨i0, hi, hz0, hz1, hz2⟩ := info_parts info_Int
  go_enter Tryz.func31, Tryz.ntmps31
  go_wp2_with fail
  refine (l4good_any _ n tq ts tk _ (hvv.below ?_) (hts.below ?_) htl hbl hl hl' hle hnm).mono ?_
  · exact (by repeat (first | with_reducible exact Below.refl _ _ | refine Below.setCell ?_ (by first | omega | (simp <;> omega) | (simp [World.setCell] <;> omega)) _ | refine Below.alloc ?_ (by first | omega | (simp <;> omega) | (simp [World.setCell] <;> omega)) _ | refine Below.drew ?_ | refine below_draws ?_ _ | exact Below.refl _ _))
  · exact (by repeat (first | with_reducible exact Below.refl _ _ | refine Below.setCell ?_ (by first | omega | (simp <;> omega) | (simp [World.setCell] <;> omega)) _ | refine Below.alloc ?_ (by first | omega | (simp <;> omega) | (simp [World.setCell] <;> omega)) _ | refine Below.drew ?_ | refine below_draws ?_ _ | exact Below.refl _ _))
  rintro e w1 ⟨hR, hb1⟩
  have hbw1 : Below w.heap.size w w1 := below_then (by repeat (first | with_reducible exact Below.refl _ _ | refine Below.setCell ?_ (by first | omega | (simp <;> omega) | (simp [World.setCell] <;> omega)) _ | refine Below.alloc ?_ (by first | omega | (simp <;> omega) | (simp [World.setCell] <;> omega)) _ | refine Below.drew ?_ | refine below_draws ?_ _ | exact Below.refl _ _)) hb1
  have hN1 : Boxed w1 w.heap.size [.slice x n.pieces.length ca, .slice c n.joints.length cc] := (boxed_alloc _ _ _).below hb1
  rcases hR with ⟨rfl, hR⟩ | ⟨rfl, hR⟩
  rotate_left
  · have HR := hide hR
    clear hR
    go_wp2
    go_ret
    exact ⟨⟨none, 0, [], Or.inr ⟨fun h => unhide HR h.1, rfl⟩, rfl, Row.nil _ _ _ _ _⟩, hbw1⟩
  have hG := netGood hR.1
  have HR := hide hR
  clear hR
  by_cases h1000 : ps.length ≤ 1000
  rotate_left
  · have hb9 : (1000 : Int) < (ps.length : Int) := by omega
    go_wp2
    go_ret
    exact ⟨⟨none, 0, [], Or.inr ⟨fun h => h1000 h.2.2, rfl⟩, rfl, Row.nil _ _ _ _ _⟩, hbw1⟩
  have hb9 : ¬ (1000 : Int) < (ps.length : Int) := by omega
  go_wp2_with fail
  go_loopw [23] (fun z wr => ∃ k : Nat, k ≤ ps.length ∧ z = .int .i64 k ∧ Hid (∀ j (h : j < ps.length), j < k → PtFits n ps[j]) ∧ Boxed wr w.heap.size [.slice x n.pieces.length ca, .slice c n.joints.length cc] ∧ Below w.heap.size w wr) (fun z _ => ps.length - (intOf z).toNat)
  case atStart => exact ⟨0, Nat.zero_le _, rfl, hide fun j _ hj => by omega, hN1, hbw1⟩
  case round =>
    obtain ⟨k, hk, rfl, HOK, hN, hb⟩ := hrel
    by_cases hlt : k < ps.length
    · obtain ⟨pb, poff, rfl, hpb, c0, c1, c2⟩ := hps.below hb k hlt
      have hpb2 := hpb.2
      have a0 := hN.2.1 0 _ rfl
      have nl := hN.1
      generalize hX : ps[k] = X at *
      have HX := hide hX
      clear hX
      obtain ⟨Xp, Xf, Xt⟩ := X
      dsimp only at c0 c1 c2
      have HFIN : Hid (¬ PtFits n ⟨Xp, Xf, Xt⟩ → ¬ TakenGood n ts ps) := fun h h2 => h (by rw [← unhide HX]; exact h2.2.1 _ (List.getElem_mem hlt))
      have hne1 : ¬ wr.heap.size = w.heap.size := by omega
      have hne2 : ¬ w.heap.size = wr.heap.size := by omega
      have hnp : (n.pieces.length : Int) - 1 ≤ 1048576 := by omega
      by_cases h1 : 0 ≤ Xp ∧ Xp ≤ (n.pieces.length : Int) - 1
      rotate_left
      · have e1 := inB_false h1
        go_wp2_with fail
        refine wp_region_grown (by kernel_rfl) (by kernel_rfl) (fun hgn hgc => ?_)
        repeat (go_big_quiet_step (first
          | (go_at_call 62; rename_i g; exact g.call (l1in_Fb _ _ _ _ e1))))
        refine wpQuiet_nil ?_
        intro wq hwq
        have hbq : Below w.heap.size w wq := by obtain ⟨g, rfl⟩ := hwq; exact below_then hb (below_then (by repeat (first | with_reducible exact Below.refl _ _ | refine Below.setCell ?_ (by first | omega | (simp <;> omega) | (simp [World.setCell] <;> omega)) _ | refine Below.alloc ?_ (by first | omega | (simp <;> omega) | (simp [World.setCell] <;> omega)) _ | refine Below.drew ?_ | refine below_draws ?_ _ | exact Below.refl _ _)) g.below)
        clear hwq hgc hgn
        go_wp2
        go_ret
        exact ⟨⟨none, 0, [], Or.inr ⟨unhide HFIN fun h => h1 ⟨h.1.1, by have := h.1.2; dsimp only at this; omega⟩, rfl⟩, rfl, Row.nil _ _ _ _ _⟩, hbq⟩
      have e1 := inB_true h1
      by_cases h2 : 0 ≤ Xf ∧ Xf ≤ Xt
      rotate_left
      · have e2 := inB_false h2
        go_wp2_with fail
        refine wp_region_grown (by kernel_rfl) (by kernel_rfl) (fun hgn hgc => ?_)
        repeat (go_big_quiet_step (first
          | (go_at_call_of 62 Xf; rename_i g; exact g.call (l1in_Fb _ _ _ _ e2))
          | (go_at_call 62; rename_i g; exact g.call (l1in_Tb _ _ _ _ e1))))
        refine wpQuiet_nil ?_
        intro wq hwq
        have hbq : Below w.heap.size w wq := by obtain ⟨g, rfl⟩ := hwq; exact below_then hb (below_then (by repeat (first | with_reducible exact Below.refl _ _ | refine Below.setCell ?_ (by first | omega | (simp <;> omega) | (simp [World.setCell] <;> omega)) _ | refine Below.alloc ?_ (by first | omega | (simp <;> omega) | (simp [World.setCell] <;> omega)) _ | refine Below.drew ?_ | refine below_draws ?_ _ | exact Below.refl _ _)) g.below)
        clear hwq hgc hgn
        go_wp2
        go_ret
        exact ⟨⟨none, 0, [], Or.inr ⟨unhide HFIN fun h => h2 ⟨h.2.1, h.2.2.1⟩, rfl⟩, rfl, Row.nil _ _ _ _ _⟩, hbq⟩
      have e2 := inB_true h2
      obtain ⟨qb, qoff, hq, hqb, q1⟩ := (hp.below hb).len (p := Xp) (by omega) (by omega)
      subst hq
      have hx0 : 0 ≤ Xp := by omega
      have hx1 : Xp < n.pieces.length := by omega
      obtain ⟨xn, rfl⟩ := Int.eq_ofNat_of_zero_le hx0
      simp only [Int.toNat_natCast] at q1
      by_cases h5 : lenOf n xn < Xt
      · have e5 : decide (lenOf n xn < Xt) = true := by simpa using h5
        go_wp2_with fail
        refine wp_region_grown (by kernel_rfl) (by kernel_rfl) (fun hgn hgc => ?_)
        repeat (go_big_quiet_step (first
          | (go_at_call_of 62 Xf; rename_i g; exact g.call (l1in_Tb _ _ _ _ e2))
          | (go_at_call 62; rename_i g; exact g.call (l1in_Tb _ _ _ _ e1))))
        refine wpQuiet_nil ?_
        intro wq hwq
        have hbq : Below w.heap.size w wq := by obtain ⟨g, rfl⟩ := hwq; exact below_then hb (below_then (by repeat (first | with_reducible exact Below.refl _ _ | refine Below.setCell ?_ (by first | omega | (simp <;> omega) | (simp [World.setCell] <;> omega)) _ | refine Below.alloc ?_ (by first | omega | (simp <;> omega) | (simp [World.setCell] <;> omega)) _ | refine Below.drew ?_ | refine below_draws ?_ _ | exact Below.refl _ _)) g.below)
        clear hwq hgc hgn
        go_wp2
        go_ret
        exact ⟨⟨none, 0, [], Or.inr ⟨unhide HFIN fun h => by have := h.2.2.2; dsimp only at this; omega, rfl⟩, rfl, Row.nil _ _ _ _ _⟩, hbq⟩
      have e5 : decide (lenOf n xn < Xt) = false := by simpa using h5
      go_wp2_with fail
      refine wp_region_grown (by kernel_rfl) (by kernel_rfl) (fun hgn hgc => ?_)
      repeat (go_big_quiet_step (first
        | (go_at_call_of 62 Xf; rename_i g; exact g.call (l1in_Tb _ _ _ _ e2))
        | (go_at_call 62; rename_i g; exact g.call (l1in_Tb _ _ _ _ e1))))
      refine wpQuiet_nil ?_
      intro wq hwq
      have hbq : Below wr.heap.size wr wq := by obtain ⟨g, rfl⟩ := hwq; exact below_then (by repeat (first | with_reducible exact Below.refl _ _ | refine Below.setCell ?_ (by first | omega | (simp <;> omega) | (simp [World.setCell] <;> omega)) _ | refine Below.alloc ?_ (by first | omega | (simp <;> omega) | (simp [World.setCell] <;> omega)) _ | refine Below.drew ?_ | refine below_draws ?_ _ | exact Below.refl _ _)) g.below
      clear hwq hgc hgn
      go_wp2
      refine ⟨⟨k + 1, by omega, by go_num, hide fun j hj hjk => ?_, hN.below hbq, below_then hb hbq⟩, by simp [intOf]; omega⟩
      by_cases e : j = k
      · subst e; rw [unhide HX]; exact ⟨⟨by omega, hx1⟩, by dsimp only; omega, by dsimp only; omega, by dsimp only; omega⟩
      · exact unhide HOK j hj (by omega)
    · have HFIT : Hid (PtsFit n ps) := ⟨fun p hp => by obtain ⟨j, hj, rfl⟩ := List.getElem_of_mem hp; exact unhide HOK j hj (by omega), h1000⟩
      obtain ⟨wS, rfl⟩ : ∃ wS, wS = wr := ⟨_, rfl⟩
      have HGOOD : Hid (TakenGood n ts ps) := ⟨unhide HR, unhide HFIT⟩
      have hszS := hb.size
      have hNl := hN.1
      go_wp2_with fail
      go_loopw [9, 58] (fun y z wr => ∃ k : Nat, k ≤ ts.length ∧ z = .int .i64 k ∧ Hid (NtRow wr wS.heap.size y (((List.range k).filter fun i => hits ps (bodyParts n (ts.getD i noTr'))).map fun (i : Nat) => (i : Int))) ∧ Boxed wr w.heap.size [.slice x n.pieces.length ca, .slice c n.joints.length cc] ∧ wS.heap.size ≤ wr.heap.size ∧ Below w.heap.size w wr) (fun _ z _ => ts.length - (intOf z).toNat)
      case atStart => exact ⟨0, Nat.zero_le _, rfl, hide (Row.nil _ _ _ _ _), hN, Nat.le_refl _, hb⟩
      case round =>
        obtain ⟨k, hk2, rfl, HROW, hN2, hsS, hb2⟩ := hrel
        have nn := hN2.1
        have a0 := hN2.2.1 0 _ rfl
        have a1 := hN2.2.1 1 _ rfl
        by_cases hlt2 : k < ts.length
        · obtain ⟨tb, toff, ba, bc, hte, htb, c0, c1, c2, c3, c4, hst, hcap⟩ := hts.below hb2 k hlt2
          have hfitk := (unhide HR).2.2 ts[k] (List.getElem_mem hlt2)
          have hget : ts.getD k noTr' = ts[k] := by simp [List.getElem?_eq_getElem hlt2]
          have hsucc : ((List.range (k + 1)).filter fun i => hits ps (bodyParts n (ts.getD i noTr'))).map (fun (i : Nat) => (i : Int)) = ((List.range k).filter fun i => hits ps (bodyParts n (ts.getD i noTr'))).map (fun (i : Nat) => (i : Int)) ++ (if hits ps (bodyParts n ts[k]) = true then [(k : Int)] else []) := by
            rw [List.range_succ, List.filter_append, List.map_append, List.filter_cons, hget]
            split <;> simp
          have hlen : (((List.range k).filter fun i => hits ps (bodyParts n (ts.getD i noTr'))).map fun (i : Nat) => (i : Int)).length ≤ k := by
            rw [List.length_map]
            exact Nat.le_trans (List.length_filter_le _ _) (by simp)
          obtain ⟨zs, hzs⟩ : ∃ zs, ((List.range k).filter fun i => hits ps (bodyParts n (ts.getD i noTr'))).map (fun (i : Nat) => (i : Int)) = zs := ⟨_, rfl⟩
          rw [hzs] at HROW hsucc hlen
          generalize ts[k] = t at *
          have HSUC := hide hsucc
          have h20 := (unhide HR).2.1
          have hpl20 : (bodyParts n t).length ≤ 201 := by
            rw [bodyParts_eq hG hfitk]
            have := partsB_len n t.front (spare n t) t.back
            have := hfitk.2.2.1
            omega
          have htb2 := htb.2
          subst hte
          clear hsucc hzs hget
          have hA : Below wr.heap.size wr (wr.alloc (.cells #[.int .i64 t.front.piece, .int .i64 t.front.at_, .int .i64 t.front.way, .int .i64 t.long, .slice ba t.back.length bc] 36)) := (by repeat (first | with_reducible exact Below.refl _ _ | refine Below.setCell ?_ (by first | omega | (simp <;> omega) | (simp [World.setCell] <;> omega)) _ | refine Below.alloc ?_ (by first | omega | (simp <;> omega) | (simp [World.setCell] <;> omega)) _ | refine Below.drew ?_ | refine below_draws ?_ _ | exact Below.refl _ _))
          have hbA := below_then hb2 hA
          go_wp2_with fail
          refine (l2body_any _ _ n t _ (hvv.below hbA) ⟨ba, bc, rfl, hst.below hA⟩ hG hfitk).mono ?_
          rintro e w3 ⟨u3, rfl, hrow3, hb3⟩
          obtain ⟨ra, rcap, rfl, hrc, hrx⟩ := ptRow_at hrow3
          have hbw3 := below_then hbA hb3
          clear hrow3
          go_wp2_with fail
          refine (l2touch_any ra pq rcap pk (bodyParts n t) ps _ hrx (hps.below hbw3) (by omega) hpl).mono ?_
          rintro e w4 ⟨ht, hb4⟩
          have hbr4 := below_then (below_then hA hb3) hb4
          have hbw4 := below_then hb2 hbr4
          have hN4 := hN2.below hbr4
          have sz4 := hbr4.size
          have HROW4 := hide ((unhide HROW).below hbr4)
          rcases ht with ⟨rfl, ht⟩ | ⟨rfl, ht⟩
          · have HT := hide ((touch_hits _ _).1 ht)
            clear ht c0 c1 c2 c3 c4
            go_wp2_with (at_builtin; refine wpList_append_own _ rfl (.tmp 68) (.tmp 70) 49 rfl wS.heap.size 3 i0 (.int .i64 0) 1 8 Tryz.underlying49 hi hz0 hz1 hz2 rfl (by decide) _ _ _ rfl ((unhide HROW4).below (by repeat (first | with_reducible exact Below.refl _ _ | refine Below.setCell ?_ (by first | omega | (simp <;> omega) | (simp [World.setCell] <;> omega)) _ | refine Below.alloc ?_ (by first | omega | (simp <;> omega) | (simp [World.setCell] <;> omega)) _ | refine Below.drew ?_ | refine below_draws ?_ _ | exact Below.refl _ _))) _ 1 1 (ntF (k : Int)) rfl rfl ?c1 (nt_one _) ?c3 ?c4 ?c5 ?_)
            case c1 => exact nt_news (boxed_alloc _ _ _)
            case c3 => unfold maxLen; omega
            case c4 => omega
            case c5 => first | omega | (simp; omega)
            intro v' w5 hown' hgrow _
            have hrow5 : NtRow w5 wS.heap.size v' (zs ++ [(k : Int)]) := Row.snoc hown'
            have hb5 : Below w.heap.size w w5 := row_below_grown (unhide HROW4) hbw4 hgrow (by omega) hbw4.size
            have hN5 := row_boxed_grown (unhide HROW4) hgrow (by omega) hN4
            have hgs := hgrow.size
            have HROW5 := hide hrow5
            clear hrow5 hown' hgrow
            go_wp2
            refine ⟨⟨k + 1, by omega, by go_num, ?_, hN5, by simp at hgs; omega, hb5⟩, by simp [intOf]; omega⟩
            rw [unhide HSUC, if_pos (unhide HT)]
            exact HROW5
          · have HT : Hid (¬ hits ps (bodyParts n t) = true) := fun h => ht ((touch_hits _ _).2 h)
            clear ht
            go_wp2
            refine ⟨⟨k + 1, by omega, by go_num, ?_, hN4, by omega, hbw4⟩, by simp [intOf]; omega⟩
            rw [unhide HSUC, if_neg (unhide HT), List.append_nil]
            exact HROW4
        · have hkl : k = ts.length := by omega
          have hrow := unhide HROW
          rw [hkl] at hrow
          obtain ⟨zs, hzs⟩ : ∃ zs, ((List.range ts.length).filter fun i => hits ps (bodyParts n (ts.getD i noTr'))).map (fun (i : Nat) => (i : Int)) = zs := ⟨_, rfl⟩
          rw [hzs] at hrow
          have HZS := hide hzs
          obtain ⟨ra, rcap, rfl, hrc, _⟩ := ntRow_at hrow
          have HR9 := hide hrow
          clear hrow HROW hkl hzs
          go_wp2
          go_ret
          exact ⟨⟨ra, rcap, zs, Or.inl ⟨unhide HGOOD, (unhide HZS).symm⟩, rfl, (unhide HR9).mono (by omega)⟩, hb2⟩

end Go.Proofs.YtbdggfpfpjijoabGreat

