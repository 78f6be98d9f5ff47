import Derived.Test.YtbdggfpfpjijoaaKw8
namespace Go.Proofs.Ytbdggfpfpjijoaa
open Go.RowKit Go.Maps

/-- Whole numbers in a row of the call's own. -/
def ntF (z : Int) : List Value := [.int .i64 z]
theorem ntF_len (z : Int) : (ntF z).length = 1 := rfl
abbrev NtRow (w : World) (base : Nat) (v : Value) (zs : List Int) : Prop := Row w base 3 1 ntF v zs
theorem ntRow_at {w : World} {base : Nat} {v : Value} {zs : List Int} (h : NtRow w base v zs) : ∃ a cap, v = .slice a zs.length cap ∧ zs.length ≤ cap ∧ IntsAt base w a zs := by
  obtain ⟨a, cap, hv, hc, hx⟩ := h.shape ntF_len
  refine ⟨a, cap, hv, hc, fun i hi => ?_⟩
  obtain ⟨g, ha, hg, hj⟩ := hx i hi
  have e0 := hj 0 (by omega)
  simp only [ntF] at e0
  exact ⟨g, 0, ha, hg, by simpa using e0⟩
theorem nt_news {W : World} {N : Nat} {z : Int} (h : Boxed W N [.int .i64 z]) : ∀ j u, (ntF z)[j]? = some u → W.cell? ((⟨N, 0, none⟩ : Addr).add j) = some u := by
  intro j u hj
  match j, hj with
  | 0, hj => simp [ntF] at hj; subst hj; simpa [Addr.add] using h.2.1 0 _ rfl
theorem nt_one (z : Int) : ∀ u ∈ ntF z, u.oneCell' = true := by
  intro u hu
  simp [ntF] at hu
  subst hu
  rfl

/-- The list of told trains, in block A. -/
def ToldIs (w2 : World) (A : Nat) (tl : List Nat) (w : World) : Prop := ∃ u, Boxed w A [u] ∧ NtRow w (A + 1) u (tl.map fun (i : Nat) => (i : Int)) ∧ Below A w2 w

set_option maxRecDepth 100000 in
set_option maxHeartbeats 4000000 in
theorem taken1_any (w2 : World) (A M i : Nat) (tl : List Nat) (w : World) (hM : M < A) (hc : w2.cell? ⟨M, 412, none⟩ = some (.int .i64 i)) (htl : tl.length ≤ 20) (h : ToldIs w2 A tl w) :
    Calls Try.prog 48 #[.pointer (some ⟨M, 0, none⟩), .pointer (some ⟨A, 0, none⟩)] w fun e w' => (∃ v, e = .returned v) ∧ ToldIs w2 A (tl ++ [i]) w' := by
  obtain ⟨u, hB, hrow, hb⟩ := h
  have hAl := hB.1
  have c0 := hB.2.1 0 _ rfl
  have z0 := hB.2.2 0
  have c1 : w.cell? ⟨M, 412, none⟩ = some (.int .i64 i) := by rw [hb.cell (p := ⟨M, 412, none⟩) hM]; exact hc
  have hMl : M < w.heap.size := by omega
  obtain ⟨i0, hi, hz0, hz1, hz2⟩ := info_parts info_Int
  obtain ⟨ua, ucap, rfl, huc, _⟩ := ntRow_at hrow
  have hll : (tl.map fun (i : Nat) => (i : Int)).length ≤ 20 := by simpa using htl
  have hmap : (tl ++ [i]).map (fun (i : Nat) => (i : Int)) = tl.map (fun (i : Nat) => (i : Int)) ++ [(i : Int)] := by simp
  obtain ⟨zs, hzs⟩ : ∃ zs, tl.map (fun (i : Nat) => (i : Int)) = zs := ⟨_, rfl⟩
  rw [hzs] at hrow hll hmap c0 hB huc
  have HROW := hide hrow
  have HMAP := hide hmap
  have HB := hide hb
  have hne : some A ≠ (Value.slice ua zs.length ucap).ownBlock := fun e => by have := (hrow.lt A e.symm).1; omega
  clear hrow hmap hzs hc hb
  go_enter Try.func48, Try.ntmps48
  go_wp2_with fail
  go_region_law (first
    | (refine step_append_lies _ rfl (.tmp 3) (.tmp 8) 27 rfl (A + 1) 3 i0 (.int .i64 0) 1 8 Try.underlying27 hi hz0 hz1 hz2 rfl (by decide) (.slice ua zs.length ucap) zs.length (zs.flatMap ntF) (by simp [Act.eval]) ((unhide HROW).below (by repeat (first | with_reducible exact Below.refl _ _ | refine Below.setCell ?_ (by first | omega | (simp <;> omega) | (simp [World.setCell] <;> omega)) _ | refine Below.alloc ?_ (by first | omega | (simp <;> omega) | (simp [World.setCell] <;> omega)) _ | refine Below.drew ?_ | refine below_draws ?_ _ | exact Below.refl _ _))) _ 1 1 (ntF (i : Int)) (by simp [Act.eval]) rfl (nt_news (z := (i : Int)) (boxed_alloc _ _ _)) (nt_one _) (by omega) (by unfold maxLen; omega) (by omega) (by first | omega | (simp; omega)) _ rfl ?_; intro g cap w5 hown hgrow hat hlt5; have hB5 := boxed_grown' hgrow (hB.below (by repeat (first | with_reducible exact Below.refl _ _ | refine Below.setCell ?_ (by first | omega | (simp <;> omega) | (simp [World.setCell] <;> omega)) _ | refine Below.alloc ?_ (by first | omega | (simp <;> omega) | (simp [World.setCell] <;> omega)) _ | refine Below.drew ?_ | refine below_draws ?_ _ | exact Below.refl _ _))) hne; have d0 := hB5.2.1 0 _ rfl; have dz := hB5.2.2; have dl := hB5.1))
  all_goals have hrow5 : NtRow w5 (A + 1) (.slice (some ⟨g, 0, none⟩) (zs.length + 1) cap) (zs ++ [(i : Int)]) := Row.snoc hown
  all_goals have hb5 : Below A w2 w5 := Below.grown (B := A) (Below.trans (unhide HB) (Below.mono (show Below w.heap.size w _ from (by repeat (first | with_reducible exact Below.refl _ _ | refine Below.setCell ?_ (by first | omega | (simp <;> omega) | (simp [World.setCell] <;> omega)) _ | refine Below.alloc ?_ (by first | omega | (simp <;> omega) | (simp [World.setCell] <;> omega)) _ | refine Below.drew ?_ | refine below_draws ?_ _ | exact Below.refl _ _))) (Nat.le_of_lt hAl))) hgrow (by first | omega | (simp; omega)) (fun j hj => Nat.le_of_succ_le ((unhide HROW).lt j hj).1)
  all_goals go_wp2
  all_goals go_end0
  all_goals refine ⟨⟨_, rfl⟩, .slice (some ⟨g, 0, none⟩) (zs.length + 1) cap, hB5.setAt (i := 0) (by simp) _, ?_, hb5.setCell (p := ⟨A, 0, none⟩) (Nat.le_refl _) _⟩
  all_goals rw [unhide HMAP]
  all_goals exact hrow5.setCell (p := ⟨A, 0, none⟩) (by show A < A + 1; omega) _

/-- Taken's answer. -/
def TakenGood (n : Nt) (ts : List Tr) (ps : List Pt) : Prop := WorldOk n ts ∧ PtsFit n ps
def takenL (n : Nt) (ts : List Tr) (ps : List Pt) : List Int := ((List.range ts.length).filter fun i => hits ps (bodyParts n (ts.getD i noTr'))).map fun (i : Nat) => (i : Int)
def TakenIs (n : Nt) (ts : List Tr) (ps : List Pt) (zs : List Int) : Prop := (TakenGood n ts ps ∧ zs = takenL n ts ps) ∨ (¬ TakenGood n ts ps ∧ zs = [])
theorem TakenIs.unique {n : Nt} {ts : List Tr} {ps : List Pt} {a b : List Int} (h : TakenIs n ts ps a) (g : TakenIs n ts ps b) : a = b := by
  rcases h with ⟨h1, rfl⟩ | ⟨h1, rfl⟩ <;> rcases g with ⟨g1, rfl⟩ | ⟨g1, rfl⟩
  · rfl
  · exact absurd h1 g1
  · exact absurd g1 h1
  · rfl
theorem TakenIs.len {n : Nt} {ts : List Tr} {ps : List Pt} {zs : List Int} (h : TakenIs n ts ps zs) : zs.length ≤ 20 := by
  rcases h with ⟨h1, rfl⟩ | ⟨h1, rfl⟩
  · unfold takenL
    rw [List.length_map]
    have := h1.1.2.1
    exact Nat.le_trans (List.length_filter_le _ _) (by simp; omega)
  · simp
def RetInts (P : List Int → Prop) (base : Nat) (e : Ending) (w' : World) : Prop := ∃ a cap zs, P zs ∧ e = .returned (.slice a zs.length cap) ∧ NtRow w' base (.slice a zs.length cap) zs

theorem MvAt.touch {w : World} {base : Nat} {n : Nt} {k0 k1 k2 : Value} {M i : Nat} {t : Tr} (h : MvAt w base n k0 k1 k2 M i t) (hl : (bodyParts n t).length ≤ 1048576) : IsTy w M 119 ∧ w.cell? ⟨M, 412, none⟩ = some (.int .i64 i) ∧ ∃ a c, w.cell? ⟨M, 413, none⟩ = some (.slice a (bodyParts n t).length c) ∧ PtsAt 0 w a (bodyParts n t) ∧ (bodyParts n t).length ≤ 1048576 := by
  obtain ⟨v, h5, h6⟩ := h.cov
  obtain ⟨a, cap, rfl, _, hx⟩ := ptRow_at (h6.mono (Nat.zero_le _))
  exact ⟨h.ty, h.num, a, cap, h5, hx, hl⟩

set_option maxRecDepth 100000 in
set_option maxHeartbeats 8000000 in
theorem implTaken_any (v : Value) (n : Nt) (tq : Option Addr) (ts : List Tr) (tk : Nat) (pq : Option Addr) (ps : List Pt) (pk : Nat) (w : World) {L L' L3 : Nat} (hv : NetAt L w v n) (hts : TrsAt L' w tq ts) (hps : PtsAt L3 w pq ps) (htl : ts.length ≤ 1048576) (hbl : ∀ t ∈ ts, t.back.length ≤ 1048576) (hpl : ps.length ≤ 1048576)
    (hl : n.pieces.length ≤ 1048576) (hl' : n.joints.length ≤ 1048576) (hle : ∀ i (h : i < n.joints.length), n.joints[i].name.size ≤ maxLen) (hnm : ∀ i (h : i < n.pieces.length), n.pieces[i].name.size ≤ maxLen) :
    Calls Try.prog 11 #[v, .slice tq ts.length tk, .slice pq ps.length pk] w fun e w' => RetInts (TakenIs n ts ps) w.heap.size e w' ∧ Below w.heap.size w w' := by
  have hvv := hv
  obtain ⟨a, c, ca, cc, rfl, hp, hj⟩ := hv
  have hmf : ∀ (fn : Fn) (first cap : Array Value) (W : World), (Instr.makeFunc fn first cap).run Try.prog W = .ok (.func fn first cap) W := fun _ _ _ _ => rfl
  go_enter Try.func11, Try.ntmps11
  go_wp2_with fail
  refine (worldOf_any _ n tq ts tk _ (L := L) (hvv.below ?_) (hts.below ?_) htl hbl hl hl' hle hnm).mono ?_
  · exact (by repeat (first | with_reducible exact Below.refl _ _ | refine Below.setCell ?_ (by first | omega | (simp <;> omega) | (simp [World.setCell] <;> omega)) _ | refine Below.alloc ?_ (by first | omega | (simp <;> omega) | (simp [World.setCell] <;> omega)) _ | refine Below.drew ?_ | refine below_draws ?_ _ | exact Below.refl _ _))
  · exact (by repeat (first | with_reducible exact Below.refl _ _ | refine Below.setCell ?_ (by first | omega | (simp <;> omega) | (simp [World.setCell] <;> omega)) _ | refine Below.alloc ?_ (by first | omega | (simp <;> omega) | (simp [World.setCell] <;> omega)) _ | refine Below.drew ?_ | refine below_draws ?_ _ | exact Below.refl _ _))
  rintro e w1 ⟨hret, hb1⟩
  have hbw1 : Below w.heap.size w w1 := below_then (by repeat (first | with_reducible exact Below.refl _ _ | refine Below.setCell ?_ (by first | omega | (simp <;> omega) | (simp [World.setCell] <;> omega)) _ | refine Below.alloc ?_ (by first | omega | (simp <;> omega) | (simp [World.setCell] <;> omega)) _ | refine Below.drew ?_ | refine below_draws ?_ _ | exact Below.refl _ _)) hb1
  rcases hret with ⟨hok, W, ka, ksh, kst, kca, kcsh, kcst, Mp, N, mvv, ms, rfl, hW, hN, hk⟩ | ⟨hno, rfl⟩
  rotate_left
  · have HNO := hide hno
    clear hno
    go_wp2
    go_ret
    exact ⟨⟨none, 0, [], Or.inr ⟨fun h => unhide HNO h.1, rfl⟩, rfl, Row.nil _ _ _ _ _⟩, hbw1⟩
  have hWl := hW.ty.lt
  have q0 := hW.c0
  have q1 := hW.c1
  have q2 := hW.c2
  have HOK := hide hok
  go_wp2_with fail
  refine (partsFit_any _ n pq pk ps _ hk (hps.below hbw1) hpl).mono ?_
  rintro e w2 ⟨⟨rfl, hf⟩ | ⟨rfl, hf⟩, hb2⟩
  rotate_left
  · have HF := hide hf
    clear hf
    go_wp2
    go_ret
    exact ⟨⟨none, 0, [], Or.inr ⟨fun h => unhide HF h.2, rfl⟩, rfl, Row.nil _ _ _ _ _⟩, below_then hbw1 hb2⟩
  have HF := hide hf
  have hG := netGood hok.1
  have h20 := hok.2.1
  have hbw2 := below_then hbw1 hb2
  have hml : ms.length ≤ 20 := by rw [hW.len]; exact h20
  have hA : Below w2.heap.size w2 (w2.alloc (.cells #[.slice none 0 0] 27)) := (by repeat (first | with_reducible exact Below.refl _ _ | refine Below.setCell ?_ (by first | omega | (simp <;> omega) | (simp [World.setCell] <;> omega)) _ | refine Below.alloc ?_ (by first | omega | (simp <;> omega) | (simp [World.setCell] <;> omega)) _ | refine Below.drew ?_ | refine below_draws ?_ _ | exact Below.refl _ _))
  have hb1A := below_then hb2 hA
  have hmvs : MvsAt w1 ms (fun i => bodyParts n (ts.getD i noTr')) := fun i hi => by
    have hm := hW.mvs i hi
    have hit : i < ts.length := by rw [← hW.len]; exact hi
    have hfit := hok.2.2 (ts.getD i noTr') (by simp [List.getElem?_eq_getElem hit])
    refine hm.touch ?_
    rw [bodyParts_eq hG hfit]
    have := partsB_len n (ts.getD i noTr').front (spare n (ts.getD i noTr')) (ts.getD i noTr').back
    have := hfit.2.2.1
    omega
  have hpp : ∀ x ∈ ps, 0 ≤ x.piece ∧ x.piece < 1000 := fun x hx => by
    have h1 := (hf.1 x hx).1
    have := hG.np
    omega
  have hW4 := hW.c4
  have HW := hide hW
  have HMVS := hide hmvs
  have hlq := hW.lying
  have hnd := hW.nodup
  have HLEN := hide hW.len
  clear q0 q1 q2 hf hok hW hmvs
  have hcall := touched_any (fun tl wx => ToldIs w2 w2.heap.size tl wx) 48 (.pointer (some ⟨w2.heap.size, 0, none⟩)) W Mp N w.heap.size.succ mvv.ownBlock (lsOf ms fun i => bodyParts n (ts.getD i noTr')) ms (fun i => bodyParts n (ts.getD i noTr')) pq pk ps (w2.alloc (.cells #[.slice none 0 0] 27)) (L := L3)
    ((hb1A.cell (p := ⟨W, 4, none⟩) hWl).trans hW4) (Nat.lt_of_lt_of_le hWl hb1A.size) (by have := hlq.below hb1A; simpa using this) (fun p => Nat.le_trans lsOf_len (by omega)) (fun p q hq => lsOf_mem q hq) (fun i hi x hx => lsOf_has hi hx)
    ((unhide HMVS).below hb1A) hnd hml (hps.below (below_then hbw1 hb1A)) hpl hpp (fun x W' => by kernel_rfl)
    (fun wb hb => ⟨.slice none 0 0, (boxed_alloc _ _ _).below hb, Row.nil _ _ _ _ _, (hA.trans (hb.mono hA.size))⟩)
    (fun tl i hi wa htl hI => taken1_any w2 w2.heap.size ms[i] i tl wa (Nat.lt_of_lt_of_le (unhide HMVS i hi).1.lt hb2.size) ((hb2.cell (p := ⟨ms[i], 412, none⟩) (unhide HMVS i hi).1.lt).trans (unhide HMVS i hi).2.1) htl hI)
  have HCALL := hide hcall
  clear hcall hlq
  go_wp2_with fail
  refine (unhide HCALL).mono ?_
  rintro e w3 ⟨⟨v3, rfl⟩, u, hB3, hrow3, hb3⟩
  obtain ⟨zs, hzs⟩ : ∃ zs, ((List.range ms.length).filter fun i => hits ps (bodyParts n (ts.getD i noTr'))).map (fun (i : Nat) => (i : Int)) = zs := ⟨_, rfl⟩
  rw [hzs] at hrow3
  have HZS := hide hzs
  clear hzs
  obtain ⟨ra, rcap, rfl, hrc, _⟩ := ntRow_at hrow3
  have b0 := hB3.2.1 0 _ rfl
  have HROW := hide hrow3
  clear hrow3
  go_wp2
  go_ret
  refine ⟨⟨ra, rcap, _, Or.inl ⟨⟨unhide HOK, unhide HF⟩, ?_⟩, rfl, (unhide HROW).mono (by have := hbw2.size; omega)⟩, hbw2.trans (hb3.mono hbw2.size)⟩
  rw [← unhide HZS]
  unfold takenL
  rw [unhide HLEN]

end Go.Proofs.Ytbdggfpfpjijoaa

