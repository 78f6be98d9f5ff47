import Derived.Test.YtbdggfpfpjijoaaGreatG22
import Derived.Test.YtbdggfpfpjijoaaGreatG0
import Derived.Deep.RegionLaw
import Derived.Deep.AppendLies
import Derived.Test.YtbdggfpfpjijoaaGreatG23
namespace Go.Proofs.YtbdggfpfpjijoaaGreat
open Go.RowKit

def stF (p : St) : List Value := [.int .i64 p.piece, .int .i64 p.way]
theorem stF_len (p : St) : (stF p).length = 2 := rfl
abbrev StRow (w : World) (base : Nat) (v : Value) (ps : List St) : Prop := Row w base 95 2 stF v ps

theorem stRow_at {w : World} {base : Nat} {v : Value} {ps : List St} (h : StRow w base v ps) : ∃ a cap, v = .slice a ps.length cap ∧ ps.length ≤ cap ∧ StsAt base w a ps := by
  obtain ⟨a, cap, hv, hc, hx⟩ := h.shape stF_len
  refine ⟨a, cap, hv, hc, fun i hi => ?_⟩
  obtain ⟨g, ha, hg, hj⟩ := hx i hi
  have e0 := hj 0 (by omega)
  have e1 := hj 1 (by omega)
  simp only [stF] at e0 e1
  exact ⟨g, 0, ha, hg, by simpa using e0, by simpa using e1⟩
theorem stRow_sts {w : World} {base : Nat} {a : Option Addr} {m cap : Nat} {ps : List St} (h : StRow w base (.slice a m cap) ps) : StsAt 0 w a ps := by
  obtain ⟨a', cap', hv, _, hx⟩ := stRow_at (h.mono (Nat.zero_le _))
  simp at hv
  rw [hv.1]
  exact hx

theorem setCell_size (w : World) (p : Addr) (v : Value) : (w.setCell p v).heap.size = w.heap.size := by simp [World.setCell]

theorem Boxed.setAt {w : World} {N : Nat} {vs : List Value} (h : Boxed w N vs) {i : Nat} (hi : i < vs.length) (x : Value) : Boxed (w.setCell ⟨N, i, none⟩ x) N (vs.set i x) := by
  refine ⟨by simpa [World.setCell] using h.1, fun j v hj => ?_, fun j => by simpa using h.2.2 j⟩
  by_cases e : j = i
  · subst e
    rw [World.cell?_setCell_same _ _ _ (h.2.1 j _ (List.getElem?_eq_getElem hi))]
    simpa [hi] using hj
  · rw [World.cell?_setCell_other _ _ _ _ (by first | (simp; done) | (simp; omega))]
    rw [List.getElem?_set_ne (by omega)] at hj
    exact h.2.1 j v hj

theorem st_news {W : World} {N : Nat} {x : St} (h : Boxed W N [.int .i64 x.piece, .int .i64 x.way]) : ∀ j u, (stF x)[j]? = some u → W.cell? ((⟨N, 0, none⟩ : Addr).add j) = some u := by
  intro j u hj
  match j, hj with
  | 0, hj => simp [stF] at hj; subst hj; simpa [Addr.add] using h.2.1 0 _ rfl
  | 1, hj => simp [stF] at hj; subst hj; simpa [Addr.add] using h.2.1 1 _ rfl
theorem st_one (x : St) : ∀ u ∈ stF x, u.oneCell' = true := by
  intro u hu
  simp [stF] at hu
  rcases hu with rfl | rfl <;> rfl

set_option maxRecDepth 100000 in
set_option maxHeartbeats 4000000 in
theorem train_any (B : Nat) (k0 k1 k2 : Value) (s : Sp) (long sp : Int) (xs : List St) (w : World) (h : GB w B k0 k1 k2 s long sp xs) :
    Calls Tryz.prog 44 #[.pointer (some ⟨B, 0, none⟩)] w fun e w' => ∃ a cap, e = .returned (.agg #[.int .i64 s.piece, .int .i64 s.at_, .int .i64 s.way, .int .i64 long, .slice a xs.length cap]) ∧ StRow w' w.heap.size (.slice a xs.length cap) xs ∧ Below w.heap.size w w' := by
  have hB := h.lt
  obtain ⟨c0, c1, c2, _, _, _, c6, _, c411⟩ := h.cells
  have hfew : xs.length ≤ 201 := by obtain ⟨f, fs, _, hh⟩ := h; exact hh.few
  obtain ⟨i0, hi, hz0, hz1, hz2⟩ := info_parts info_Step
  have H := hide h
  have hB1 : B < w.heap.size + 1 := by omega
  have nB0 : ¬ w.heap.size = B := by omega
  have nB1 : ¬ w.heap.size + 1 = B := by omega
  clear h
  go_enter Tryz.func44, Tryz.ntmps44
  go_wp2_with fail
  go_region
  go_wp2_with fail
  go_loopw [19] (fun z wr => ∃ (k : Nat) (u : Value), k ≤ xs.length ∧ z = .int .i64 k ∧ Hid (StRow wr (w.heap.size + 1 + 1) u (xs.take k)) ∧ Boxed wr w.heap.size [.int .i64 0, .int .i64 0, .int .i64 0, .int .i64 0, .slice none 0 0] ∧ Boxed wr (w.heap.size + 1) [.int .i64 s.piece, .int .i64 s.at_, .int .i64 s.way, .int .i64 long, u] ∧ Below w.heap.size w wr) (fun z _ => xs.length - (intOf z).toNat)
  case atStart =>
    exact ⟨0, .slice none 0 0, Nat.zero_le _, rfl, hide (Row.nil _ _ _ _ _), ((boxed_alloc _ _ _).alloc _).drew, (boxedN _ _ _ (by simp)).drew, bw0⟩
  case round =>
    clear c0 c1 c2 c6 c411
    obtain ⟨k, u, hk, rfl, HROW, hBr, hBt, hb⟩ := hrel
    have hszr := hb.size
    have nt := hBt.1
    have b4 := hBt.2.1 4 _ rfl
    have bz := hBt.2.2
    by_cases hlt : k < xs.length
    · have hbB : B < wr.heap.size := by omega
      have htake : xs.take (k + 1) = xs.take k ++ [xs[k]] := List.take_succ_eq_append_getElem hlt
      have hget : xs.getD k ⟨0, 0⟩ = xs[k] := by simp [List.getElem?_eq_getElem hlt]
      have hlenT : (xs.take k).length = k := by rw [List.length_take]; omega
      obtain ⟨pre, hpre⟩ : ∃ pre, xs.take k = pre := ⟨_, rfl⟩
      generalize hxk : xs[k] = x at *
      obtain ⟨xp, xy⟩ := x
      rw [hpre] at htake HROW hlenT
      have HT := hide htake
      have HG := hide hget
      have HLT := hide hlenT
      clear htake hget hpre hlenT hxk
      have HGB := hide ((unhide H).below hb)
      go_wp2_with fail
      go_region_law (first
        | (go_simp; go_at_call 103; refine (gRingAt_any B k k0 k1 k2 s long sp xs _ ((unhide HGB).below bw0) hlt).mono ?_; rw [unhide HG]; rintro e w1 ⟨rfl, hb1⟩; have hBt1 := hBt.below (below_then bw0 hb1); have d4 := hBt1.2.1 4 _ rfl; have dz := hBt1.2.2; have dn := hBt1.1; have dne : ¬ w.heap.size + 1 = w1.heap.size := (by omega); have dne2 : ¬ w1.heap.size = w.heap.size + 1 := (by omega); dsimp only)
        | (refine step_append_lies _ rfl (.tmp 23) (.tmp 29) 30 rfl (w.heap.size + 1 + 1) 95 i0 (.agg #[.int .i64 0, .int .i64 0]) 2 16 Tryz.underlying30 hi hz0 hz1 hz2 rfl (by decide) u pre.length (pre.flatMap stF) (by simp [Act.eval]) ((unhide HROW).below (below_then (below_then bw0 hb1) bw0)) _ 1 1 (stF ⟨xp, xy⟩) (by simp [Act.eval]) rfl (st_news (x := ⟨xp, xy⟩) (boxed_alloc _ _ _)) (st_one _) (by omega) (by have := unhide HLT; unfold maxLen; omega) (by have := unhide HLT; omega) (by have := hb1.size; simp at this ⊢; omega) _ rfl ?_; intro g cap w2 hown2 hgrow hat hlt2; have hneN : some (w.heap.size + 1) ≠ u.ownBlock := (fun hc => (by have := ((unhide HROW).lt _ hc.symm).1; omega)); have hS2 : w2.frozen? ⟨w.heap.size + 1, 4, none⟩ = false := (by rw [hgrow.frozen_far ⟨w.heap.size + 1, 4, none⟩ (by simp; omega) hneN]; rw [World.frozen?_alloc_old _ _ _ (by (try simp); omega)]; exact dz 4); have hS3 : w2.cell? ⟨w.heap.size + 1, 4, none⟩ = some u := (by rw [hgrow.cell_far ⟨w.heap.size + 1, 4, none⟩ (by simp; omega) hneN]; rw [World.cell?_alloc_past _ _ _ (by (try simp); omega)]; exact d4)))
      all_goals have hbr1 : Below wr.heap.size wr w1 := below_then bw0 hb1
      all_goals have hrow1 := (unhide HROW).below hbr1
      all_goals have hrow3 : StRow w2 (w.heap.size + 1 + 1) (.slice (some ⟨g, 0, none⟩) (pre.length + 1) cap) (pre ++ [⟨xp, xy⟩]) := Row.snoc hown2
      all_goals have hbw1 := below_then hb hbr1
      all_goals have hsz1 := hbr1.size
      all_goals have hbw2 : Below w.heap.size w w2 := row_below_grown hrow1 hbw1 hgrow (by omega) (by omega)
      all_goals have hBr2 := row_boxed_grown hrow1 hgrow (by omega) (hBr.below hbr1)
      all_goals have hBt2 := row_boxed_grown hrow1 hgrow (by omega) (hBt.below hbr1)
      all_goals have HR3 := hide hrow3
      all_goals clear hrow3 hown2 hgrow hrow1 hat
      all_goals go_wp2
      all_goals refine ⟨⟨k + 1, _, by omega, by go_num, ?_, hBr2.apart (p := ⟨w.heap.size + 1, 4, none⟩) (show w.heap.size ≠ w.heap.size + 1 by omega) _, hBt2.setAt (i := 4) (by simp) _, (by repeat (first | with_reducible exact Below.refl _ _ | with_reducible exact hbw2 | refine bwS ?_ | refine bwA ?_ | refine Below.drew ?_ | refine below_draws ?_ _ | exact hbw2 | exact Below.refl _ _))⟩, by simp [intOf]; omega⟩
      all_goals rw [unhide HT]
      all_goals exact hide ((unhide HR3).setCell (by simp) _)
    · have hkl : k = xs.length := by omega
      have HK : Hid (xs.take k = xs) := by unfold Hid; rw [hkl]; simp
      have hrow := unhide HROW
      rw [unhide HK] at hrow
      obtain ⟨a, cap, rfl, hc, _⟩ := stRow_at hrow
      have HR := hide hrow
      clear hrow HROW
      have e0 := hBt.2.1 0 _ rfl
      have e1 := hBt.2.1 1 _ rfl
      have e2 := hBt.2.1 2 _ rfl
      have e3 := hBt.2.1 3 _ rfl
      have r0 := hBr.2.1 0 _ rfl
      have r1 := hBr.2.1 1 _ rfl
      have r2 := hBr.2.1 2 _ rfl
      have r3 := hBr.2.1 3 _ rfl
      have r4 := hBr.2.1 4 _ rfl
      have rz := hBr.2.2
      have rl := hBr.1
      go_wp2
      refine bodyPost_ret (v := .agg #[.int .i64 s.piece, .int .i64 s.at_, .int .i64 s.way, .int .i64 long, .slice a xs.length cap]) (by simp [results, Tryz.results44, go_sem, r0, r1, r2, r3, r4]) rfl ⟨a, cap, rfl, ?_, (by repeat (first | with_reducible exact Below.refl _ _ | with_reducible exact hb | refine bwS ?_ | refine bwA ?_ | refine Below.drew ?_ | refine below_draws ?_ _ | exact hb | exact Below.refl _ _))⟩
      exact (((((((unhide HR).setCell (by show w.heap.size < w.heap.size + 1 + 1; omega) _).setCell (by show w.heap.size < w.heap.size + 1 + 1; omega) _).setCell (by show w.heap.size < w.heap.size + 1 + 1; omega) _).setCell (by show w.heap.size < w.heap.size + 1 + 1; omega) _).setCell (by show w.heap.size < w.heap.size + 1 + 1; omega) _).mono (by omega))

end Go.Proofs.YtbdggfpfpjijoaaGreat

namespace Go.Proofs.YtbdggfpfpjijoaaGreat
open Go.RowKit

/-- The giver that goes backward, as switches lie. -/
def NxBack (n : Nt) (zs : List Int) (s : St) (r : Option (St × St)) : Prop :=
  ∃ i k q, StandsAt n.joints (hd s.piece (-s.way)) i k ∧ OverIs n zs i k q ∧ ((q.2 ≠ 0 ∧ r = none) ∨ (q.2 = 0 ∧ r = some (twd q.1, twd q.1)))

theorem stands_fits {n : Nt} (hG : NetGood n) {e : Ed} {i k : Nat} (h : StandsAt n.joints e i k) : EdFits n.pieces.length e := by
  obtain ⟨hi, hk, he⟩ := h
  have := (hG.fits i hi).2.2 k hk
  rw [he] at this
  exact this

theorem nxBack_fun {n : Nt} (hG : NetGood n) {zs : List Int} : ∀ s a b, NxBack n zs s a → NxBack n zs s b → a = b := by
  rintro s a b ⟨i, k, q, hst, ⟨h1, h2, h3⟩, h⟩ ⟨i', k', q', hst', ⟨g1, g2, g3⟩, g⟩
  have hf := stands_fits hG hst
  have hu : uses n.joints (hd s.piece (-s.way)).piece (hd s.piece (-s.way)).side = 1 := by
    have := hG.hd (p := s.piece) hf.1.1 hf.1.2 (-s.way)
    exact this
  obtain ⟨rfl, rfl⟩ := stands_unique hu hst hst'
  rw [h3] at g3
  subst g3
  rcases h with ⟨h, rfl⟩ | ⟨h, rfl⟩ <;> rcases g with ⟨g, rfl⟩ | ⟨g, rfl⟩
  · rfl
  · exact absurd g h
  · exact absurd h g
  · rfl

theorem endOf_fits {n : Nt} (hG : NetGood n) {i : Nat} (hi : i < n.joints.length) {k : Nat} (hk : k < n.joints[i].ends.length) : EdFits n.pieces.length (endOf n.joints[i] k) := by
  have := (hG.fits i hi).2.2 k hk
  unfold endOf
  simpa [List.getD, List.getElem?_eq_getElem hk] using this

theorem overJ_fits {n : Nt} (hG : NetGood n) {i k : Nat} (hi : i < n.joints.length) (hk : k < n.joints[i].ends.length) {z : Int} {q : Ed × Int} (h : overJ n.joints[i] k z = q) (h0 : q.2 = 0) : EdFits n.pieces.length q.1 := by
  have hK := hG.kind hi
  obtain ⟨⟨h1, h4⟩, hl⟩ := hK
  subst h
  unfold overJ at h0 ⊢
  have h5 : n.joints[i].kind = 1 ∨ n.joints[i].kind = 2 ∨ n.joints[i].kind = 3 ∨ n.joints[i].kind = 4 := by omega
  rcases h5 with h | h | h | h
  · simp [h] at h0
  · simp only [h] at h0 ⊢
    simp only [if_true] at h0 ⊢
    exact endOf_fits hG hi (by omega)
  · have hk3 : k = 0 ∨ k = 1 ∨ k = 2 := by omega
    by_cases hz : z = 0
    · simp [h, hz] at h0
    · by_cases hz2 : z = 2
      · rcases hk3 with rfl | rfl | rfl
        · simp [h, hz2]
          exact endOf_fits hG hi (by omega)
        · simp [h, hz2] at h0
        · simp [h, hz2]
          exact endOf_fits hG hi (by omega)
      · rcases hk3 with rfl | rfl | rfl
        · simp [h, hz, hz2]
          exact endOf_fits hG hi (by omega)
        · simp [h, hz, hz2]
          exact endOf_fits hG hi (by omega)
        · simp [h, hz, hz2] at h0
  · simp only [h] at h0 ⊢
    simp at h0 ⊢
    have hk4 : k < 4 := by omega
    split
    · exact endOf_fits hG hi (by omega)
    · split
      · exact endOf_fits hG hi (by omega)
      · split <;> exact endOf_fits hG hi (by omega)

theorem twd_ok {n : Nt} {e : Ed} (h : EdFits n.pieces.length e) : StepOk n (twd e) := ⟨h.1, by unfold twd; dsimp only; split <;> simp⟩

def BackAt (n : Nt) (w0 : World) (k0 k1 k2 zv : Value) (C : Nat) (s : St) (w : World) : Prop :=
  Below w0.heap.size w0 w ∧ StepOk n s ∧ Boxed w C [k0, k1, k2, zv, .int .i64 s.piece, .int .i64 s.way]
theorem BackAt.kept {n : Nt} {w0 : World} {k0 k1 k2 zv : Value} {C : Nat} {s : St} {a b : World} {M : Nat} (h : BackAt n w0 k0 k1 k2 zv C s a) (hb : Below M a b) (hC : C < M) (h0 : w0.heap.size ≤ C) : BackAt n w0 k0 k1 k2 zv C s b := by
  obtain ⟨h1, h2, h3⟩ := h
  exact ⟨h1.trans (hb.mono (by omega)), h2, h3.kept hb hC⟩

set_option maxRecDepth 100000 in
set_option maxHeartbeats 4000000 in
theorem back_next (n : Nt) (w0 : World) (k0 k1 k2 : Value) (zq : Option Addr) (zs : List Int) (zc : Nat) (C : Nat) (s : St) (wa : World) {L L' : Nat} (hk : TrkAt L w0 (.agg #[k0, k1, k2]) n) (hz : IntsAt L' w0 zq zs) (hG : NetGood n) (hzl : zs.length = n.joints.length) (h0 : w0.heap.size ≤ C)
    (h : BackAt n w0 k0 k1 k2 (.slice zq zs.length zc) C s wa) :
    Calls Tryz.prog 53 #[.pointer (some ⟨C, 0, none⟩)] wa fun e w' =>
      ((∃ p y : Int, e = .returned (.tuple #[.agg #[.int .i64 p, .int .i64 y], .bool false]) ∧ NxBack n zs s none) ∨ ∃ x s', e = .returned (.tuple #[.agg #[.int .i64 x.piece, .int .i64 x.way], .bool true]) ∧ NxBack n zs s (some (x, s')) ∧ StepOk n x ∧ BackAt n w0 k0 k1 k2 (.slice zq zs.length zc) C s' w') ∧ Only (fun k => k = C) wa w' := by
  obtain ⟨hb0, hs, hB⟩ := h
  obtain ⟨sp, sy⟩ := s
  dsimp only at hB
  obtain ⟨i, k, hst⟩ := stands_some (hG.hd hs.1.1 hs.1.2 (-sy))
  have hil : i < zs.length := by rw [hzl]; exact hst.1
  obtain ⟨r, hr⟩ : ∃ r, OverIs n zs i k r := ⟨_, hst.1, hil, rfl⟩
  have hkk := hk.below hb0
  obtain ⟨zb, zoff, rfl, hzb, z0⟩ := hz.below hb0 i hil
  have hN : ∀ q, ((r.2 ≠ 0 ∧ q = none) ∨ (r.2 = 0 ∧ q = some (twd r.1, twd r.1))) → NxBack n zs ⟨sp, sy⟩ q := fun q hq => ⟨i, k, r, hst, hr, hq⟩
  obtain ⟨g1, g2, g3⟩ := hr
  generalize hzi : zs[i] = z at *
  have hfit : r.2 = 0 → StepOk n (twd r.1) := fun hq => twd_ok (overJ_fits hG g1 hst.2.1 g3 hq)
  obtain ⟨⟨rp, rs⟩, rc⟩ := r
  have HOV := hide g3
  have HN := hide hN
  have HFIT := hide hfit
  have HST := hide hst
  have HSOK := hide hs
  have HB := hide hB
  have HKK := hide hkk
  have hfitE : EdFits n.pieces.length (hd sp (-sy)) := stands_fits hG hst
  have c0 := hB.2.1 0 _ rfl
  have c1 := hB.2.1 1 _ rfl
  have c2 := hB.2.1 2 _ rfl
  have c3 := hB.2.1 3 _ rfl
  have c4 := hB.2.1 4 _ rfl
  have c5 := hB.2.1 5 _ rfl
  have hCl := hB.1
  have hC1 : C < wa.heap.size + 1 := by omega
  have hzb2 := hzb.2
  have hii : (i : Int) < (zs.length : Int) := by omega
  clear hs hst hN hfit g3 hzi hB hkk
  go_enter Tryz.func53, Tryz.ntmps53
  go_wp2_with fail
  refine (endBehind_v ⟨sp, sy⟩ _ (unhide HSOK).2).mono ?_
  rintro e w1 ⟨rfl, hb1⟩
  have hR1 : Boxed w1 wa.heap.size [.int .i64 0, .int .i64 0] := (boxed_alloc _ _ _).below hb1
  have hba1 : Below wa.heap.size wa w1 := below_then bw0 hb1
  have hB1 := (unhide HB).below hba1
  have hsz1 := hba1.size
  have hCl1 := hB1.1
  have d0 := hB1.2.1 0 _ rfl
  have d1 := hB1.2.1 1 _ rfl
  have d2 := hB1.2.1 2 _ rfl
  have d3 := hB1.2.1 3 _ rfl
  have d4 := hB1.2.1 4 _ rfl
  have d5 := hB1.2.1 5 _ rfl
  have z1 := (hba1.cell hzb2).trans z0
  have hzb3 : zb < w1.heap.size := by omega
  have nC1 : ¬ C = w1.heap.size := by omega
  have nC2 : ¬ w1.heap.size = C := by omega
  have nz1 : ¬ zb = w1.heap.size := by omega
  have nz2 : ¬ w1.heap.size = zb := by omega
  have nC3 : ¬ C = w1.heap.size + 1 := by omega
  have nC4 : ¬ w1.heap.size + 1 = C := by omega
  have nz3 : ¬ zb = w1.heap.size + 1 := by omega
  have nz4 : ¬ w1.heap.size + 1 = zb := by omega
  clear c0 c1 c2 c3 c4 c5 z0
  obtain ⟨he, hhe⟩ : ∃ he, hd sp (-sy) = he := ⟨_, rfl⟩
  dsimp only
  rw [hhe] at HST hfitE ⊢
  obtain ⟨hp, hq⟩ := he
  clear hhe
  dsimp only
  go_upto_region 2 with fail
  go_cut [5, 6] (fun p y wx => ∃ B, p = .pointer (some ⟨B, 0, none⟩) ∧ y = .int .i64 rc ∧ w1.heap.size ≤ B ∧ Boxed wx B [.int .i64 rp, .int .i64 rs] ∧ Below w1.heap.size w1 wx)
  case first =>
    go_region_held3 (fun w' => w'.cell? ⟨C, 0, none⟩ = some k0 ∧ w'.cell? ⟨C, 1, none⟩ = some k1 ∧ w'.cell? ⟨C, 2, none⟩ = some k2 ∧ w'.cell? ⟨C, 3, none⟩ = some (.slice (some ⟨zb, zoff, none⟩) zs.length zc) ∧ w'.cell? ⟨w1.heap.size, 0, none⟩ = some (.int .i64 hp) ∧ w'.cell? ⟨w1.heap.size, 1, none⟩ = some (.int .i64 hq) ∧ w'.cell? ⟨zb, zoff + i, none⟩ = some (.int .i64 z))
      (((try dsimp only); (repeat' apply And.intro)) <;> (go_keep; done))
      (first
        | (go_at_call 108; refine (jointAt_any _ n ⟨hp, hq⟩ i k _ ((unhide HKK).below (below_then hba1 bw0)) hG hfitE (unhide HST)).mono ?_; rintro e w2 ⟨rfl, hb2⟩; obtain ⟨hc2, hf2⟩ := bcell hb2; have sz2 := hb2.size; (try simp at sz2); have lt2 := Nat.lt_of_succ_le sz2; have ne20 : ¬ w2.heap.size = C := (by omega); have ne21 : ¬ C = w2.heap.size := (by omega); have ne22 : ¬ w2.heap.size = w1.heap.size := (by omega); have ne23 : ¬ w1.heap.size = w2.heap.size := (by omega); have ne24 : ¬ w2.heap.size = zb := (by omega); have ne25 : ¬ zb = w2.heap.size := (by omega); have q0 := hc2 (C) (0) (by first | (simp; done) | (simp; omega) | omega); have q1 := hc2 (C) (1) (by first | (simp; done) | (simp; omega) | omega); have q2 := hc2 (C) (2) (by first | (simp; done) | (simp; omega) | omega); have q3 := hc2 (C) (3) (by first | (simp; done) | (simp; omega) | omega); have q4 := hc2 (w1.heap.size) (0) (by first | (simp; done) | (simp; omega) | omega); have q5 := hc2 (w1.heap.size) (1) (by first | (simp; done) | (simp; omega) | omega); have qz := hc2 zb (zoff + i) (by first | omega | (simp; omega)))
        | (go_at_call 116; refine (over_any _ n ⟨hp, hq⟩ i k z ⟨rp, rs⟩ rc _ ((unhide HKK).below (below_then hba1 ?_)) hG hfitE (unhide HST) (unhide HOV)).mono ?_; (first | exact below_then bw0 hb2 | exact below_then (below_then bw0 hb2) bw0); rintro e w3 ⟨rfl, hb3⟩; obtain ⟨hc3, hf3⟩ := bcell hb3; have sz3 := hb3.size; (try simp at sz3); (try have lt3 := Nat.lt_of_succ_le sz3); have ne30 : ¬ w3.heap.size = C := (by omega); have ne31 : ¬ C = w3.heap.size := (by omega); have ne32 : ¬ w3.heap.size = w1.heap.size := (by omega); have ne33 : ¬ w1.heap.size = w3.heap.size := (by omega); have ne34 : ¬ w3.heap.size = zb := (by omega); have ne35 : ¬ zb = w3.heap.size := (by omega); have r0 := hc3 (C) (0) (by first | (have := hb2.size; omega) | (have := hb2.size; simp at this ⊢; omega) | (simp; omega)); have r1 := hc3 (C) (1) (by first | (have := hb2.size; omega) | (have := hb2.size; simp at this ⊢; omega) | (simp; omega)); have r2 := hc3 (C) (2) (by first | (have := hb2.size; omega) | (have := hb2.size; simp at this ⊢; omega) | (simp; omega)); have r3 := hc3 (C) (3) (by first | (have := hb2.size; omega) | (have := hb2.size; simp at this ⊢; omega) | (simp; omega)); have r4 := hc3 (w1.heap.size) (0) (by first | (have := hb2.size; omega) | (have := hb2.size; simp at this ⊢; omega) | (simp; omega)); have r5 := hc3 (w1.heap.size) (1) (by first | (have := hb2.size; omega) | (have := hb2.size; simp at this ⊢; omega) | (simp; omega)); have rz := hc3 zb (zoff + i) (by have := hb2.size; first | omega | (simp at this ⊢; omega))))
    all_goals go_wp2_with fail
    all_goals go_meet
    · refine ⟨_, rfl, rfl, by omega, boxed_alloc _ _ _, below_then (below_then (below_then bw0 hb2) hb3) bw0⟩
    · have hZ : Boxed w3 w2.heap.size [.int .i64 0, .int .i64 0] := (boxed_alloc _ _ _).below hb3
      refine ⟨_, rfl, rfl, by omega, hZ.put2 _ _, ?_⟩
      have hbw3 := below_then (below_then (below_then (bw0 : Below w1.heap.size w1 _) hb2) bw0) hb3
      exact (by repeat (first | with_reducible exact Below.refl _ _ | with_reducible exact hbw3 | refine bwS ?_ | refine bwA ?_ | refine Below.drew ?_ | refine below_draws ?_ _ | exact hbw3 | exact Below.refl _ _))
    · have hZ : Boxed w3 (w1.heap.size + 1) [.int .i64 0, .int .i64 0] := (((boxedN _ _ _ (by simp)).drew).below hb2).below hb3
      refine ⟨_, rfl, rfl, by omega, hZ.put2 _ _, ?_⟩
      have hbw3 := below_then (below_then (bw0 : Below w1.heap.size w1 _) hb2) hb3
      exact (by repeat (first | with_reducible exact Below.refl _ _ | with_reducible exact hbw3 | refine bwS ?_ | refine bwA ?_ | refine Below.drew ?_ | refine below_draws ?_ _ | exact hbw3 | exact Below.refl _ _))
  case rest =>
    obtain ⟨B, rfl, rfl, hBl, hBe, hbc⟩ := hcut
    have hbac := below_then hba1 hbc
    have hRc := hR1.below hbc
    have hBc := hB1.below hbc
    have szc := hbc.size
    have r0 := hRc.2.1 0 _ rfl
    have r1 := hRc.2.1 1 _ rfl
    have rz := hRc.2.2
    have rl := hRc.1
    have cl := hBc.1
    have cz := hBc.2.2
    have e0 := hBe.2.1 0 _ rfl
    have e1 := hBe.2.1 1 _ rfl
    have el := hBe.1
    clear d0 d1 d2 d3 d4 d5 z1
    by_cases hq0 : rc = 0
    · subst hq0
      have hOk := unhide HFIT rfl
      have HN' := hide (unhide HN _ (Or.inr ⟨rfl, rfl⟩))
      go_wp2_with fail
      refine (toward_any ⟨rp, rs⟩ _).mono ?_
      rintro e w4 ⟨rfl, hb4⟩
      have hba4 := below_then hbac hb4
      have hR4 := hRc.below hb4
      have hB4 := hBc.below hb4
      have HOK := hide hOk
      clear hOk r0 r1 rz rl cl cz e0 e1 el
      dsimp only at *
      generalize twd ⟨rp, rs⟩ = x at *
      obtain ⟨xp, xy⟩ := x
      have r0 := hR4.2.1 0 _ rfl
      have r1 := hR4.2.1 1 _ rfl
      have rz := hR4.2.2
      have rl := hR4.1
      have cl := hB4.1
      have cz := hB4.2.2
      have c4 := hB4.2.1 4 _ rfl
      have c5 := hB4.2.1 5 _ rfl
      have nRC : ¬ wa.heap.size = C := by omega
      have nCR : ¬ C = wa.heap.size := by omega
      have hsz0 := hb0.size
      have h04 : Below w0.heap.size w0 w4 := hb0.trans (hba4.mono hsz0)
      have hset := (hB4.set (i := 4) (by simp) (.int .i64 xp)).set (i := 5) (by simp) (.int .i64 xy)
      go_wp2
      refine bodyPost_ret (v := .tuple #[.agg #[.int .i64 xp, .int .i64 xy], .bool true]) (by simp [results, Tryz.results53, go_sem, r0, r1]) rfl ⟨Or.inr ⟨⟨xp, xy⟩, ⟨xp, xy⟩, rfl, unhide HN', unhide HOK, ?_⟩, ?_⟩
      · exact ⟨(by repeat (first | with_reducible exact Below.refl _ _ | with_reducible exact h04 | refine bwS ?_ | refine bwA ?_ | refine Below.drew ?_ | refine below_draws ?_ _ | exact h04 | exact Below.refl _ _)), unhide HOK, (hset.apart (p := ⟨wa.heap.size, 0, none⟩) (show C ≠ wa.heap.size by omega) _).apart (p := ⟨wa.heap.size, 1, none⟩) (show C ≠ wa.heap.size by omega) _⟩
      · exact (((only_of_below hba4).trans (only_setCell (S := fun k => k = C) w4 (p := ⟨C, 4, none⟩) rfl _)).trans (only_setCell (S := fun k => k = C) _ (p := ⟨C, 5, none⟩) rfl _)).on bw0
    · have hqb := ne_beq hq0
      have hqn : (rc != 0) = true := by simp [bne, hqb]
      have HN' := hide (unhide HN none (Or.inl ⟨hq0, rfl⟩))
      clear hq0
      go_wp2
      refine bodyPost_ret (v := .tuple #[.agg #[.int .i64 0, .int .i64 0], .bool false]) (by simp [results, Tryz.results53, go_sem, r0, r1]) rfl ⟨Or.inl ⟨0, 0, rfl, unhide HN'⟩, ?_⟩
      exact only_of_below (by repeat (first | with_reducible exact Below.refl _ _ | with_reducible exact hbac | refine bwS ?_ | refine bwA ?_ | refine Below.drew ?_ | refine below_draws ?_ _ | exact hbac | exact Below.refl _ _))

end Go.Proofs.YtbdggfpfpjijoaaGreat

