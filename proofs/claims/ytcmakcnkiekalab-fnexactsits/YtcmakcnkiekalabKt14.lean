import Derived.Test.YtcmakcnkiekalabKt13
import Derived.Test.YtcmakcnkiekalabLies2
namespace Go.Proofs.Ytcmakcnkiekalab
open Go.RowKit

/-- From a step one comes to the one ahead of it, as switches lie. -/
def LeadsBy (n : Nt) (zs : List Int) (x ah : St) : Prop := ∃ i k, ∃ hz : i < zs.length, StandsAt n.joints (hd x.piece x.way) i k ∧ Leads n x ah zs[i]
def SitsAll (n : Nt) (zs : List Int) (s : Sp) (xs : List St) : Prop := ∀ j, j < xs.length → LeadsBy n zs (stepOf s xs (j + 1)) (stepOf s xs j)

theorem leadsBy_iff {n : Nt} (hG : NetGood n) {zs : List Int} {x ah : St} (hx : StepOk n x) {i k : Nat} (hst : StandsAt n.joints (hd x.piece x.way) i k) (hz : i < zs.length) : LeadsBy n zs x ah ↔ Leads n x ah zs[i] := by
  constructor
  · rintro ⟨i', k', hz', hst', hl⟩
    obtain ⟨rfl, rfl⟩ := stands_unique (hG.hd hx.1.1 hx.1.2 x.way) hst hst'
    exact hl
  · exact fun h => ⟨i, k, hz, hst, h⟩

theorem stepOf_ok {n : Nt} {s : Sp} {xs : List St} (hs : StepOk n ⟨s.piece, s.way⟩) (hx : ∀ x ∈ xs, StepOk n x) {j : Nat} (hj : j ≤ xs.length) : StepOk n (stepOf s xs j) := by
  unfold stepOf
  split
  · exact hs
  · have h1 : j - 1 < xs.length := by omega
    have h2 : xs.getD (j - 1) ⟨0, 0⟩ = xs[j - 1] := by simp [List.getD, List.getElem?_eq_getElem h1]
    rw [h2]
    exact hx _ (List.getElem_mem h1)

set_option maxRecDepth 100000 in
set_option maxHeartbeats 4000000 in
theorem bsits_any (B : Nat) (n : Nt) (ka ksh kst : Option Addr) (kca kcsh kcst : Nat) (s : Sp) (long sp : Int) (xs : List St) (zq : Option Addr) (zs : List Int) (zc : Nat) (w : World) {L' : Nat}
    (h : OwnC w B 0 412 (bodyF (.slice ka n.pieces.length kca) (.slice ksh n.joints.length kcsh) (.slice kst n.pieces.length kcst) s long sp xs)) (hk : TrkAt 0 w (.agg #[.slice ka n.pieces.length kca, .slice ksh n.joints.length kcsh, .slice kst n.pieces.length kcst]) n) (hG : NetGood n)
    (hx : xs.length ≤ 200) (hs : StepOk n ⟨s.piece, s.way⟩) (hxs : ∀ x ∈ xs, StepOk n x) (hz : IntsAt L' w zq zs) (hzl : zs.length = n.joints.length) :
    Calls Try.prog 62 #[.pointer (some ⟨B, 0, none⟩), .slice zq zs.length zc] w fun e w' => RetB (SitsAll n zs s xs) e ∧ Below w.heap.size w w' := by
  have hB := h.1
  have c411 : w.cell? ⟨B, 411, none⟩ = some (.int .i64 xs.length) := by simpa [bodyF] using (h.2 411 (by omega)).1
  have H := hide h
  have HXS := hide hxs
  have HS := hide hs
  have HZL := hide hzl
  clear h hxs hs hzl
  go_enter Try.func62, Try.ntmps62
  go_wp2_with fail
  go_loopw [13] (fun x wr => ∃ k : Nat, k ≤ xs.length ∧ x = .int .i64 k ∧ (∀ j, j < k → LeadsBy n zs (stepOf s xs (j + 1)) (stepOf s xs j)) ∧ Below w.heap.size w wr) (fun x _ => xs.length - (intOf x).toNat)
  case atStart => exact ⟨0, Nat.zero_le _, rfl, fun j h => by omega, Below.refl _ _⟩
  case round =>
    obtain ⟨k, hk', rfl, hall, hb⟩ := hrel
    have HALL := hide hall
    clear hall c411
    by_cases hlt : k < xs.length
    · have hownr := (unhide H).below hb
      have HO := hide hownr
      clear hownr
      go_wp2_with fail
      refine (stepAt_any B k _ _ _ s long sp xs _ (unhide HO) (by omega)).mono ?_
      rintro e w1 ⟨rfl, hb1⟩
      go_wp2_with fail
      refine (stepAt_any B (k + 1) _ _ _ s long sp xs _ ((unhide HO).below hb1) (by omega)).mono ?_
      rintro e w2 ⟨rfl, hb2⟩
      have hb2' := below_then hb1 hb2
      have hok := stepOf_ok (unhide HS) (unhide HXS) (j := k + 1) (by omega)
      have hok0 := stepOf_ok (unhide HS) (unhide HXS) (j := k) (by omega)
      obtain ⟨i, kk, hst⟩ := stands_some (hG.hd hok.1.1 hok.1.2 (stepOf s xs (k + 1)).way)
      have hil : i < zs.length := by rw [unhide HZL]; exact hst.1
      have hiff := leadsBy_iff hG (ah := stepOf s xs k) hok hst hil
      have hbw2 := below_then hb hb2'
      have hkw := hk.below hbw2
      have hBw2 : B < w2.heap.size := Nat.lt_of_lt_of_le hB hbw2.size
      have hBw3 : B < w2.heap.size + 1 + 1 := by omega
      have hBw4 : B < w2.heap.size + 1 := by omega
      have hown2 := (unhide H).below hbw2
      have d3 : w2.cell? ⟨B, 3, none⟩ = some (.slice ka n.pieces.length kca) := by simpa [bodyF] using (hown2.2 3 (by omega)).1
      have d4 : w2.cell? ⟨B, 4, none⟩ = some (.slice ksh n.joints.length kcsh) := by simpa [bodyF] using (hown2.2 4 (by omega)).1
      have d5 : w2.cell? ⟨B, 5, none⟩ = some (.slice kst n.pieces.length kcst) := by simpa [bodyF] using (hown2.2 5 (by omega)).1
      obtain ⟨zb, zoff, rfl, hzb, z0⟩ := hz.below hbw2 i hil
      have hzb1 := hzb.2
      have hzb2 : zb < w2.heap.size + 1 := by omega
      have hzb3 : zb < w2.heap.size + 1 + 1 := by omega
      have hii : (i : Int) < (zs.length : Int) := by omega
      have HOK := hide hok
      have HOK0 := hide hok0
      have HST := hide hst
      have HIFF := hide hiff
      obtain ⟨x1, hx1⟩ : ∃ x1, stepOf s xs (k + 1) = x1 := ⟨_, rfl⟩
      obtain ⟨x0, hx0⟩ : ∃ x0, stepOf s xs k = x0 := ⟨_, rfl⟩
      have HX1 := hide hx1
      have HX0 := hide hx0
      rw [hx1] at HOK HST HIFF
      rw [hx0] at HOK0 HIFF
      rw [hx1, hx0]
      obtain ⟨xp, xy⟩ := x1
      obtain ⟨ap, ay⟩ := x0
      generalize hzi : zs[i] = z at *
      clear hok hok0 hst hiff hown2 hx1 hx0 hzi
      dsimp only
      by_cases hL : Leads n ⟨xp, xy⟩ ⟨ap, ay⟩ z
      · have HL := hide hL
        clear hL
        go_wp2_with fail
        refine wp_region_grown (by kernel_rfl) (by kernel_rfl) (fun hgn hgc => ?_)
        repeat (go_big_quiet_step (first
          | (go_at_call 101; rename_i g; exact g.call (endAhead_v ⟨xp, xy⟩ _))
          | (go_at_call 100; rename_i g; exact g.call (jointAt_any _ n (hd xp xy) i kk _ (hkw.below (below_then (by repeat (first | with_reducible exact Below.refl _ _ | refine Below.setCell ?_ (by first | omega | (simp <;> omega) | (simp [World.setCell] <;> omega)) _ | refine Below.alloc ?_ (by first | omega | (simp <;> omega) | (simp [World.setCell] <;> omega)) _ | refine Below.drew ?_ | refine below_draws ?_ _ | exact Below.refl _ _)) g.below)) hG ((unhide HOK).fits xy) (unhide HST)))
          | (go_at_call 99; rename_i g; exact g.call (leads_T _ n ⟨xp, xy⟩ ⟨ap, ay⟩ z _ (hkw.below (below_then (by repeat (first | with_reducible exact Below.refl _ _ | refine Below.setCell ?_ (by first | omega | (simp <;> omega) | (simp [World.setCell] <;> omega)) _ | refine Below.alloc ?_ (by first | omega | (simp <;> omega) | (simp [World.setCell] <;> omega)) _ | refine Below.drew ?_ | refine below_draws ?_ _ | exact Below.refl _ _)) g.below)) hG (unhide HOK) (unhide HOK0) (unhide HL)))))
        refine wpQuiet_nil ?_
        intro wq hwq
        have hbq : Below w2.heap.size w2 wq := by obtain ⟨g, rfl⟩ := hwq; exact below_then (by repeat (first | with_reducible exact Below.refl _ _ | refine Below.setCell ?_ (by first | omega | (simp <;> omega) | (simp [World.setCell] <;> omega)) _ | refine Below.alloc ?_ (by first | omega | (simp <;> omega) | (simp [World.setCell] <;> omega)) _ | refine Below.drew ?_ | refine below_draws ?_ _ | exact Below.refl _ _)) g.below
        clear hwq hgc hgn
        go_wp2
        refine ⟨⟨k + 1, by omega, by go_num, fun j hj => ?_, below_then hbw2 hbq⟩, by simp [intOf]; omega⟩
        by_cases e : j = k
        · rw [e, unhide HX1, unhide HX0]
          exact (unhide HIFF).2 (unhide HL)
        · exact unhide HALL j (by omega)
      · have HL := hide hL
        clear hL
        go_wp2_with fail
        refine wp_region_grown (by kernel_rfl) (by kernel_rfl) (fun hgn hgc => ?_)
        repeat (go_big_quiet_step (first
          | (go_at_call 101; rename_i g; exact g.call (endAhead_v ⟨xp, xy⟩ _))
          | (go_at_call 100; rename_i g; exact g.call (jointAt_any _ n (hd xp xy) i kk _ (hkw.below (below_then (by repeat (first | with_reducible exact Below.refl _ _ | refine Below.setCell ?_ (by first | omega | (simp <;> omega) | (simp [World.setCell] <;> omega)) _ | refine Below.alloc ?_ (by first | omega | (simp <;> omega) | (simp [World.setCell] <;> omega)) _ | refine Below.drew ?_ | refine below_draws ?_ _ | exact Below.refl _ _)) g.below)) hG ((unhide HOK).fits xy) (unhide HST)))
          | (go_at_call 99; rename_i g; exact g.call (leads_F _ n ⟨xp, xy⟩ ⟨ap, ay⟩ z _ (hkw.below (below_then (by repeat (first | with_reducible exact Below.refl _ _ | refine Below.setCell ?_ (by first | omega | (simp <;> omega) | (simp [World.setCell] <;> omega)) _ | refine Below.alloc ?_ (by first | omega | (simp <;> omega) | (simp [World.setCell] <;> omega)) _ | refine Below.drew ?_ | refine below_draws ?_ _ | exact Below.refl _ _)) g.below)) hG (unhide HOK) (unhide HOK0) (unhide HL)))))
        refine wpQuiet_nil ?_
        intro wq hwq
        have hbq : Below w2.heap.size w2 wq := by obtain ⟨g, rfl⟩ := hwq; exact below_then (by repeat (first | with_reducible exact Below.refl _ _ | refine Below.setCell ?_ (by first | omega | (simp <;> omega) | (simp [World.setCell] <;> omega)) _ | refine Below.alloc ?_ (by first | omega | (simp <;> omega) | (simp [World.setCell] <;> omega)) _ | refine Below.drew ?_ | refine below_draws ?_ _ | exact Below.refl _ _)) g.below
        clear hwq hgc hgn
        go_wp2
        go_ret
        exact ⟨retB_false fun h => by
          have h1 := h k hlt
          rw [unhide HX1, unhide HX0] at h1
          exact unhide HL ((unhide HIFF).1 h1), below_then hbw2 hbq⟩
    · go_wp2
      go_ret
      exact ⟨retB_true fun j hj => unhide HALL j (by omega), hb⟩

end Go.Proofs.Ytcmakcnkiekalab
