import Derived.Test.YtcmakcnkiekalabKt12
namespace Go.Proofs.Ytcmakcnkiekalab
open Go.RowKit

theorem backOk_spare {n : Nt} (hG : NetGood n) {long : Int} : ∀ {h : Int} {ah : St} {xs : List St}, h - long ≤ 10000000 → BackOk n long h ah xs → 0 ≤ h - long + sumLen n xs ∧ h - long + sumLen n xs ≤ 10000000 := by
  intro h ah xs
  induction xs generalizing h ah with
  | nil =>
    intro h1 hb
    simp only [BackOk] at hb
    simp only [sumLen_nil]
    omega
  | cons y r ih =>
    intro h1 hb
    simp only [BackOk] at hb
    obtain ⟨hy, hlt, _, hr⟩ := hb
    have hl := hG.len hy.1.1 hy.1.2
    rw [sumLen_cons]
    have := ih (h := h + lenOf n y.piece) (by omega) hr
    omega

theorem fits_spare {n : Nt} (hG : NetGood n) {t : Tr} (h : TrainFits n t) : 0 ≤ spare n t ∧ spare n t ≤ 10000000 := by
  obtain ⟨hS, hl, _, hb⟩ := h
  have hlen := hG.len hS.1.1 hS.1.2
  have hbeh : 0 ≤ behind n t.front ∧ behind n t.front ≤ 10000000 := by
    have h3 := hS.2.2
    unfold behind room
    split <;> omega
  exact backOk_spare hG (by omega) hb

set_option maxRecDepth 100000 in
set_option maxHeartbeats 4000000 in
theorem implTail_any (v : Value) (n : Nt) (t : Tr) (ba : Option Addr) (bc : Nat) (w : World) {L : Nat} (hv : NetAt L w v n) (hst : StsAt 0 w ba t.back) (hcap : t.back.length ≤ bc) (hbl : t.back.length ≤ 1048576)
    (hl : n.pieces.length ≤ 1048576) (hl' : n.joints.length ≤ 1048576) (hle : ∀ i (h : i < n.joints.length), n.joints[i].name.size ≤ maxLen) (hnm : ∀ i (h : i < n.pieces.length), n.pieces[i].name.size ≤ maxLen) :
    Calls Try.prog 14 #[v, .agg #[.int .i64 t.front.piece, .int .i64 t.front.at_, .int .i64 t.front.way, .int .i64 t.long, .slice ba t.back.length bc]] w fun e w' => RetSp (TrainRight n t) (tailOf n t) e ∧ Below w.heap.size w w' := by
  have hvv := hv
  obtain ⟨a, c, ca, cc, rfl, hp, hj⟩ := hv
  have hzs : Try.zeroCells98.size = 412 := by rw [zero_cells, bodyL_size]
  have HZS := hide hzs
  clear hzs
  go_enter Try.func14, Try.ntmps14
  go_wp2_with fail
  refine (bodyOn_any _ n t ba bc _ (L := L) ?hA ?hB hcap hbl hl hl' hle hnm).mono ?_
  case hA => exact hvv.below (by repeat (first | with_reducible exact Below.refl _ _ | refine Below.setCell ?_ (by first | omega | (simp <;> omega) | (simp [World.setCell] <;> omega)) _ | refine Below.alloc ?_ (by first | omega | (simp <;> omega) | (simp [World.setCell] <;> omega)) _ | refine Below.drew ?_ | refine below_draws ?_ _ | exact Below.refl _ _))
  case hB => exact hst.below (by repeat (first | with_reducible exact Below.refl _ _ | refine Below.setCell ?_ (by first | omega | (simp <;> omega) | (simp [World.setCell] <;> omega)) _ | refine Below.alloc ?_ (by first | omega | (simp <;> omega) | (simp [World.setCell] <;> omega)) _ | refine Below.drew ?_ | refine below_draws ?_ _ | exact Below.refl _ _))
  rintro e w1 ⟨⟨hR, k0, k1, k2, htk, ⟨o0, o1, o2⟩, rfl⟩ | ⟨hR, rfl⟩, hb1⟩
  · have hbw1 : Below w.heap.size w w1 := below_then (by repeat (first | with_reducible exact Below.refl _ _ | refine Below.setCell ?_ (by first | omega | (simp <;> omega) | (simp [World.setCell] <;> omega)) _ | refine Below.alloc ?_ (by first | omega | (simp <;> omega) | (simp [World.setCell] <;> omega)) _ | refine Below.drew ?_ | refine below_draws ?_ _ | exact Below.refl _ _)) hb1
    have hr1 : Boxed w1 (w.heap.size + 1 + 1) [.int .i64 0, .int .i64 0, .int .i64 0] := (boxedN _ _ _ (by simp)).below hb1
    have hst5 := store_new w1 _ (unhide HZS) _ (bodyL_len k0 k1 k2 t.front t.long (spare n t) t.back) (bodyL_one _ _ _ _ o0 o1 o2)
    have hlB := bodyL_len k0 k1 k2 t.front t.long (spare n t) t.back
    have hA : Below w1.heap.size w1 (w1.alloc (.cells (bodyL k0 k1 k2 t.front t.long (spare n t) t.back).toArray 98)) := (by repeat (first | with_reducible exact Below.refl _ _ | refine Below.setCell ?_ (by first | omega | (simp <;> omega) | (simp [World.setCell] <;> omega)) _ | refine Below.alloc ?_ (by first | omega | (simp <;> omega) | (simp [World.setCell] <;> omega)) _ | refine Below.drew ?_ | refine below_draws ?_ _ | exact Below.refl _ _))
    have hown := own_new w1 k0 k1 k2 t.front t.long (spare n t) t.back 98
    obtain ⟨ka, kca, ksh, kcsh, kst, kcst, hkv, hpk, _, _⟩ := htk
    simp at hkv
    obtain ⟨rfl, rfl, rfl⟩ := hkv
    have hG := netGood hR.1
    have hspare := fits_spare hG hR.2
    have hlast : StepOk n (lastOf ⟨t.front.piece, t.front.way⟩ t.back) := lastOf_ok ⟨hR.2.1.1, hR.2.1.2.1⟩ (backOk_steps hR.2.2.2.2)
    have hlen := hG.len hlast.1.1 hlast.1.2
    have h200 := hR.2.2.2.1
    have HR := hide hR
    have HOWN := hide hown
    clear hR o0 o1 o2 hown
    unfold bodyV
    go_wp2_with fail
    refine (tail_any w1.heap.size n ka kca _ _ t.front t.long (spare n t) t.back _ (unhide HOWN) (hpk.below hA) h200 hlast hlen.2 (by omega) (by omega)).mono ?_
    rintro e w2 ⟨rfl, hb2⟩
    have hbw2 := below_then (below_then hbw1 hA) hb2
    have hr2 := (hr1.below hA).below hb2
    have r0 := hr2.2.1 0 _ rfl
    have r1 := hr2.2.1 1 _ rfl
    have r2 := hr2.2.1 2 _ rfl
    have rz := hr2.2.2
    have rl := hr2.1
    have hsz2 := hbw2.size
    have HT : Hid (Ending.returned (.agg #[.int .i64 (lastOf ⟨t.front.piece, t.front.way⟩ t.back).piece, .int .i64 (if (lastOf ⟨t.front.piece, t.front.way⟩ t.back).way = -1 then lenOf n (lastOf ⟨t.front.piece, t.front.way⟩ t.back).piece - spare n t else spare n t), .int .i64 (lastOf ⟨t.front.piece, t.front.way⟩ t.back).way]) = .returned (.agg #[.int .i64 (tailOf n t).piece, .int .i64 (tailOf n t).at_, .int .i64 (tailOf n t).way])) := rfl
    generalize (if (lastOf ⟨t.front.piece, t.front.way⟩ t.back).way = -1 then lenOf n (lastOf ⟨t.front.piece, t.front.way⟩ t.back).piece - spare n t else spare n t) = at' at *
    generalize lastOf ⟨t.front.piece, t.front.way⟩ t.back = last at *
    go_wp2
    exact bodyPost_ret (v := .agg #[.int .i64 last.piece, .int .i64 at', .int .i64 last.way]) (by simp [results, Try.results14, go_sem, r0, r1, r2]) rfl ⟨Or.inl ⟨unhide HR, unhide HT⟩, (by repeat (first | with_reducible exact Below.refl _ _ | with_reducible exact hbw2 | refine Below.setCell ?_ (by first | omega | (simp <;> omega) | (simp [World.setCell] <;> omega)) _ | refine Below.alloc ?_ (by first | omega | (simp <;> omega) | (simp [World.setCell] <;> omega)) _ | refine Below.drew ?_ | refine below_draws ?_ _ | exact hbw2 | exact Below.refl _ _))⟩
  · have hbw1 : Below w.heap.size w w1 := below_then (by repeat (first | with_reducible exact Below.refl _ _ | refine Below.setCell ?_ (by first | omega | (simp <;> omega) | (simp [World.setCell] <;> omega)) _ | refine Below.alloc ?_ (by first | omega | (simp <;> omega) | (simp [World.setCell] <;> omega)) _ | refine Below.drew ?_ | refine below_draws ?_ _ | exact Below.refl _ _)) hb1
    have hr1 : Boxed w1 (w.heap.size + 1 + 1) [.int .i64 0, .int .i64 0, .int .i64 0] := (boxedN _ _ _ (by simp)).below hb1
    have hst5 := store_new w1 _ (unhide HZS) _ (bodyL_len (.slice none 0 0) (.slice none 0 0) (.slice none 0 0) ⟨0, 0, 0⟩ 0 0 []) (bodyL_one _ _ _ _ rfl rfl rfl)
    have hlB := bodyL_len (.slice none 0 0) (.slice none 0 0) (.slice none 0 0) ⟨0, 0, 0⟩ 0 0 []
    have hA : Below w1.heap.size w1 (w1.alloc (.cells (bodyL (.slice none 0 0) (.slice none 0 0) (.slice none 0 0) ⟨0, 0, 0⟩ 0 0 []).toArray 98)) := (by repeat (first | with_reducible exact Below.refl _ _ | refine Below.setCell ?_ (by first | omega | (simp <;> omega) | (simp [World.setCell] <;> omega)) _ | refine Below.alloc ?_ (by first | omega | (simp <;> omega) | (simp [World.setCell] <;> omega)) _ | refine Below.drew ?_ | refine below_draws ?_ _ | exact Below.refl _ _))
    have hr2 := hr1.below hA
    have r0 := hr1.2.1 0 _ rfl
    have r1 := hr1.2.1 1 _ rfl
    have r2 := hr1.2.1 2 _ rfl
    have rz := hr1.2.2
    have rl := hr1.1
    have hbw2 := below_then hbw1 hA
    have hsz2 := hbw2.size
    have HR := hide hR
    clear hR
    unfold zeroBody bodyV
    go_wp2
    exact bodyPost_ret (v := .agg #[.int .i64 0, .int .i64 0, .int .i64 0]) (by simp [results, Try.results14, go_sem, r0, r1, r2, rl]) rfl ⟨Or.inr ⟨unhide HR, rfl⟩, (by repeat (first | with_reducible exact Below.refl _ _ | with_reducible exact hbw1 | refine Below.setCell ?_ (by first | omega | (simp <;> omega) | (simp [World.setCell] <;> omega)) _ | refine Below.alloc ?_ (by first | omega | (simp <;> omega) | (simp [World.setCell] <;> omega)) _ | refine Below.drew ?_ | refine below_draws ?_ _ | exact hbw1 | exact Below.refl _ _))⟩

end Go.Proofs.Ytcmakcnkiekalab
