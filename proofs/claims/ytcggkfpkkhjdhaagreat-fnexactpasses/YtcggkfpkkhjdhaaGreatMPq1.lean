import Derived.Test.YtcggkfpkkhjdhaaGreatMPs2
import Derived.Test.YtcggkfpkkhjdhaaGreatFe1
import Derived.Test.YtcggkfpkkhjdhaaGreatMSpec14
import Derived.Test.YtcggkfpkkhjdhaaGreatMSpec9
import Derived.Test.YtcggkfpkkhjdhaaGreatMRo
import Derived.Test.YtcggkfpkkhjdhaaGreatMPlain2
import Derived.Test.YtcggkfpkkhjdhaaGreatMPm3
import Derived.Test.YtcggkfpkkhjdhaaGreatQ1
import Derived.Test.YtcggkfpkkhjdhaaGreatMKt35
set_option linter.unusedSimpArgs false
namespace Go.Proofs.YtcggkfpkkhjdhaaGreat
open Go.RowKit

/-! ### Where an axle is: the specification -/

theorem stRow_at0' {w : World} {base : Nat} {a : Option Addr} {m cap : Nat} {xs : List St} (h : StRow w base (.slice a m cap) xs) : StsAt 0 w a xs := by
  obtain ⟨a', cap', hv, _, hx⟩ := stRow_at (h.mono (Nat.zero_le _))
  simp at hv
  rw [hv.1]
  exact hx
theorem axle_fits {n : Nt} {t : Tr} (hF : TrainFits n t) {a : Int} (h1 : 1 ≤ a) (h2 : a ≤ t.long) : TrainFits n ⟨t.front, a, takeLen n a (behind n t.front) t.back⟩ := by
  obtain ⟨f1, f2, f3, f4⟩ := hF
  obtain ⟨b1, b2, b3, b4⟩ := back_ch.1 f4
  obtain ⟨k, k1, k2, k3, k4⟩ := takeLen_take n a t.back (behind n t.front)
  refine ⟨f1, ⟨h1, by dsimp only; omega⟩, ?_, back_ch.2 ⟨?_, ?_, ?_, ?_⟩⟩
  · dsimp only
    rw [k2, List.length_take]
    omega
  · dsimp only
    rw [k2]
    exact b1.take k
  · dsimp only
    rw [k2]
    exact fun x hx => b2 x (List.mem_of_mem_take hx)
  · dsimp only
    rw [k2]
    intro j hj
    rw [List.length_take] at hj
    rw [List.take_take, Nat.min_eq_left (by omega)]
    exact k3 j (by omega)
  · dsimp only
    rw [k2]
    rcases k4 with e | e
    · rw [e, List.take_length]
      omega
    · exact e
set_option maxRecDepth 100000 in
set_option maxHeartbeats 8000000 in
theorem l3axle_any (v : Value) (n : Nt) (ba : Option Addr) (bc : Nat) (t : Tr) (a : Int) (w : World) {L : Nat} (hv : NetAt L w v n) (hst : StsAt 0 w ba t.back) (hG : NetGood n) (hT : TrainFits n t) (ha : 0 ≤ a ∧ a ≤ t.long) :
    Calls Tryz.prog 30 #[v, .agg #[.int .i64 t.front.piece, .int .i64 t.front.at_, .int .i64 t.front.way, .int .i64 t.long, .slice ba t.back.length bc], .int .i64 a] w fun e w' => e = .returned (.agg #[.int .i64 (axleSp n t.front t.back a).piece, .int .i64 (axleSp n t.front t.back a).at_, .int .i64 (axleSp n t.front t.back a).way]) ∧ Below w.heap.size w w' := by
  have hvv := hv
  obtain ⟨x, c, ca, cc, rfl, hp, hj⟩ := hv
  have HV := hide hvv
  have HST := hide hst
  have HT := hide hT
  clear hvv hst hp hj hT
  by_cases h0 : a = 0
  · subst h0
    have HA : Hid (axleSp n t.front t.back 0 = t.front) := by unfold Hid axleSp; rw [if_pos rfl]
    go_enter Tryz.func30, Tryz.ntmps30
    go_wp2
    refine bodyPost_ret (v := .agg #[.int .i64 t.front.piece, .int .i64 t.front.at_, .int .i64 t.front.way]) (by simp [results, Tryz.results30, go_sem]) rfl ⟨by rw [unhide HA], bw0⟩
  · have HA : Hid (axleSp n t.front t.back a = tailOf n ⟨t.front, a, takeLen n a (behind n t.front) t.back⟩) := by unfold Hid axleSp; rw [if_neg h0]
    have hb0 : (a == 0) = false := by simpa using h0
    have HFA := hide (axle_fits (unhide HT) (show 1 ≤ a by omega) ha.2)
    go_enter Tryz.func30, Tryz.ntmps30
    go_wp2_with fail
    obtain ⟨W0, hW0⟩ : ∃ W0, ((w.alloc (.cells #[.slice x n.pieces.length ca, .slice c n.joints.length cc] 41)).alloc (.cells #[.int .i64 t.front.piece, .int .i64 t.front.at_, .int .i64 t.front.way, .int .i64 a, .slice ba t.back.length bc] 47)).alloc (.cells #[.int .i64 0, .int .i64 0, .int .i64 0] 44) = W0 := ⟨_, rfl⟩
    have hbW : Below w.heap.size w W0 := by rw [← hW0]; exact bw0
    have hx0 : Boxed W0 w.heap.size [.slice x n.pieces.length ca, .slice c n.joints.length cc] := by rw [← hW0]; exact ((boxed_alloc _ _ _).alloc _).alloc _
    have hx1 : Boxed W0 (w.heap.size + 1) [.int .i64 t.front.piece, .int .i64 t.front.at_, .int .i64 t.front.way, .int .i64 a, .slice ba t.back.length bc] := by rw [← hW0]; exact (boxedN _ _ _ (by simp)).alloc _
    have hx2 : Boxed W0 (w.heap.size + 1 + 1) [.int .i64 0, .int .i64 0, .int .i64 0] := by rw [← hW0]; exact boxedN _ _ _ (by simp)
    rw [hW0]
    clear hW0
    have HS : Hid (∀ wx, Below W0.heap.size W0 wx → (fun w' => w'.cell? ⟨w.heap.size, 0, none⟩ = some (.slice x n.pieces.length ca) ∧ w'.cell? ⟨w.heap.size, 1, none⟩ = some (.slice c n.joints.length cc) ∧ w'.cell? ⟨w.heap.size + 1, 0, none⟩ = some (.int .i64 t.front.piece) ∧ w'.cell? ⟨w.heap.size + 1, 1, none⟩ = some (.int .i64 t.front.at_) ∧ w'.cell? ⟨w.heap.size + 1, 2, none⟩ = some (.int .i64 t.front.way) ∧ w'.cell? ⟨w.heap.size + 1, 3, none⟩ = some (.int .i64 a) ∧ w'.cell? ⟨w.heap.size + 1, 4, none⟩ = some (.slice ba t.back.length bc)) wx) := fun wx hb =>
      ⟨(hx0.below hb).2.1 0 _ rfl, (hx0.below hb).2.1 1 _ rfl, (hx1.below hb).2.1 0 _ rfl, (hx1.below hb).2.1 1 _ rfl, (hx1.below hb).2.1 2 _ rfl, (hx1.below hb).2.1 3 _ rfl, (hx1.below hb).2.1 4 _ rfl⟩
    have hbD : Below W0.heap.size W0 W0.drew := bw0
    have HX2 := hide hx2
    have HX0 := hide hx0
    have HX1 := hide hx1
    clear hx0 hx1 hx2
    refine wp_region_held_drew (S := fun w' => w'.cell? ⟨w.heap.size, 0, none⟩ = some (.slice x n.pieces.length ca) ∧ w'.cell? ⟨w.heap.size, 1, none⟩ = some (.slice c n.joints.length cc) ∧ w'.cell? ⟨w.heap.size + 1, 0, none⟩ = some (.int .i64 t.front.piece) ∧ w'.cell? ⟨w.heap.size + 1, 1, none⟩ = some (.int .i64 t.front.at_) ∧ w'.cell? ⟨w.heap.size + 1, 2, none⟩ = some (.int .i64 t.front.way) ∧ w'.cell? ⟨w.heap.size + 1, 3, none⟩ = some (.int .i64 a) ∧ w'.cell? ⟨w.heap.size + 1, 4, none⟩ = some (.slice ba t.back.length bc)) (by kernel_rfl) ?_ (fun hHeld => ?_)
    · exact unhide HS _ hbD
    refine tkH 0 ?_
    refine tkH 1 ?_
    refine tkH 2 ?_
    refine wpAnyH_ready (rs := [3]) (by kernel_rfl) (by simp) ?_
    refine (AllReadyH.cons rfl (fun K hK => ?_) AllReadyH.nil)
    go_simp
    refine (l3trim_any _ _ n ⟨t.front, a, t.back⟩ _ ((unhide HV).below (below_then hbW hbD)) ⟨ba, bc, rfl, (unhide HST).below (below_then hbW hbD)⟩ hG (unhide HT).1 (backOk_steps (unhide HT).2.2.2) (by have := (unhide HT).2.2.1; dsimp only; omega)).mono ?_
    rintro e w4 ⟨ra, rc, rfl, hr4, hb4⟩
    dsimp only at hr4 ⊢
    have hb04 := below_then hbD hb4
    refine hK.out _ _ (unhide HS _ hb04) (fun hHeld => ?_)
    clear hK K
    (try simp only [Act.put, List.getElem_toArray, List.getElem_cons_zero, List.getElem_cons_succ, List.setIfInBounds_toArray, List.set_cons_zero, List.set_cons_succ])
    refine wpAnyH_ready (rs := [4]) (by kernel_rfl) (by simp) ?_
    refine (AllReadyH.cons rfl (fun K hK => ?_) AllReadyH.nil)
    go_simp
    refine (l2tail_any _ _ n ⟨t.front, a, takeLen n a (behind n t.front) t.back⟩ _ (L' := 0) ((unhide HV).below (below_then hbW hb04)) ⟨ra, rc, rfl, stRow_at0' hr4⟩ hG (unhide HFA)).mono ?_
    rintro e w5 ⟨rfl, hb5⟩
    rw [← unhide HA]
    have hb05 := below_then hb04 hb5
    refine hK.out _ _ (unhide HS _ hb05) (fun hHeld => ?_)
    clear hK K
    (try simp only [Act.put, List.getElem_toArray, List.getElem_cons_zero, List.getElem_cons_succ, List.setIfInBounds_toArray, List.set_cons_zero, List.set_cons_succ])
    have hx5 := (unhide HX2).below hb05
    have z0 := hx5.2.1 0 _ rfl
    have z1 := hx5.2.1 1 _ rfl
    have z2 := hx5.2.1 2 _ rfl
    have zf := hx5.2.2
    have zl := hx5.1
    have hbw5 := below_then hbW hb05
    obtain ⟨⟨ap, aa, ay⟩, hax⟩ : ∃ s, axleSp n t.front t.back a = s := ⟨_, rfl⟩
    rw [hax]
    dsimp only
    refine wpAnyH_ready (rs := [5]) (by kernel_rfl) (by simp) ?_
    refine (AllReadyH.cons rfl (fun K hK => ?_) AllReadyH.nil)
    go_simp
    have ho := ((only_setCell (S := fun k => k = w.heap.size + 1 + 1) w5 (p := ⟨w.heap.size + 1 + 1, 0, none⟩) rfl (.int .i64 ap)).trans (only_setCell (S := fun k => k = w.heap.size + 1 + 1) _ (p := ⟨w.heap.size + 1 + 1, 1, none⟩) rfl (.int .i64 aa))).trans (only_setCell (S := fun k => k = w.heap.size + 1 + 1) _ (p := ⟨w.heap.size + 1 + 1, 2, none⟩) rfl (.int .i64 ay))
    have hr6 := ((hx5.setAt (i := 0) (by simp) (.int .i64 ap)).setAt (i := 1) (by simp) (.int .i64 aa)).setAt (i := 2) (by simp) (.int .i64 ay)
    have g0 := ((unhide HX0).below hb05).onlyS ho (show ¬ w.heap.size = w.heap.size + 1 + 1 by omega)
    have g1 := ((unhide HX1).below hb05).onlyS ho (show ¬ w.heap.size + 1 = w.heap.size + 1 + 1 by omega)
    have hbw6 := hbw5.trans (ho.below hbw5.size (fun k hk (he : k = w.heap.size + 1 + 1) => by omega))
    refine hK.out _ _ ⟨g0.2.1 0 _ rfl, g0.2.1 1 _ rfl, g1.2.1 0 _ rfl, g1.2.1 1 _ rfl, g1.2.1 2 _ rfl, g1.2.1 3 _ rfl, g1.2.1 4 _ rfl⟩ (fun hHeld => ?_)
    clear hK K hHeld z0 z1 z2 zf zl hx5
    (try simp only [Act.put, List.getElem_toArray, List.getElem_cons_zero, List.getElem_cons_succ, List.setIfInBounds_toArray, List.set_cons_zero, List.set_cons_succ])
    have r0 := hr6.2.1 0 (.int .i64 ap) (by simp)
    have r1 := hr6.2.1 1 (.int .i64 aa) (by simp)
    have r2 := hr6.2.1 2 (.int .i64 ay) (by simp)
    clear g0 g1 ho hr6
    generalize ((w5.setCell ⟨w.heap.size + 1 + 1, 0, none⟩ (.int .i64 ap)).setCell ⟨w.heap.size + 1 + 1, 1, none⟩ (.int .i64 aa)).setCell ⟨w.heap.size + 1 + 1, 2, none⟩ (.int .i64 ay) = w6 at *
    refine wpAnyH_done (by kernel_rfl) ?_ _
    go_wp2_with fail
    refine bodyPost_ret (v := .agg #[.int .i64 ap, .int .i64 aa, .int .i64 ay]) (by simp [results, Tryz.results30, go_sem, r0, r1, r2]) rfl ⟨rfl, hbw6⟩
end Go.Proofs.YtcggkfpkkhjdhaaGreat

set_option linter.unusedSimpArgs false
namespace Go.Proofs.YtcggkfpkkhjdhaaGreat
open Go.RowKit

/-! ### What spec.Passes does, place by place -/

theorem goes_uc {n : Nt} (hG : NetGood n) {zs : List Int} {long F : Int} (hl : 0 < long) {m0 m : Mv} (h0 : MvOk n long F m0) (h : Goes n zs long F m0 m) : ∃ c us, UC n zs long m0.s m0.xs c us m.s m.xs ∧ (us.length : Int) = m.far - m0.far := by
  induction h with
  | start => exact ⟨0, [], .nil, by simp⟩
  | @step a b g hs ih =>
    obtain ⟨c, us, h1, h2⟩ := ih
    have ha := g.ok hG hl h0
    cases hs with
    | roll h3 h4 =>
      obtain ⟨g1, g2, g3, g4⟩ := roll_le hG ha.spot (show (0 : Int) ≤ F - a.far by omega)
      have g5 := g4 h4 (by omega)
      obtain ⟨_, o2, _, o4⟩ := ovN_roll (zs := zs) hG ha g5
      obtain ⟨c', h5⟩ := o2 _ _ _ _ h1
      have hb := behind_nonneg ha.spot
      refine ⟨c', _, h5, ?_⟩
      rw [List.length_append, o4]
      unfold unR
      dsimp only
      rw [List.length_take, down_len]
      omega
    | enter h3 h4 h5 h6 => exact ⟨c + 1, us, .enter h1 h4 h5 h6, h2⟩
/-- Where spec.Passes is, behind so many places. -/
structure PsSt (n : Nt) (zs : List Int) (t : Tr) (us : List (St × Int)) (s : Sp) (xs : List St) : Prop where
  uc : ∃ c, UC n zs t.long t.front t.back c us s xs
  fits : TrainFits n ⟨s, t.long, xs⟩
  some_ : us ≠ [] → SitsAll n zs t.front t.back
  sits : SitsAll n zs s xs ↔ SitsAll n zs t.front t.back
theorem PsSt.first {n : Nt} {zs : List Int} {t : Tr} (h : TrainFits n t) : PsSt n zs t [] t.front t.back := ⟨⟨0, .nil⟩, h, fun h => absurd rfl h, Iff.rfl⟩
theorem PsSt.stop {n : Nt} {zs : List Int} {t : Tr} (hN : NetRes n 0 0) {us : List (St × Int)} {s : Sp} {xs : List St} (h : PsSt n zs t us s xs) {m : Mv} {code joint : Int} (hr : RunIs n zs t.long 1 ⟨s, xs, 0, []⟩ m code joint) (hm : m.far = 0) {F : Int} (hF : (us.length : Int) < F) : WayIs n zs t F us := by
  have hG := netGood hN
  have hl := h.fits.2.1
  dsimp only at hl
  rcases hr with ⟨h1, h2, h3⟩ | ⟨h1, _⟩
  · obtain ⟨c, hc⟩ := h.uc
    obtain ⟨d, vs, g1, g2⟩ := goes_uc (long := t.long) hG (by omega) (fits_mv h.fits (by omega)) h2
    dsimp only at g1 g2
    have hv : vs = [] := List.length_eq_zero_iff.1 (by omega)
    subst hv
    have g3 := hc.trans g1
    rw [List.nil_append] at g3
    refine Or.inl ⟨h.sits.1 h1, _, _, _, g3, by omega, Or.inl ?_⟩
    rcases h3 with ⟨e, _⟩ | ⟨_, h4, i, r, h5, h6⟩
    · omega
    · refine ⟨h4, i, r, h5, ?_⟩
      rcases h6 with h6 | h6
      · exact Or.inl h6.1
      · exact Or.inr h6.2.1
  · have hn : ¬ SitsAll n zs t.front t.back := fun g => h1 (h.sits.2 g)
    refine Or.inr ⟨hn, ?_⟩
    cases us with
    | nil => rfl
    | cons u r => exact absurd (h.some_ (by simp)) hn
theorem PsSt.last {n : Nt} {zs : List Int} {t : Tr} {us : List (St × Int)} {s : Sp} {xs : List St} (h : PsSt n zs t us s xs) {F : Int} (hF : (us.length : Int) = F) : WayIs n zs t F us := by
  by_cases hs : SitsAll n zs t.front t.back
  · obtain ⟨c, hc⟩ := h.uc
    exact Or.inl ⟨hs, c, _, _, hc, by omega, Or.inr hF⟩
  · refine Or.inr ⟨hs, ?_⟩
    cases us with
    | nil => rfl
    | cons u r => exact absurd (h.some_ (by simp)) hs
theorem PsSt.next {n : Nt} {zs : List Int} {t : Tr} (hN : NetRes n 0 0) (hL : LiesFit n.joints zs) {us : List (St × Int)} {s : Sp} {xs : List St} (h : PsSt n zs t us s xs) {m : Mv} {code joint : Int} (hr : RunIs n zs t.long 1 ⟨s, xs, 0, []⟩ m code joint) (hm : m.far ≠ 0) : ∃ u, PsSt n zs t (u :: us) m.s m.xs := by
  have hG := netGood hN
  have hl := h.fits.2.1
  dsimp only at hl
  rcases hr with ⟨h1, h2, h3⟩ | ⟨_, rfl, _⟩
  · obtain ⟨c, hc⟩ := h.uc
    have hok := fits_mv (F := 1) h.fits (by omega)
    obtain ⟨d, vs, g1, g2⟩ := goes_uc (long := t.long) hG (by omega) hok h2
    have hf := (h2.ok hG (by omega) hok).farF
    have hf0 := (h2.ok hG (by omega) hok).far0
    dsimp only at g1 g2
    obtain ⟨u, rfl⟩ := List.length_eq_one_iff.1 (show vs.length = 1 by omega)
    have hT := h2.mvt hG (by omega) (MvT.of (t := ⟨s, t.long, xs⟩) ⟨⟨hN, h.fits⟩, hL, h1⟩ (show (0 : Int) ≤ 1 by omega))
    have hS := h.sits.1 h1
    exact ⟨u, ⟨_, hc.trans g1⟩, hT.fits hG hl, fun _ => hS, ⟨fun _ => hS, fun _ => (hT.sitsR hl hN hL).2.2⟩⟩
  · exact absurd rfl hm
/-- An axle has come to a post just when the way has. -/
theorem hit_iff {n : Nt} (hG : NetGood n) {zs : List Int} {t : Tr} (hT : TrainFits n t) {us : List (St × Int)} {s s' : Sp} {xs xs' : List St} {u : St × Int} (h : PsSt n zs t us s xs) (g : PsSt n zs t (u :: us) s' xs') {a : Int} (ha : 0 ≤ a ∧ a ≤ t.long) {p : Int × Int} (hp : PostOk n p) :
    (((axleSp n s' xs' a).piece = p.1 ∧ (axleSp n s' xs' a).at_ = p.2 ∧ ¬ ((axleSp n s xs a).piece = p.1 ∧ (axleSp n s xs a).at_ = p.2)) ↔ ∃ v, (u :: us ++ bu n t.front t.back)[a.toNat]? = some v ∧ AtU n p v) ∧ ∀ v, (u :: us ++ bu n t.front t.back)[a.toNat]? = some v → AtU n p v → (axleSp n s' xs' a).way = v.1.way := by
  have hs0 := hT.1
  have hx0 := (back_ch.1 hT.2.2.2).2.1
  obtain ⟨b, rfl⟩ : ∃ b : Nat, a = b := ⟨a.toNat, by omega⟩
  rw [Int.toNat_natCast]
  have key : ∀ {vs : List (St × Int)} {s : Sp} {xs : List St}, PsSt n zs t vs s xs → (((axleSp n s xs b).piece = p.1 ∧ (axleSp n s xs b).at_ = p.2) ↔ ∃ v, (vs ++ bu n t.front t.back)[b]? = some v ∧ AtU n p v) ∧ ∀ v, (vs ++ bu n t.front t.back)[b]? = some v → AtU n p v → (axleSp n s xs b).way = v.1.way := fun {vs s xs} h => by
    obtain ⟨c, hc⟩ := h.uc
    obtain ⟨_, rest, e, hb⟩ := hc.win hG hs0 hx0
    have hf := h.fits
    have hx := back_ch.1 hf.2.2.2
    have hen := hx.2.2.2
    dsimp only at hen
    have hlen : ((bu n s xs).length : Int) = behind n s + sumLen n xs := by
      have h1 := behind_nonneg hf.1
      have h2 := fl_len hG hx.2.1
      rw [bu_eq, List.length_append, down_len]
      dsimp only at h1 h2
      omega
    obtain ⟨k1, k2⟩ := axle_at hG hf.1 hx.2.1 (a := b) (by dsimp only; omega) hp
    dsimp only at k1 k2
    rw [e]
    have hget : ∀ v, (bu n s xs ++ rest)[b]? = some v → AtU n p v → (bu n s xs)[b]? = some v := fun v hv hat => by
      by_cases hlt : b < (bu n s xs).length
      · rw [List.getElem?_append_left hlt] at hv
        exact hv
      · rw [List.getElem?_append_right (by omega), show b - (bu n s xs).length = 0 by omega] at hv
        cases rest with
        | nil => simp at hv
        | cons q r =>
          simp at hv
          subst hv
          have h1 := hb _ _ rfl
          have h3 := beh_in hp q.1.way
          rw [hat.1, ← h1, hat.2] at h3
          omega
    have hget' : ∀ v, (bu n s xs)[b]? = some v → (bu n s xs ++ rest)[b]? = some v := fun v hv => by
      obtain ⟨hlt, _⟩ := List.getElem?_eq_some_iff.1 hv
      rw [List.getElem?_append_left hlt]
      exact hv
    exact ⟨k1.trans ⟨fun ⟨v, h1, h2⟩ => ⟨v, hget' v h1, h2⟩, fun ⟨v, h1, h2⟩ => ⟨v, hget v h1 h2, h2⟩⟩, fun v h1 h2 => k2 v (hget v h1 h2) h2⟩
  obtain ⟨y1, y2⟩ := key g
  obtain ⟨x1, _⟩ := key h
  refine ⟨⟨fun ⟨h1, h2, _⟩ => y1.1 ⟨h1, h2⟩, fun hv => ?_⟩, y2⟩
  obtain ⟨h1, h2⟩ := y1.2 hv
  refine ⟨h1, h2, fun hx => ?_⟩
  obtain ⟨v, hv1, hv2⟩ := hv
  obtain ⟨v', hw1, hw2⟩ := x1.1 hx
  obtain ⟨c, hc⟩ := g.uc
  obtain ⟨hn, _⟩ := hc.win hG hs0 hx0
  exact not_twice hn hv1 (show (u :: us ++ bu n t.front t.back)[b + 1]? = some v' by simpa using hw1) hp hv2 hw2
/-- Whether an axle that was at x, and is at y, has come to a post. -/
def Came (x y : Sp) (p : Int × Int) : Prop := y.piece = p.1 ∧ y.at_ = p.2 ∧ ¬ (x.piece = p.1 ∧ x.at_ = p.2)
instance (x y : Sp) (p : Int × Int) : Decidable (Came x y p) := by unfold Came; infer_instance
theorem fm_congr {α β : Type} {f g : α → Option β} : ∀ {l : List α}, (∀ x ∈ l, f x = g x) → l.filterMap f = l.filterMap g
  | [], _ => rfl
  | x :: r, h => by rw [List.filterMap_cons, List.filterMap_cons, h x List.mem_cons_self, fm_congr fun y hy => h y (List.mem_cons_of_mem _ hy)]
/-- What is told of one axle over the first posts. -/
def toldTo (qs : List (Int × Int)) (k : Int) (x y : Sp) (j : Nat) : List (Int × Int × Int) := (qs.zipIdx.take j).filterMap fun (p, i) => if Came x y p then some (k, (i : Int), y.way) else none
theorem toldTo_zero (qs : List (Int × Int)) (k : Int) (x y : Sp) : toldTo qs k x y 0 = [] := rfl
theorem toldTo_succ (qs : List (Int × Int)) (k : Int) (x y : Sp) (j : Nat) (h : j < qs.length) : toldTo qs k x y (j + 1) = toldTo qs k x y j ++ (if Came x y qs[j] then [(k, (j : Int), y.way)] else []) := by
  unfold toldTo
  rw [List.take_succ_eq_append_getElem (by simpa using h), List.filterMap_append]
  congr 1
  simp only [List.getElem_zipIdx, List.filterMap_cons, List.filterMap_nil]
  split <;> rename_i h1 <;> split at h1 <;> simp_all
theorem told_hits {n : Nt} (hG : NetGood n) {zs : List Int} {t : Tr} (hT : TrainFits n t) {us : List (St × Int)} {s s' : Sp} {xs xs' : List St} {u : St × Int} (h : PsSt n zs t us s xs) (g : PsSt n zs t (u :: us) s' xs') {a : Int} (ha : 0 ≤ a ∧ a ≤ t.long) {qs : List (Int × Int)} (hq : ∀ p ∈ qs, PostOk n p) (k : Int) :
    toldTo qs k (axleSp n s xs a) (axleSp n s' xs' a) qs.length = hitsAt n qs k ((u :: us ++ bu n t.front t.back)[a.toNat]?) := by
  unfold toldTo
  rw [List.take_of_length_le (by simp)]
  have hz : ∀ x ∈ qs.zipIdx, PostOk n x.1 := fun x hx => hq _ (by
    obtain ⟨p, i⟩ := x
    exact (List.mem_zipIdx hx).2.2 ▸ List.getElem_mem _)
  cases ho : (u :: us ++ bu n t.front t.back)[a.toNat]? with
  | none =>
    unfold hitsAt
    dsimp only
    rw [List.filterMap_eq_nil_iff]
    rintro ⟨p, i⟩ hx
    obtain ⟨k1, _⟩ := hit_iff hG hT h g ha (hz _ hx)
    rw [ho] at k1
    dsimp only
    rw [if_neg]
    exact fun hc => by obtain ⟨v, hv, _⟩ := k1.1 hc; cases hv
  | some v =>
    unfold hitsAt
    dsimp only
    refine fm_congr ?_
    rintro ⟨p, i⟩ hx
    obtain ⟨k1, k2⟩ := hit_iff hG hT h g ha (hz _ hx)
    dsimp only
    by_cases hat : AtU n p v
    · rw [if_pos hat, if_pos (show Came _ _ p from k1.2 ⟨v, ho, hat⟩), k2 v ho hat]
    · rw [if_neg hat, if_neg]
      exact fun hc => by
        obtain ⟨v', hv, hat'⟩ := k1.1 hc
        rw [ho] at hv
        cases hv
        exact hat hat'
/-- What is told of the first axles. -/
def axTo (n : Nt) (qs : List (Int × Int)) (k : Int) (s s' : Sp) (xs xs' : List St) (ax : List Int) (i : Nat) : List (Int × Int × Int) := (ax.take i).flatMap fun a => toldTo qs k (axleSp n s xs a) (axleSp n s' xs' a) qs.length
theorem axTo_zero (n : Nt) (qs : List (Int × Int)) (k : Int) (s s' : Sp) (xs xs' : List St) (ax : List Int) : axTo n qs k s s' xs xs' ax 0 = [] := rfl
theorem axTo_succ (n : Nt) (qs : List (Int × Int)) (k : Int) (s s' : Sp) (xs xs' : List St) (ax : List Int) (i : Nat) (h : i < ax.length) : axTo n qs k s s' xs xs' ax (i + 1) = axTo n qs k s s' xs xs' ax i ++ toldTo qs k (axleSp n s xs ax[i]) (axleSp n s' xs' ax[i]) qs.length := by
  unfold axTo
  rw [List.take_succ_eq_append_getElem h, List.flatMap_append]
  simp
theorem ax_out {n : Nt} (hG : NetGood n) {zs : List Int} {t : Tr} (hT : TrainFits n t) {us : List (St × Int)} {s s' : Sp} {xs xs' : List St} {u : St × Int} (h : PsSt n zs t us s xs) (g : PsSt n zs t (u :: us) s' xs') {ax : List Int} (ha : ∀ a ∈ ax, 0 ≤ a ∧ a ≤ t.long) {qs : List (Int × Int)} (hq : ∀ p ∈ qs, PostOk n p) {k : Int} (hk : k = (us.length : Int) + 1) :
    outS n qs ax (bu n t.front t.back) us ++ axTo n qs k s s' xs xs' ax ax.length = outS n qs ax (bu n t.front t.back) (u :: us) := by
  subst hk
  unfold axTo
  rw [List.take_length]
  simp only [outS]
  congr 1
  rw [List.flatMap_def, List.flatMap_def, List.map_congr_left (fun a h' => told_hits hG hT h g (ha a h') hq _)]
end Go.Proofs.YtcggkfpkkhjdhaaGreat

