import Derived.Test.YtbdggfpfpjijoabG21
import Derived.Test.YtbdggfpfpjijoabSpec9
namespace Go.Proofs.Ytbdggfpfpjijoab
open Go.RowKit

set_option maxRecDepth 100000 in
set_option maxHeartbeats 2000000 in
theorem ringAt_any (B i : Nat) (k0 k1 k2 : Value) (s : Sp) (long sp : Int) (xs : List St) (w : World) (h : OwnC w B 0 412 (bodyF k0 k1 k2 s long sp xs)) (hi : i < 201) :
    Calls Try.prog 82 #[.pointer (some ⟨B, 8, none⟩), .int .i64 i] w fun e w' => e = .returned (.agg #[.int .i64 (xs.getD i ⟨0, 0⟩).piece, .int .i64 (xs.getD i ⟨0, 0⟩).way]) ∧ Below w.heap.size w w' := by
  have hB := h.1
  have c0 : w.cell? ⟨B, 410, none⟩ = some (.int .i64 (0 : Nat)) := by simpa [bodyF] using (h.2 410 (by omega)).1
  have d0 := (h.2 (8 + i * 2) (by omega)).1
  have d1 := (h.2 (8 + i * 2 + 1) (by omega)).1
  rw [Nat.zero_add, (bodyF_ring k0 k1 k2 s long sp xs hi).1] at d0
  rw [Nat.zero_add, (bodyF_ring k0 k1 k2 s long sp xs hi).2] at d1
  have hm : (0 + i) % 201 = i := by omega
  have hix : (i : Int) < 201 := by omega
  have f1 : ¬ B = w.heap.size := by omega
  have f2 : ¬ w.heap.size = B := by omega
  have HC : Hid ((w.alloc (.cells #[.int .i64 0, .int .i64 0] 68)).drew.cell? ⟨B, 8 + 402, none⟩ = some (.int .i64 (0 : Nat))) := by
    unfold Hid
    rw [(Below.drew (Below.alloc (Below.refl w.heap.size w) (Nat.le_refl _) _)).cell hB]
    exact c0
  clear h
  generalize xs.getD i ⟨0, 0⟩ = x at *
  go_enter Try.func82, Try.ntmps82
  go_wp2_with fail
  go_region_held3 (fun w' => w'.cell? ⟨B, 8 + i * 2, none⟩ = some (.int .i64 x.piece) ∧ w'.cell? ⟨B, 8 + i * 2 + 1, none⟩ = some (.int .i64 x.way)) (((try dsimp only); (repeat' apply And.intro)) <;> (go_keep; done))
    (first
      | (go_at_call 100; refine (place_any B 8 0 i _ (unhide HC) (by omega) (by omega)).mono ?_; rintro e w1 ⟨rfl, rfl⟩; rw [hm]))
  go_wp2
  exact bodyPost_ret (v := .agg #[.int .i64 x.piece, .int .i64 x.way]) (by simp [results, Try.results82, go_sem]) rfl ⟨rfl, (by repeat (first | with_reducible exact Below.refl _ _ | refine Below.setCell ?_ (by first | omega | (simp <;> omega) | (simp [World.setCell] <;> omega)) _ | refine Below.alloc ?_ (by first | omega | (simp <;> omega) | (simp [World.setCell] <;> omega)) _ | refine Below.drew ?_ | refine below_draws ?_ _ | exact Below.refl _ _))⟩

/-- The steps of a body, the front's first. -/
def stepOf (s : Sp) (xs : List St) (i : Nat) : St := if i = 0 then ⟨s.piece, s.way⟩ else xs.getD (i - 1) ⟨0, 0⟩

set_option maxRecDepth 100000 in
set_option maxHeartbeats 2000000 in
theorem stepAt_any (B i : Nat) (k0 k1 k2 : Value) (s : Sp) (long sp : Int) (xs : List St) (w : World) (h : OwnC w B 0 412 (bodyF k0 k1 k2 s long sp xs)) (hi : i < 202) :
    Calls Try.prog 53 #[.pointer (some ⟨B, 0, none⟩), .int .i64 i] w fun e w' => e = .returned (.agg #[.int .i64 (stepOf s xs i).piece, .int .i64 (stepOf s xs i).way]) ∧ Below w.heap.size w w' := by
  have hB := h.1
  have c0 : w.cell? ⟨B, 0, none⟩ = some (.int .i64 s.piece) := by simpa [bodyF] using (h.2 0 (by omega)).1
  have c1 : w.cell? ⟨B, 1, none⟩ = some (.int .i64 s.at_) := by simpa [bodyF] using (h.2 1 (by omega)).1
  have c2 : w.cell? ⟨B, 2, none⟩ = some (.int .i64 s.way) := by simpa [bodyF] using (h.2 2 (by omega)).1
  have hB1 : B < w.heap.size + 1 := by omega
  rcases Nat.eq_zero_or_pos i with rfl | hpos
  · have HS : Hid (stepOf s xs 0 = ⟨s.piece, s.way⟩) := rfl
    clear h
    go_enter Try.func53, Try.ntmps53
    go_wp2_with fail
    refine (step_any s _).mono ?_
    rintro e w1 ⟨rfl, hb1⟩
    have hR : Boxed w1 w.heap.size [.int .i64 0, .int .i64 0] := (boxed_alloc _ _ _).below hb1
    have hbw : Below w.heap.size w w1 := below_then (by repeat (first | with_reducible exact Below.refl _ _ | refine Below.setCell ?_ (by first | omega | (simp <;> omega) | (simp [World.setCell] <;> omega)) _ | refine Below.alloc ?_ (by first | omega | (simp <;> omega) | (simp [World.setCell] <;> omega)) _ | refine Below.drew ?_ | refine below_draws ?_ _ | exact Below.refl _ _)) hb1
    have r0 := hR.2.1 0 _ rfl
    have r1 := hR.2.1 1 _ rfl
    have rz := hR.2.2
    have rl := hR.1
    go_wp2
    exact bodyPost_ret (v := .agg #[.int .i64 s.piece, .int .i64 s.way]) (by simp [results, Try.results53, go_sem, r0, r1]) rfl ⟨by rw [unhide HS], (by repeat (first | with_reducible exact Below.refl _ _ | with_reducible exact hbw | refine Below.setCell ?_ (by first | omega | (simp <;> omega) | (simp [World.setCell] <;> omega)) _ | refine Below.alloc ?_ (by first | omega | (simp <;> omega) | (simp [World.setCell] <;> omega)) _ | refine Below.drew ?_ | refine below_draws ?_ _ | exact hbw | exact Below.refl _ _))⟩
  · obtain ⟨j, rfl⟩ : ∃ j, i = j + 1 := ⟨i - 1, by omega⟩
    have hne : (((j + 1 : Nat) : Int) == 0) = false := by rw [beq_eq_false_iff_ne]; omega
    have HS : Hid (stepOf s xs (j + 1) = xs.getD j ⟨0, 0⟩) := by simp [stepOf, Hid]
    have H := hide h
    clear h
    go_enter Try.func53, Try.ntmps53
    go_wp2_with fail
    refine (ringAt_any B j k0 k1 k2 s long sp xs _ ((unhide H).below ?_) (by omega)).mono ?_
    · exact (by repeat (first | with_reducible exact Below.refl _ _ | refine Below.setCell ?_ (by first | omega | (simp <;> omega) | (simp [World.setCell] <;> omega)) _ | refine Below.alloc ?_ (by first | omega | (simp <;> omega) | (simp [World.setCell] <;> omega)) _ | refine Below.drew ?_ | refine below_draws ?_ _ | exact Below.refl _ _))
    rintro e w1 ⟨rfl, hb1⟩
    have hR : Boxed w1 w.heap.size [.int .i64 0, .int .i64 0] := (boxed_alloc _ _ _).below hb1
    have hbw : Below w.heap.size w w1 := below_then (by repeat (first | with_reducible exact Below.refl _ _ | refine Below.setCell ?_ (by first | omega | (simp <;> omega) | (simp [World.setCell] <;> omega)) _ | refine Below.alloc ?_ (by first | omega | (simp <;> omega) | (simp [World.setCell] <;> omega)) _ | refine Below.drew ?_ | refine below_draws ?_ _ | exact Below.refl _ _)) hb1
    have r0 := hR.2.1 0 _ rfl
    have r1 := hR.2.1 1 _ rfl
    have rz := hR.2.2
    have rl := hR.1
    generalize xs.getD j ⟨0, 0⟩ = y at *
    go_wp2
    exact bodyPost_ret (v := .agg #[.int .i64 y.piece, .int .i64 y.way]) (by simp [results, Try.results53, go_sem, r0, r1]) rfl ⟨by rw [unhide HS], (by repeat (first | with_reducible exact Below.refl _ _ | with_reducible exact hbw | refine Below.setCell ?_ (by first | omega | (simp <;> omega) | (simp [World.setCell] <;> omega)) _ | refine Below.alloc ?_ (by first | omega | (simp <;> omega) | (simp [World.setCell] <;> omega)) _ | refine Below.drew ?_ | refine below_draws ?_ _ | exact hbw | exact Below.refl _ _))⟩

theorem stepOf_last (s : Sp) (xs : List St) : stepOf s xs xs.length = lastOf ⟨s.piece, s.way⟩ xs := by
  rcases Nat.eq_zero_or_pos xs.length with h | h
  · have : xs = [] := List.eq_nil_of_length_eq_zero h
    subst this
    rfl
  · obtain ⟨j, hj⟩ : ∃ j, xs.length = j + 1 := ⟨xs.length - 1, by omega⟩
    have h1 := lastOf_take ⟨s.piece, s.way⟩ xs j (by omega)
    rw [List.take_of_length_le (by omega)] at h1
    have h2 : xs.getD j ⟨0, 0⟩ = xs[j] := by simp [List.getD, List.getElem?_eq_getElem (show j < xs.length by omega)]
    have h3 : stepOf s xs (j + 1) = xs.getD j ⟨0, 0⟩ := by simp [stepOf]
    rw [h1, ← h2, ← h3, ← hj]

set_option maxRecDepth 100000 in
set_option maxHeartbeats 2000000 in
theorem tail_any (B : Nat) (n : Nt) (ka : Option Addr) (kca : Nat) (k1 k2 : Value) (s : Sp) (long sp : Int) (xs : List St) (w : World) {L : Nat} (h : OwnC w B 0 412 (bodyF (.slice ka n.pieces.length kca) k1 k2 s long sp xs)) (hp : PcsAt L w ka n.pieces) (hx : xs.length ≤ 200)
    (hok : StepOk n (lastOf ⟨s.piece, s.way⟩ xs)) (hlen : lenOf n (lastOf ⟨s.piece, s.way⟩ xs).piece ≤ 10000000) (hlen0 : 0 ≤ lenOf n (lastOf ⟨s.piece, s.way⟩ xs).piece) (hsp : -100000 ≤ sp ∧ sp ≤ 10000000) :
    Calls Try.prog 31 #[.pointer (some ⟨B, 0, none⟩)] w fun e w' => e = .returned (.agg #[.int .i64 (lastOf ⟨s.piece, s.way⟩ xs).piece, .int .i64 (if (lastOf ⟨s.piece, s.way⟩ xs).way = -1 then lenOf n (lastOf ⟨s.piece, s.way⟩ xs).piece - sp else sp), .int .i64 (lastOf ⟨s.piece, s.way⟩ xs).way]) ∧ Below w.heap.size w w' := by
  have hB := h.1
  have hB1 : B < w.heap.size + 1 := by omega
  have c7 : w.cell? ⟨B, 7, none⟩ = some (.int .i64 sp) := by simpa [bodyF] using (h.2 7 (by omega)).1
  have c3 : w.cell? ⟨B, 3, none⟩ = some (.slice ka n.pieces.length kca) := by simpa [bodyF] using (h.2 3 (by omega)).1
  have c411 : w.cell? ⟨B, 411, none⟩ = some (.int .i64 xs.length) := by simpa [bodyF] using (h.2 411 (by omega)).1
  have H := hide h
  have hL := stepOf_last s xs
  have HL := hide hL
  clear h hL
  generalize lastOf ⟨s.piece, s.way⟩ xs = last at *
  obtain ⟨lp, ly⟩ := last
  obtain ⟨⟨h0, h1⟩, hy⟩ := hok
  dsimp only at h0 h1 hy hlen hlen0 ⊢
  obtain ⟨pn, rfl⟩ := Int.eq_ofNat_of_zero_le h0
  go_enter Try.func31, Try.ntmps31
  go_wp2_with fail
  refine (stepAt_any B xs.length _ _ _ s long sp xs _ ((unhide H).below ?_) (by omega)).mono ?_
  · exact (by repeat (first | with_reducible exact Below.refl _ _ | refine Below.setCell ?_ (by first | omega | (simp <;> omega) | (simp [World.setCell] <;> omega)) _ | refine Below.alloc ?_ (by first | omega | (simp <;> omega) | (simp [World.setCell] <;> omega)) _ | refine Below.drew ?_ | refine below_draws ?_ _ | exact Below.refl _ _))
  rintro e w1 ⟨rfl, hb1⟩
  rw [unhide HL]
  have hbw1 : Below w.heap.size w w1 := below_then (by repeat (first | with_reducible exact Below.refl _ _ | refine Below.setCell ?_ (by first | omega | (simp <;> omega) | (simp [World.setCell] <;> omega)) _ | refine Below.alloc ?_ (by first | omega | (simp <;> omega) | (simp [World.setCell] <;> omega)) _ | refine Below.drew ?_ | refine below_draws ?_ _ | exact Below.refl _ _)) hb1
  have hR : Boxed w1 w.heap.size [.int .i64 0, .int .i64 0, .int .i64 0] := (boxed_alloc _ _ _).below hb1
  have r0 := hR.2.1 0 _ rfl
  have r1 := hR.2.1 1 _ rfl
  have r2 := hR.2.1 2 _ rfl
  have rz := hR.2.2
  have rl := hR.1
  have d7 : w1.cell? ⟨B, 7, none⟩ = some (.int .i64 sp) := by rw [hbw1.cell hB]; exact c7
  have d3 : w1.cell? ⟨B, 3, none⟩ = some (.slice ka n.pieces.length kca) := by rw [hbw1.cell hB]; exact c3
  have hBw1 : B < w1.heap.size := Nat.lt_of_lt_of_le hB hbw1.size
  obtain ⟨pb, poff, rfl, hpb, c1⟩ := (hp.below hbw1).len h0 h1
  simp only [Int.toNat_natCast] at c1
  have hsz1 := hbw1.size
  rcases hy with rfl | rfl
  · go_wp2
    exact bodyPost_ret (v := .agg #[.int .i64 pn, .int .i64 sp, .int .i64 1]) (by simp [results, Try.results31, go_sem, r0, r1, r2, rl]) rfl ⟨by simp, (by repeat (first | with_reducible exact Below.refl _ _ | with_reducible exact hbw1 | refine Below.setCell ?_ (by first | omega | (simp <;> omega) | (simp [World.setCell] <;> omega)) _ | refine Below.alloc ?_ (by first | omega | (simp <;> omega) | (simp [World.setCell] <;> omega)) _ | refine Below.drew ?_ | refine below_draws ?_ _ | exact hbw1 | exact Below.refl _ _))⟩
  · have hwr := wrap_small (x := lenOf n pn - sp) (by omega) (by omega)
    go_wp2_with fail
    go_quiet (fail)
    go_wp2
    exact bodyPost_ret (v := .agg #[.int .i64 pn, .int .i64 (lenOf n pn - sp), .int .i64 (-1)]) (by simp [results, Try.results31, go_sem, r0, r1, r2, rl]) rfl ⟨by simp, (by repeat (first | with_reducible exact Below.refl _ _ | with_reducible exact hbw1 | refine Below.setCell ?_ (by first | omega | (simp <;> omega) | (simp [World.setCell] <;> omega)) _ | refine Below.alloc ?_ (by first | omega | (simp <;> omega) | (simp [World.setCell] <;> omega)) _ | refine Below.drew ?_ | refine below_draws ?_ _ | exact hbw1 | exact Below.refl _ _))⟩

end Go.Proofs.Ytbdggfpfpjijoab

namespace Go.Proofs.Ytbdggfpfpjijoab
open Go.RowKit

theorem backOk_spare {n : Nt} (hG : NetGood n) {long : Int} : ∀ {h : Int} {ah : St} {xs : List St}, h - long ≤ 10000000 → BackOk n long h ah xs → 0 ≤ h - long + sumLen n xs ∧ h - long + sumLen n xs ≤ 10000000 := by
  intro h ah xs
  induction xs generalizing h ah with
  | nil =>
    intro h1 hb
    simp only [BackOk] at hb
    simp only [sumLen_nil]
    omega
  | cons y r ih =>
    intro h1 hb
    simp only [BackOk] at hb
    obtain ⟨hy, hlt, _, hr⟩ := hb
    have hl := hG.len hy.1.1 hy.1.2
    rw [sumLen_cons]
    have := ih (h := h + lenOf n y.piece) (by omega) hr
    omega

theorem fits_spare {n : Nt} (hG : NetGood n) {t : Tr} (h : TrainFits n t) : 0 ≤ spare n t ∧ spare n t ≤ 10000000 := by
  obtain ⟨hS, hl, _, hb⟩ := h
  have hlen := hG.len hS.1.1 hS.1.2
  have hbeh : 0 ≤ behind n t.front ∧ behind n t.front ≤ 10000000 := by
    have h3 := hS.2.2
    unfold behind room
    split <;> omega
  exact backOk_spare hG (by omega) hb

set_option maxRecDepth 100000 in
set_option maxHeartbeats 4000000 in
theorem implTail_any (v : Value) (n : Nt) (t : Tr) (ba : Option Addr) (bc : Nat) (w : World) {L : Nat} (hv : NetAt L w v n) (hst : StsAt 0 w ba t.back) (hcap : t.back.length ≤ bc) (hbl : t.back.length ≤ 1048576)
    (hl : n.pieces.length ≤ 1048576) (hl' : n.joints.length ≤ 1048576) (hle : ∀ i (h : i < n.joints.length), n.joints[i].name.size ≤ maxLen) (hnm : ∀ i (h : i < n.pieces.length), n.pieces[i].name.size ≤ maxLen) :
    Calls Try.prog 11 #[v, .agg #[.int .i64 t.front.piece, .int .i64 t.front.at_, .int .i64 t.front.way, .int .i64 t.long, .slice ba t.back.length bc]] w fun e w' => RetSp (TrainRight n t) (tailOf n t) e ∧ Below w.heap.size w w' := by
  have hvv := hv
  obtain ⟨a, c, ca, cc, rfl, hp, hj⟩ := hv
  have hzs : Try.zeroCells73.size = 412 := by rw [zero_cells, bodyL_size]
  have HZS := hide hzs
  clear hzs
  go_enter Try.func11, Try.ntmps11
  go_wp2_with fail
  refine (bodyOn_any _ n t ba bc _ (L := L) ?hA ?hB hcap hbl hl hl' hle hnm).mono ?_
  case hA => exact hvv.below (by repeat (first | with_reducible exact Below.refl _ _ | refine Below.setCell ?_ (by first | omega | (simp <;> omega) | (simp [World.setCell] <;> omega)) _ | refine Below.alloc ?_ (by first | omega | (simp <;> omega) | (simp [World.setCell] <;> omega)) _ | refine Below.drew ?_ | refine below_draws ?_ _ | exact Below.refl _ _))
  case hB => exact hst.below (by repeat (first | with_reducible exact Below.refl _ _ | refine Below.setCell ?_ (by first | omega | (simp <;> omega) | (simp [World.setCell] <;> omega)) _ | refine Below.alloc ?_ (by first | omega | (simp <;> omega) | (simp [World.setCell] <;> omega)) _ | refine Below.drew ?_ | refine below_draws ?_ _ | exact Below.refl _ _))
  rintro e w1 ⟨⟨hR, k0, k1, k2, htk, ⟨o0, o1, o2⟩, rfl⟩ | ⟨hR, rfl⟩, hb1⟩
  · have hbw1 : Below w.heap.size w w1 := below_then (by repeat (first | with_reducible exact Below.refl _ _ | refine Below.setCell ?_ (by first | omega | (simp <;> omega) | (simp [World.setCell] <;> omega)) _ | refine Below.alloc ?_ (by first | omega | (simp <;> omega) | (simp [World.setCell] <;> omega)) _ | refine Below.drew ?_ | refine below_draws ?_ _ | exact Below.refl _ _)) hb1
    have hr1 : Boxed w1 (w.heap.size + 1 + 1) [.int .i64 0, .int .i64 0, .int .i64 0] := (boxedN _ _ _ (by simp)).below hb1
    have hst5 := store_new w1 _ (unhide HZS) _ (bodyL_len k0 k1 k2 t.front t.long (spare n t) t.back) (bodyL_one _ _ _ _ o0 o1 o2)
    have hlB := bodyL_len k0 k1 k2 t.front t.long (spare n t) t.back
    have hA : Below w1.heap.size w1 (w1.alloc (.cells (bodyL k0 k1 k2 t.front t.long (spare n t) t.back).toArray 73)) := (by repeat (first | with_reducible exact Below.refl _ _ | refine Below.setCell ?_ (by first | omega | (simp <;> omega) | (simp [World.setCell] <;> omega)) _ | refine Below.alloc ?_ (by first | omega | (simp <;> omega) | (simp [World.setCell] <;> omega)) _ | refine Below.drew ?_ | refine below_draws ?_ _ | exact Below.refl _ _))
    have hown := own_new w1 k0 k1 k2 t.front t.long (spare n t) t.back 73
    obtain ⟨ka, kca, ksh, kcsh, kst, kcst, hkv, hpk, _, _⟩ := htk
    simp at hkv
    obtain ⟨rfl, rfl, rfl⟩ := hkv
    have hG := netGood hR.1
    have hspare := fits_spare hG hR.2
    have hlast : StepOk n (lastOf ⟨t.front.piece, t.front.way⟩ t.back) := lastOf_ok ⟨hR.2.1.1, hR.2.1.2.1⟩ (backOk_steps hR.2.2.2.2)
    have hlen := hG.len hlast.1.1 hlast.1.2
    have h200 := hR.2.2.2.1
    have HR := hide hR
    have HOWN := hide hown
    clear hR o0 o1 o2 hown
    unfold bodyV
    go_wp2_with fail
    refine (tail_any w1.heap.size n ka kca _ _ t.front t.long (spare n t) t.back _ (unhide HOWN) (hpk.below hA) h200 hlast hlen.2 (by omega) (by omega)).mono ?_
    rintro e w2 ⟨rfl, hb2⟩
    have hbw2 := below_then (below_then hbw1 hA) hb2
    have hr2 := (hr1.below hA).below hb2
    have r0 := hr2.2.1 0 _ rfl
    have r1 := hr2.2.1 1 _ rfl
    have r2 := hr2.2.1 2 _ rfl
    have rz := hr2.2.2
    have rl := hr2.1
    have hsz2 := hbw2.size
    have HT : Hid (Ending.returned (.agg #[.int .i64 (lastOf ⟨t.front.piece, t.front.way⟩ t.back).piece, .int .i64 (if (lastOf ⟨t.front.piece, t.front.way⟩ t.back).way = -1 then lenOf n (lastOf ⟨t.front.piece, t.front.way⟩ t.back).piece - spare n t else spare n t), .int .i64 (lastOf ⟨t.front.piece, t.front.way⟩ t.back).way]) = .returned (.agg #[.int .i64 (tailOf n t).piece, .int .i64 (tailOf n t).at_, .int .i64 (tailOf n t).way])) := rfl
    generalize (if (lastOf ⟨t.front.piece, t.front.way⟩ t.back).way = -1 then lenOf n (lastOf ⟨t.front.piece, t.front.way⟩ t.back).piece - spare n t else spare n t) = at' at *
    generalize lastOf ⟨t.front.piece, t.front.way⟩ t.back = last at *
    go_wp2
    exact bodyPost_ret (v := .agg #[.int .i64 last.piece, .int .i64 at', .int .i64 last.way]) (by simp [results, Try.results11, go_sem, r0, r1, r2]) rfl ⟨Or.inl ⟨unhide HR, unhide HT⟩, (by repeat (first | with_reducible exact Below.refl _ _ | with_reducible exact hbw2 | refine Below.setCell ?_ (by first | omega | (simp <;> omega) | (simp [World.setCell] <;> omega)) _ | refine Below.alloc ?_ (by first | omega | (simp <;> omega) | (simp [World.setCell] <;> omega)) _ | refine Below.drew ?_ | refine below_draws ?_ _ | exact hbw2 | exact Below.refl _ _))⟩
  · have hbw1 : Below w.heap.size w w1 := below_then (by repeat (first | with_reducible exact Below.refl _ _ | refine Below.setCell ?_ (by first | omega | (simp <;> omega) | (simp [World.setCell] <;> omega)) _ | refine Below.alloc ?_ (by first | omega | (simp <;> omega) | (simp [World.setCell] <;> omega)) _ | refine Below.drew ?_ | refine below_draws ?_ _ | exact Below.refl _ _)) hb1
    have hr1 : Boxed w1 (w.heap.size + 1 + 1) [.int .i64 0, .int .i64 0, .int .i64 0] := (boxedN _ _ _ (by simp)).below hb1
    have hst5 := store_new w1 _ (unhide HZS) _ (bodyL_len (.slice none 0 0) (.slice none 0 0) (.slice none 0 0) ⟨0, 0, 0⟩ 0 0 []) (bodyL_one _ _ _ _ rfl rfl rfl)
    have hlB := bodyL_len (.slice none 0 0) (.slice none 0 0) (.slice none 0 0) ⟨0, 0, 0⟩ 0 0 []
    have hA : Below w1.heap.size w1 (w1.alloc (.cells (bodyL (.slice none 0 0) (.slice none 0 0) (.slice none 0 0) ⟨0, 0, 0⟩ 0 0 []).toArray 73)) := (by repeat (first | with_reducible exact Below.refl _ _ | refine Below.setCell ?_ (by first | omega | (simp <;> omega) | (simp [World.setCell] <;> omega)) _ | refine Below.alloc ?_ (by first | omega | (simp <;> omega) | (simp [World.setCell] <;> omega)) _ | refine Below.drew ?_ | refine below_draws ?_ _ | exact Below.refl _ _))
    have hr2 := hr1.below hA
    have r0 := hr1.2.1 0 _ rfl
    have r1 := hr1.2.1 1 _ rfl
    have r2 := hr1.2.1 2 _ rfl
    have rz := hr1.2.2
    have rl := hr1.1
    have hbw2 := below_then hbw1 hA
    have hsz2 := hbw2.size
    have HR := hide hR
    clear hR
    unfold zeroBody bodyV
    go_wp2
    exact bodyPost_ret (v := .agg #[.int .i64 0, .int .i64 0, .int .i64 0]) (by simp [results, Try.results11, go_sem, r0, r1, r2, rl]) rfl ⟨Or.inr ⟨unhide HR, rfl⟩, (by repeat (first | with_reducible exact Below.refl _ _ | with_reducible exact hbw1 | refine Below.setCell ?_ (by first | omega | (simp <;> omega) | (simp [World.setCell] <;> omega)) _ | refine Below.alloc ?_ (by first | omega | (simp <;> omega) | (simp [World.setCell] <;> omega)) _ | refine Below.drew ?_ | refine below_draws ?_ _ | exact hbw1 | exact Below.refl _ _))⟩

end Go.Proofs.Ytbdggfpfpjijoab

