import Derived.Test.YtcmakcnkiekalabKt10
import Derived.Test.YtcmakcnkiekalabKt1b
namespace Go.Proofs.Ytcmakcnkiekalab
open Go.RowKit

/-- bodyOn's answer. -/
def RetOn (n : Nt) (t : Tr) (e : Ending) (w' : World) : Prop :=
  (TrainRight n t ∧ ∃ k0 k1 k2 : Value, TrkAt 0 w' (.agg #[k0, k1, k2]) n ∧ (k0.oneCell' = true ∧ k1.oneCell' = true ∧ k2.oneCell' = true) ∧ e = .returned (.tuple #[bodyV k0 k1 k2 t.front t.long (spare n t) t.back, .bool true])) ∨ (¬ TrainRight n t ∧ e = .returned (.tuple #[zeroBody, .bool false]))

theorem keeps_puts {L B : Nat} (w : World) (hB : B < L) (l : List Value) : Keeps L w (w.setCells B 0 l) :=
  ⟨by rw [(heap_setCells B l 0 w (B + 1) (by omega)).2]; exact Nat.le_refl _, fun k h _ => (heap_setCells B l 0 w k (by omega)).1⟩
theorem own_zero2 (w : World) (o1 o2 : Obj) : OwnC (((w.alloc o1).alloc o2).alloc (.cells Try.zeroCells98 98)) (w.heap.size + 1 + 1) 0 412 (bodyF (.slice none 0 0) (.slice none 0 0) (.slice none 0 0) ⟨0, 0, 0⟩ 0 0 []) := own_zero _ (by simp)

set_option maxRecDepth 100000 in
set_option maxHeartbeats 4000000 in
theorem bodyOn_any (v : Value) (n : Nt) (t : Tr) (ba : Option Addr) (bc : Nat) (w : World) {L : Nat} (hv : NetAt L w v n) (hst : StsAt 0 w ba t.back) (hcap : t.back.length ≤ bc) (hbl : t.back.length ≤ 1048576)
    (hl : n.pieces.length ≤ 1048576) (hl' : n.joints.length ≤ 1048576) (hle : ∀ i (h : i < n.joints.length), n.joints[i].name.size ≤ maxLen) (hnm : ∀ i (h : i < n.pieces.length), n.pieces[i].name.size ≤ maxLen) :
    Calls Try.prog 53 #[v, .agg #[.int .i64 t.front.piece, .int .i64 t.front.at_, .int .i64 t.front.way, .int .i64 t.long, .slice ba t.back.length bc]] w fun e w' => RetOn n t e w' ∧ Below w.heap.size w w' := by
  have hvv := hv
  obtain ⟨a, c, ca, cc, rfl, hp, hj⟩ := hv
  go_enter Try.func53, Try.ntmps53
  go_wp2_with fail
  refine (trackOf_far a c ca cc n _ (L := L) ?hA ?hB hl hl' hle hnm).mono ?_
  case hA => exact hp.below (by repeat (first | with_reducible exact Below.refl _ _ | refine Below.setCell ?_ (by first | omega | (simp <;> omega) | (simp [World.setCell] <;> omega)) _ | refine Below.alloc ?_ (by first | omega | (simp <;> omega) | (simp [World.setCell] <;> omega)) _ | refine Below.drew ?_ | refine below_draws ?_ _ | exact Below.refl _ _))
  case hB => exact hj.below (by repeat (first | with_reducible exact Below.refl _ _ | refine Below.setCell ?_ (by first | omega | (simp <;> omega) | (simp [World.setCell] <;> omega)) _ | refine Below.alloc ?_ (by first | omega | (simp <;> omega) | (simp [World.setCell] <;> omega)) _ | refine Below.drew ?_ | refine below_draws ?_ _ | exact Below.refl _ _))
  rintro e w1 ⟨hret, hb1⟩
  have hbw1 : Below w.heap.size w w1 := below_then (by repeat (first | with_reducible exact Below.refl _ _ | refine Below.setCell ?_ (by first | omega | (simp <;> omega) | (simp [World.setCell] <;> omega)) _ | refine Below.alloc ?_ (by first | omega | (simp <;> omega) | (simp [World.setCell] <;> omega)) _ | refine Below.drew ?_ | refine below_draws ?_ _ | exact Below.refl _ _)) hb1
  have hres : OwnC w1 (w.heap.size + 1 + 1) 0 412 _ := (own_zero2 w _ _).below hb1
  have hBt1 : Boxed w1 (w.heap.size + 1) [.int .i64 t.front.piece, .int .i64 t.front.at_, .int .i64 t.front.way, .int .i64 t.long, .slice ba t.back.length bc] := ((boxedN _ #[.int .i64 t.front.piece, .int .i64 t.front.at_, .int .i64 t.front.way, .int .i64 t.long, .slice ba t.back.length bc] 42 (N := w.heap.size + 1) (by simp)).alloc _).below hb1
  rcases hret with ⟨hR, ksh, kcsh, kst, kcst, rfl, hksh, hkst⟩ | ⟨hR, rfl⟩
  · have hG := netGood hR
    have hkk : TrkAt 0 w1 (.agg #[.slice a n.pieces.length ca, .slice ksh n.joints.length kcsh, .slice kst n.pieces.length kcst]) n := ⟨_, _, _, _, _, _, rfl, (hp.below hbw1).mono (Nat.zero_le _), hksh.mono (Nat.zero_le _), hkst.mono (Nat.zero_le _)⟩
    have HR := hide hR
    have HKS := hide hksh
    have HKT := hide hkst
    clear hR hksh hkst
    have hA : Below w1.heap.size w1 (w1.alloc (.cells #[.slice a n.pieces.length ca, .slice ksh n.joints.length kcsh, .slice kst n.pieces.length kcst] 91)) := (by repeat (first | with_reducible exact Below.refl _ _ | refine Below.setCell ?_ (by first | omega | (simp <;> omega) | (simp [World.setCell] <;> omega)) _ | refine Below.alloc ?_ (by first | omega | (simp <;> omega) | (simp [World.setCell] <;> omega)) _ | refine Below.drew ?_ | refine below_draws ?_ _ | exact Below.refl _ _))
    have hBt2 := hBt1.below hA
    have b0 := hBt2.2.1 0 _ rfl
    have b1 := hBt2.2.1 1 _ rfl
    have b2 := hBt2.2.1 2 _ rfl
    have b3 := hBt2.2.1 3 _ rfl
    have b4 := hBt2.2.1 4 _ rfl
    have n1 := hBt1.1
    have b0' := hBt1.2.1 0 _ rfl
    have b1' := hBt1.2.1 1 _ rfl
    have b2' := hBt1.2.1 2 _ rfl
    have b3' := hBt1.2.1 3 _ rfl
    have b4' := hBt1.2.1 4 _ rfl
    go_wp2_with fail
    refine (bodyOf_any n t _ _ _ ba bc _ (hkk.below hA) hG ?_ hcap hbl).mono ?_
    · exact hst.below (below_then hbw1 hA)
    rintro e w2 ⟨⟨hF, rfl⟩ | ⟨hF, rfl⟩, hb2⟩
    · have hbw2 := below_then (below_then hbw1 hA) hb2
      have hres2 := (hres.below hA).below hb2
      have hone := bodyL_one (k0 := .slice a n.pieces.length ca) (k1 := .slice ksh n.joints.length kcsh) (k2 := .slice kst n.pieces.length kcst) t.front t.long (spare n t) t.back rfl rfl rfl
      have hst4 := store_old _ _ _ hres2 _ (bodyL_len (.slice a n.pieces.length ca) (.slice ksh n.joints.length kcsh) (.slice kst n.pieces.length kcst) t.front t.long (spare n t) t.back) hone
      have hldv := loadVar_body _ _ _ (bodyL_len _ _ _ _ _ _ _) (own_put hres2 rfl (k0 := .slice a n.pieces.length ca) (k1 := .slice ksh n.joints.length kcsh) (k2 := .slice kst n.pieces.length kcst) (s := t.front) (long := t.long) (sp := spare n t) (xs := t.back)).range
      have hend := below_puts (B := w.heap.size + 1 + 1) hbw2 (by omega) (bodyL (.slice a n.pieces.length ca) (.slice ksh n.joints.length kcsh) (.slice kst n.pieces.length kcst) t.front t.long (spare n t) t.back)
      have hlB := bodyL_len (.slice a n.pieces.length ca) (.slice ksh n.joints.length kcsh) (.slice kst n.pieces.length kcst) t.front t.long (spare n t) t.back
      have HF := hide hF
      unfold bodyV
      clear hone hF b0 b1 b2 b3 b4 b0' b1' b2' b3' b4'
      go_wp2
      refine bodyPost_ret (v := .tuple #[.agg (bodyL (.slice a n.pieces.length ca) (.slice ksh n.joints.length kcsh) (.slice kst n.pieces.length kcst) t.front t.long (spare n t) t.back).toArray, .bool true]) (by rw [results_cell_tmp rfl]; simp [asAddr, Result.andThen, hldv]) rfl ⟨Or.inl ⟨⟨unhide HR, unhide HF⟩, _, _, _, ⟨_, _, _, _, _, _, rfl, (hp.below hend).mono (Nat.zero_le _), ?_, ?_⟩, ⟨rfl, rfl, rfl⟩, rfl⟩, hend⟩
      · exact (((unhide HKS).keeps (keeps_below _ (below_then hA hb2))).keeps (keeps_puts _ (by simp) _)).mono (Nat.zero_le _)
      · exact (((unhide HKT).keeps (keeps_below _ (below_then hA hb2))).keeps (keeps_puts _ (by simp) _)).mono (Nat.zero_le _)
    · have hbw2 := below_then (below_then hbw1 hA) hb2
      have hres2 := (hres.below hA).below hb2
      have hend := below_puts (B := w.heap.size + 1 + 1) hbw2 (by omega) (bodyL (.slice none 0 0) (.slice none 0 0) (.slice none 0 0) ⟨0, 0, 0⟩ 0 0 [])
      have hlB := bodyL_len (.slice none 0 0) (.slice none 0 0) (.slice none 0 0) ⟨0, 0, 0⟩ 0 0 []
      have HN : Hid (¬ TrainRight n t) := fun h => hF h.2
      unfold zeroBody bodyV
      clear hF b0 b1 b2 b3 b4 b0' b1' b2' b3' b4'
      have hst4 := store_old _ _ _ hres2 _ (bodyL_len (.slice none 0 0) (.slice none 0 0) (.slice none 0 0) ⟨0, 0, 0⟩ 0 0 []) (bodyL_one _ _ _ _ rfl rfl rfl)
      have hldv := zero_load (own_put hres2 rfl (k0 := .slice none 0 0) (k1 := .slice none 0 0) (k2 := .slice none 0 0) (s := ⟨0, 0, 0⟩) (long := 0) (sp := 0) (xs := []))
      go_wp2
      exact bodyPost_ret (v := .tuple #[zeroBody, .bool false]) (by rw [results_cell_tmp rfl]; simp [asAddr, Result.andThen, hldv]) rfl ⟨Or.inr ⟨unhide HN, rfl⟩, hend⟩
  · have hA : Below w1.heap.size w1 (w1.alloc (.cells #[.slice none 0 0, .slice none 0 0, .slice none 0 0] 91)) := (by repeat (first | with_reducible exact Below.refl _ _ | refine Below.setCell ?_ (by first | omega | (simp <;> omega) | (simp [World.setCell] <;> omega)) _ | refine Below.alloc ?_ (by first | omega | (simp <;> omega) | (simp [World.setCell] <;> omega)) _ | refine Below.drew ?_ | refine below_draws ?_ _ | exact Below.refl _ _))
    have hbw2 := below_then hbw1 hA
    have hres2 := hres.below hA
    have hend := below_puts (B := w.heap.size + 1 + 1) hbw2 (by omega) Try.zeroCells98.toList
    have HN : Hid (¬ TrainRight n t) := fun h => hR h.1
    clear hR
    have hst4 := store_old _ _ _ hres2 Try.zeroCells98.toList zero_len zero_one
    have hldv := zero_load (zero_put hres2)
    go_wp2
    exact bodyPost_ret (v := .tuple #[zeroBody, .bool false]) (by rw [results_cell_tmp rfl]; simp [asAddr, Result.andThen, hldv]) rfl ⟨Or.inr ⟨unhide HN, rfl⟩, hend⟩



end Go.Proofs.Ytcmakcnkiekalab
