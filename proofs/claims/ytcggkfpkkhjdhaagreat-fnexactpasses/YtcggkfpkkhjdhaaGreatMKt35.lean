import Derived.Test.YtcggkfpkkhjdhaaGreatMKt34
import Derived.Test.YtcggkfpkkhjdhaaGreatMKt12
namespace Go.Proofs.YtcggkfpkkhjdhaaGreat
open Go.RowKit

/-- A body on a net that need not be right: its track's pieces are the net's own, the rest is new. -/
def RetOnF (n : Nt) (t : Tr) (a : Option Addr) (ca N : Nat) (e : Ending) (w' : World) : Prop :=
  (TrainRight n t ∧ ∃ ksh kcsh kst kcst, ShsAt N w' ksh n.joints ∧ SdsAt N w' kst n ∧ e = .returned (.tuple #[bodyV (.slice a n.pieces.length ca) (.slice ksh n.joints.length kcsh) (.slice kst n.pieces.length kcst) t.front t.long (spare n t) t.back, .bool true])) ∨ (¬ TrainRight n t ∧ e = .returned (.tuple #[zeroBody, .bool false]))

set_option maxRecDepth 100000 in
set_option maxHeartbeats 4000000 in
theorem bodyOn_far (a c : Option Addr) (ca cc : Nat) (n : Nt) (t : Tr) (ba : Option Addr) (bc : Nat) (w : World) {L : Nat} (hp : PcsAt L w a n.pieces) (hj : JtsAt L w c n.joints) (hst : StsAt 0 w ba t.back) (hcap : t.back.length ≤ bc) (hbl : t.back.length ≤ 1048576)
    (hl : n.pieces.length ≤ 1048576) (hl' : n.joints.length ≤ 1048576) (hle : ∀ i (h : i < n.joints.length), n.joints[i].name.size ≤ maxLen) (hnm : ∀ i (h : i < n.pieces.length), n.pieces[i].name.size ≤ maxLen) :
    Calls Tryz.prog 70 #[.agg #[.slice a n.pieces.length ca, .slice c n.joints.length cc], .agg #[.int .i64 t.front.piece, .int .i64 t.front.at_, .int .i64 t.front.way, .int .i64 t.long, .slice ba t.back.length bc]] w fun e w' => RetOnF n t a ca w.heap.size e w' ∧ Below w.heap.size w w' := by
  go_enter Tryz.func70, Tryz.ntmps70
  go_wp2_with fail
  refine (trackOf_far a c ca cc n _ (L := L) ?hA ?hB hl hl' hle hnm).mono ?_
  case hA => exact hp.below bw0
  case hB => exact hj.below bw0
  rintro e w1 ⟨hret, hb1⟩
  have hbw1 : Below w.heap.size w w1 := below_then bw0 hb1
  have hres : OwnC w1 (w.heap.size + 1 + 1) 0 412 _ := (own_zero2 w _ _).below hb1
  have hBt1 : Boxed w1 (w.heap.size + 1) [.int .i64 t.front.piece, .int .i64 t.front.at_, .int .i64 t.front.way, .int .i64 t.long, .slice ba t.back.length bc] := ((boxedN _ #[.int .i64 t.front.piece, .int .i64 t.front.at_, .int .i64 t.front.way, .int .i64 t.long, .slice ba t.back.length bc] 47 (N := w.heap.size + 1) (by simp)).alloc _).below hb1
  rcases hret with ⟨hR, ksh, kcsh, kst, kcst, rfl, hksh, hkst⟩ | ⟨hR, rfl⟩
  · have hG := netGood hR
    have hkk : TrkAt 0 w1 (.agg #[.slice a n.pieces.length ca, .slice ksh n.joints.length kcsh, .slice kst n.pieces.length kcst]) n := ⟨_, _, _, _, _, _, rfl, (hp.below hbw1).mono (Nat.zero_le _), hksh.mono (Nat.zero_le _), hkst.mono (Nat.zero_le _)⟩
    have HR := hide hR
    have HKS := hide hksh
    have HKT := hide hkst
    clear hR hksh hkst
    have hA : Below w1.heap.size w1 (w1.alloc (.cells #[.slice a n.pieces.length ca, .slice ksh n.joints.length kcsh, .slice kst n.pieces.length kcst] 87)) := bw0
    have hBt2 := hBt1.below hA
    have b0 := hBt2.2.1 0 _ rfl
    have b1 := hBt2.2.1 1 _ rfl
    have b2 := hBt2.2.1 2 _ rfl
    have b3 := hBt2.2.1 3 _ rfl
    have b4 := hBt2.2.1 4 _ rfl
    have n1 := hBt1.1
    have b0' := hBt1.2.1 0 _ rfl
    have b1' := hBt1.2.1 1 _ rfl
    have b2' := hBt1.2.1 2 _ rfl
    have b3' := hBt1.2.1 3 _ rfl
    have b4' := hBt1.2.1 4 _ rfl
    go_wp2_with fail
    refine (bodyOf_any n t _ _ _ ba bc _ (hkk.below hA) hG ?_ hcap hbl).mono ?_
    · exact hst.below (below_then hbw1 hA)
    rintro e w2 ⟨⟨hF, rfl⟩ | ⟨hF, rfl⟩, hb2⟩
    · have hbw2 := below_then (below_then hbw1 hA) hb2
      have hres2 := (hres.below hA).below hb2
      have hone := bodyL_one (k0 := .slice a n.pieces.length ca) (k1 := .slice ksh n.joints.length kcsh) (k2 := .slice kst n.pieces.length kcst) t.front t.long (spare n t) t.back rfl rfl rfl
      have hst4 := store_old _ _ _ hres2 _ (bodyL_len (.slice a n.pieces.length ca) (.slice ksh n.joints.length kcsh) (.slice kst n.pieces.length kcst) t.front t.long (spare n t) t.back) hone
      have hldv := loadVar_body _ _ _ (bodyL_len _ _ _ _ _ _ _) (own_put hres2 rfl (k0 := .slice a n.pieces.length ca) (k1 := .slice ksh n.joints.length kcsh) (k2 := .slice kst n.pieces.length kcst) (s := t.front) (long := t.long) (sp := spare n t) (xs := t.back)).range
      have hend := below_puts (B := w.heap.size + 1 + 1) hbw2 (by omega) (bodyL (.slice a n.pieces.length ca) (.slice ksh n.joints.length kcsh) (.slice kst n.pieces.length kcst) t.front t.long (spare n t) t.back)
      have hlB := bodyL_len (.slice a n.pieces.length ca) (.slice ksh n.joints.length kcsh) (.slice kst n.pieces.length kcst) t.front t.long (spare n t) t.back
      have HF := hide hF
      unfold bodyV
      clear hone hF b0 b1 b2 b3 b4 b0' b1' b2' b3' b4'
      go_wp2
      refine bodyPost_ret (v := .tuple #[.agg (bodyL (.slice a n.pieces.length ca) (.slice ksh n.joints.length kcsh) (.slice kst n.pieces.length kcst) t.front t.long (spare n t) t.back).toArray, .bool true]) (by rw [results_cell_tmp rfl]; simp [asAddr, Result.andThen, hldv]) rfl ⟨Or.inl ⟨⟨unhide HR, unhide HF⟩, _, _, _, _, ?_, ?_, rfl⟩, hend⟩
      · exact (((unhide HKS).keeps (keeps_below _ (below_then hA hb2))).keeps (keeps_puts _ (by simp) _)).mono (by simp; omega)
      · exact (((unhide HKT).keeps (keeps_below _ (below_then hA hb2))).keeps (keeps_puts _ (by simp) _)).mono (by simp; omega)
    · have hbw2 := below_then (below_then hbw1 hA) hb2
      have hres2 := (hres.below hA).below hb2
      have hend := below_puts (B := w.heap.size + 1 + 1) hbw2 (by omega) (bodyL (.slice none 0 0) (.slice none 0 0) (.slice none 0 0) ⟨0, 0, 0⟩ 0 0 [])
      have hlB := bodyL_len (.slice none 0 0) (.slice none 0 0) (.slice none 0 0) ⟨0, 0, 0⟩ 0 0 []
      have HN : Hid (¬ TrainRight n t) := fun h => hF h.2
      unfold zeroBody bodyV
      clear hF b0 b1 b2 b3 b4 b0' b1' b2' b3' b4'
      have hst4 := store_old _ _ _ hres2 _ (bodyL_len (.slice none 0 0) (.slice none 0 0) (.slice none 0 0) ⟨0, 0, 0⟩ 0 0 []) (bodyL_one _ _ _ _ rfl rfl rfl)
      have hldv := zero_load (own_put hres2 rfl (k0 := .slice none 0 0) (k1 := .slice none 0 0) (k2 := .slice none 0 0) (s := ⟨0, 0, 0⟩) (long := 0) (sp := 0) (xs := []))
      go_wp2
      exact bodyPost_ret (v := .tuple #[zeroBody, .bool false]) (by rw [results_cell_tmp rfl]; simp [asAddr, Result.andThen, hldv]) rfl ⟨Or.inr ⟨unhide HN, rfl⟩, hend⟩
  · have hA : Below w1.heap.size w1 (w1.alloc (.cells #[.slice none 0 0, .slice none 0 0, .slice none 0 0] 87)) := bw0
    have hbw2 := below_then hbw1 hA
    have hres2 := hres.below hA
    have hend := below_puts (B := w.heap.size + 1 + 1) hbw2 (by omega) Tryz.zeroCells94.toList
    have HN : Hid (¬ TrainRight n t) := fun h => hR h.1
    clear hR
    have hst4 := store_old _ _ _ hres2 Tryz.zeroCells94.toList zero_len zero_one
    have hldv := zero_load (zero_put hres2)
    go_wp2
    exact bodyPost_ret (v := .tuple #[zeroBody, .bool false]) (by rw [results_cell_tmp rfl]; simp [asAddr, Result.andThen, hldv]) rfl ⟨Or.inr ⟨unhide HN, rfl⟩, hend⟩

/-- What is a move. -/
def OutOk (n : Nt) (zs : List Int) (t : Tr) (F : Int) : Prop := TrainRight n t ∧ LiesFit n.joints zs ∧ (0 ≤ F ∧ F ≤ 10000)
def RetOut (n : Nt) (zs : List Int) (t : Tr) (F : Int) (a : Option Addr) (ca N : Nat) (e : Ending) (w' : World) : Prop :=
  (OutOk n zs t F ∧ ∃ ksh kcsh kst kcst, ShsAt N w' ksh n.joints ∧ SdsAt N w' kst n ∧ e = .returned (.tuple #[bodyV (.slice a n.pieces.length ca) (.slice ksh n.joints.length kcsh) (.slice kst n.pieces.length kcst) t.front t.long (spare n t) t.back, .bool true])) ∨ (¬ OutOk n zs t F ∧ e = .returned (.tuple #[zeroBody, .bool false]))

theorem isFar_any (F : Int) (w : World) : Calls Tryz.prog 72 #[.int .i64 F] w fun e w' => RetB (0 ≤ F ∧ F ≤ 10000) e ∧ w' = w := by
  go_enter Tryz.func72, Tryz.ntmps72
  by_cases h0 : 0 ≤ F
  · by_cases h1 : F ≤ 10000
    · go_wp2
      go_ret
      exact ⟨retB_true ⟨h0, h1⟩, rfl⟩
    · go_wp2
      go_ret
      exact ⟨retB_false fun h => by omega, rfl⟩
  · go_wp2
    go_ret
    exact ⟨retB_false fun h => by omega, rfl⟩

set_option maxRecDepth 100000 in
set_option maxHeartbeats 4000000 in
theorem setOut_any (a c : Option Addr) (ca cc : Nat) (n : Nt) (t : Tr) (ba : Option Addr) (bc : Nat) (zq : Option Addr) (zs : List Int) (zc : Nat) (F : Int) (w : World) {L L' : Nat} (hp : PcsAt L w a n.pieces) (hj : JtsAt L w c n.joints) (hst : StsAt 0 w ba t.back) (hz : IntsAt L' w zq zs) (hcap : t.back.length ≤ bc) (hbl : t.back.length ≤ 1048576)
    (hl : n.pieces.length ≤ 1048576) (hl' : n.joints.length ≤ 1048576) (hle : ∀ i (h : i < n.joints.length), n.joints[i].name.size ≤ maxLen) (hnm : ∀ i (h : i < n.pieces.length), n.pieces[i].name.size ≤ maxLen) :
    Calls Tryz.prog 36 #[.agg #[.slice a n.pieces.length ca, .slice c n.joints.length cc], .slice zq zs.length zc, .agg #[.int .i64 t.front.piece, .int .i64 t.front.at_, .int .i64 t.front.way, .int .i64 t.long, .slice ba t.back.length bc], .int .i64 F] w fun e w' => RetOut n zs t F a ca w.heap.size e w' ∧ Below w.heap.size w w' := by
  have hzs : Tryz.zeroCells94.size = 412 := by rw [zero_cells, bodyL_size]
  have HZS := hide hzs
  clear hzs
  go_enter Tryz.func36, Tryz.ntmps36
  go_wp2_with fail
  refine (bodyOn_far a c ca cc n t ba bc _ (L := L) ?hA ?hC ?hB hcap hbl hl hl' hle hnm).mono ?_
  case hA => exact hp.below bw0
  case hC => exact hj.below bw0
  case hB => exact hst.below bw0
  rintro e w1 ⟨hret, hb1⟩
  have hbw1 : Below w.heap.size w w1 := below_then bw0 hb1
  have hres : OwnC w1 (w.heap.size + 1 + 1) 0 412 _ := (own_zero2 w _ _).below hb1
  rcases hret with ⟨hR, ksh, kcsh, kst, kcst, hksh, hkst, rfl⟩ | ⟨hR, rfl⟩
  · have hst5 := store_new w1 _ (unhide HZS) _ (bodyL_len (.slice a n.pieces.length ca) (.slice ksh n.joints.length kcsh) (.slice kst n.pieces.length kcst) t.front t.long (spare n t) t.back) (bodyL_one _ _ _ _ rfl rfl rfl)
    have hlB := bodyL_len (.slice a n.pieces.length ca) (.slice ksh n.joints.length kcsh) (.slice kst n.pieces.length kcst) t.front t.long (spare n t) t.back
    have hA : Below w1.heap.size w1 (w1.alloc (.cells (bodyL (.slice a n.pieces.length ca) (.slice ksh n.joints.length kcsh) (.slice kst n.pieces.length kcst) t.front t.long (spare n t) t.back).toArray 94)) := bw0
    have hown := own_new w1 (.slice a n.pieces.length ca) (.slice ksh n.joints.length kcsh) (.slice kst n.pieces.length kcst) t.front t.long (spare n t) t.back 94
    have htk : TrkAt 0 w1 (.agg #[.slice a n.pieces.length ca, .slice ksh n.joints.length kcsh, .slice kst n.pieces.length kcst]) n := ⟨_, _, _, _, _, _, rfl, (hp.below hbw1).mono (Nat.zero_le _), hksh.mono (Nat.zero_le _), hkst.mono (Nat.zero_le _)⟩
    have hres2 := hres.below hA
    have hone := bodyL_one (k0 := .slice a n.pieces.length ca) (k1 := .slice ksh n.joints.length kcsh) (k2 := .slice kst n.pieces.length kcst) t.front t.long (spare n t) t.back rfl rfl rfl
    have HKS := hide (hksh.keeps (keeps_below _ hA))
    have HKT := hide (hkst.keeps (keeps_below _ hA))
    have HR := hide hR
    have HTK := hide (htk.below hA)
    have hbwA := below_then hbw1 hA
    have hsz1 := hbw1.size
    have hszA : w1.heap.size < (w1.alloc (.cells (bodyL (.slice a n.pieces.length ca) (.slice ksh n.joints.length kcsh) (.slice kst n.pieces.length kcst) t.front t.long (spare n t) t.back).toArray 94)).heap.size := by simp
    have d3 : (w1.alloc (.cells (bodyL (.slice a n.pieces.length ca) (.slice ksh n.joints.length kcsh) (.slice kst n.pieces.length kcst) t.front t.long (spare n t) t.back).toArray 94)).cell? ⟨w1.heap.size, 3, none⟩ = some (.slice a n.pieces.length ca) := by simpa [bodyF] using (hown.2 3 (by omega)).1
    have d4 : (w1.alloc (.cells (bodyL (.slice a n.pieces.length ca) (.slice ksh n.joints.length kcsh) (.slice kst n.pieces.length kcst) t.front t.long (spare n t) t.back).toArray 94)).cell? ⟨w1.heap.size, 4, none⟩ = some (.slice ksh n.joints.length kcsh) := by simpa [bodyF] using (hown.2 4 (by omega)).1
    have d5 : (w1.alloc (.cells (bodyL (.slice a n.pieces.length ca) (.slice ksh n.joints.length kcsh) (.slice kst n.pieces.length kcst) t.front t.long (spare n t) t.back).toArray 94)).cell? ⟨w1.heap.size, 5, none⟩ = some (.slice kst n.pieces.length kcst) := by simpa [bodyF] using (hown.2 5 (by omega)).1
    have HOWN := hide hown
    have HONE := hide hone
    clear hR hksh hkst htk hown hone hres
    unfold bodyV
    go_wp2_with fail
    refine (liesFit_any _ n _ zs _ _ (unhide HTK) (hz.below hbwA) hl').mono ?_
    rintro e w2 ⟨⟨rfl, hr⟩ | ⟨rfl, hr⟩, hb2⟩
    · have hbw2 := below_then hbwA hb2
      have hres3 := hres2.below hb2
      have HF := hide hr
      clear hr d3 d4 d5
      go_wp2_with fail
      refine (isFar_any F _).mono ?_
      rintro e w2' ⟨⟨rfl, hf⟩ | ⟨rfl, hf⟩, rfl⟩
      · have HFF := hide hf
        have HRG := hide ((unhide HOWN).below hb2).range
        have HTH2 := hide hres3.there
        have hldv := loadVar_body _ _ _ (bodyL_len _ _ _ _ _ _ _) (own_put hres3 rfl (k0 := .slice a n.pieces.length ca) (k1 := .slice ksh n.joints.length kcsh) (k2 := .slice kst n.pieces.length kcst) (s := t.front) (long := t.long) (sp := spare n t) (xs := t.back)).range
        have hend := below_puts (B := w.heap.size + 1 + 1) hbw2 (by omega) (bodyL (.slice a n.pieces.length ca) (.slice ksh n.joints.length kcsh) (.slice kst n.pieces.length kcst) t.front t.long (spare n t) t.back)
        clear hf hres2 hres3
        go_wp2_with fail
        refine wp_load_mid 94 (.tmp 10) rfl w1.heap.size 0 rfl (bodyL (.slice a n.pieces.length ca) (.slice ksh n.joints.length kcsh) (.slice kst n.pieces.length kcst) t.front t.long (spare n t) t.back) _ (unhide HRG) Tryz.underlying94 rfl (by rw [info_size, bodyL_len]) ?_
        rename_i hKK
        refine hKK _ _ ?_
        simp only [Act.put, List.setIfInBounds_toArray, List.set_cons_zero, List.set_cons_succ]
        refine wpList_store_mid rfl 94 (.tmp 8) (.tmp 33) rfl (w.heap.size + 1 + 1) 0 (bodyL (.slice a n.pieces.length ca) (.slice ksh n.joints.length kcsh) (.slice kst n.pieces.length kcst) t.front t.long (spare n t) t.back).toArray rfl rfl (unhide HTH2) (by rw [info_size, bodyL_size]) (all_oneCell_toArray (unhide HONE)) ?_
        clear hKK
        go_wp2
        refine bodyPost_ret (v := .tuple #[.agg (bodyL (.slice a n.pieces.length ca) (.slice ksh n.joints.length kcsh) (.slice kst n.pieces.length kcst) t.front t.long (spare n t) t.back).toArray, .bool true]) (by rw [results_cell_tmp rfl]; simp [asAddr, Result.andThen, hldv]) rfl ⟨Or.inl ⟨⟨unhide HR, unhide HF, unhide HFF⟩, _, _, _, _, ?_, ?_, rfl⟩, hend⟩
        · exact (((unhide HKS).keeps (keeps_below _ hb2)).keeps (keeps_puts _ (by simp) _)).mono (by simp; omega)
        · exact (((unhide HKT).keeps (keeps_below _ hb2)).keeps (keeps_puts _ (by simp) _)).mono (by simp; omega)
      · have HN : Hid (¬ OutOk n zs t F) := fun h => hf h.2.2
        have hst4 := store_old _ _ _ hres3 Tryz.zeroCells94.toList zero_len zero_one
        have hldv := zero_load (zero_put hres3)
        have hend := below_puts (B := w.heap.size + 1 + 1) hbw2 (by omega) Tryz.zeroCells94.toList
        clear hf
        go_wp2
        exact bodyPost_ret (v := .tuple #[zeroBody, .bool false]) (by rw [results_cell_tmp rfl]; simp [asAddr, Result.andThen, hldv]) rfl ⟨Or.inr ⟨unhide HN, rfl⟩, hend⟩
    · have hbw2 := below_then hbwA hb2
      have hres3 := hres2.below hb2
      have HN : Hid (¬ OutOk n zs t F) := fun h => hr h.2.1
      have hst4 := store_old _ _ _ hres3 Tryz.zeroCells94.toList zero_len zero_one
      have hldv := zero_load (zero_put hres3)
      have hend := below_puts (B := w.heap.size + 1 + 1) hbw2 (by omega) Tryz.zeroCells94.toList
      clear hr d3 d4 d5
      go_wp2
      exact bodyPost_ret (v := .tuple #[zeroBody, .bool false]) (by rw [results_cell_tmp rfl]; simp [asAddr, Result.andThen, hldv]) rfl ⟨Or.inr ⟨unhide HN, rfl⟩, hend⟩
  · have hst5 := store_new w1 _ (unhide HZS) _ (bodyL_len (.slice none 0 0) (.slice none 0 0) (.slice none 0 0) ⟨0, 0, 0⟩ 0 0 []) (bodyL_one _ _ _ _ rfl rfl rfl)
    have hlB := bodyL_len (.slice none 0 0) (.slice none 0 0) (.slice none 0 0) ⟨0, 0, 0⟩ 0 0 []
    have hA : Below w1.heap.size w1 (w1.alloc (.cells (bodyL (.slice none 0 0) (.slice none 0 0) (.slice none 0 0) ⟨0, 0, 0⟩ 0 0 []).toArray 94)) := bw0
    have hbw2 := below_then hbw1 hA
    have hres3 := hres.below hA
    have HN : Hid (¬ OutOk n zs t F) := fun h => hR h.1
    have hst4 := store_old _ _ _ hres3 Tryz.zeroCells94.toList zero_len zero_one
    have hldv := zero_load (zero_put hres3)
    have hend := below_puts (B := w.heap.size + 1 + 1) hbw2 (by omega) Tryz.zeroCells94.toList
    clear hR
    unfold zeroBody bodyV
    go_wp2
    exact bodyPost_ret (v := .tuple #[zeroBody, .bool false]) (by rw [results_cell_tmp rfl]; simp [asAddr, Result.andThen, hldv]) rfl ⟨Or.inr ⟨unhide HN, rfl⟩, hend⟩
end Go.Proofs.YtcggkfpkkhjdhaaGreat

namespace Go.Proofs.YtcggkfpkkhjdhaaGreat
open Go.RowKit

theorem IntsAt.zero {L : Nat} {w : World} {a : Option Addr} {zs : List Int} (h : IntsAt L w a zs) : IntsAt 0 w a zs := fun i hi => by
  obtain ⟨b, off, e, hb, hc⟩ := h i hi
  exact ⟨b, off, e, ⟨Nat.zero_le _, hb.2⟩, hc⟩
theorem backOk_mv {n : Nt} {long : Int} : ∀ {xs : List St} {hv : Int} {at_ : St}, BackOk n long hv at_ xs → (∀ j, j < xs.length → hv + sumLen n (xs.take j) < long) ∧ long ≤ hv + sumLen n xs := by
  intro xs
  induction xs with
  | nil =>
    intro hv at_ h
    refine ⟨fun j hj => by simp at hj, ?_⟩
    have : long ≤ hv := h
    rw [sumLen_nil]
    omega
  | cons x r ih =>
    intro hv at_ h
    obtain ⟨h1, h2, h3, h4⟩ := h
    obtain ⟨i1, i2⟩ := ih h4
    refine ⟨fun j hj => ?_, by rw [sumLen_cons]; omega⟩
    cases j with
    | zero => simp [sumLen_nil]; omega
    | succ j =>
      rw [List.take_succ_cons, sumLen_cons]
      have := i1 j (by simpa using hj)
      omega

theorem fits_mv {n : Nt} {t : Tr} (h : TrainFits n t) {F : Int} (hF : 0 ≤ F) : MvOk n t.long F ⟨t.front, t.back, 0, []⟩ := by
  obtain ⟨h1, h2⟩ := backOk_mv h.2.2.2
  exact ⟨h.1, backOk_steps h.2.2.2, h.2.2.1, h1, h2, Int.le_refl _, hF, by simp⟩

theorem runIs_code {n : Nt} {zs : List Int} {long F : Int} {m0 m : Mv} {code joint : Int} (h : RunIs n zs long F m0 m code joint) : code = 0 → joint = -1 := by
  intro hc
  rcases h with ⟨_, _, h | ⟨_, _, i, r, _, h | h⟩⟩ | h
  · exact h.2.2
  · exact absurd (h.2.1 ▸ hc) h.1
  · omega
  · omega

def movedV (code far joint : Int) (s : Sp) (long : Int) (bk ov : Value) : Value := .agg #[.int .i64 code, .int .i64 far, .int .i64 joint, .int .i64 s.piece, .int .i64 s.at_, .int .i64 s.way, .int .i64 long, bk, ov]
/-- What Move answers. -/
def MovedIs (n : Nt) (zs : List Int) (t : Tr) (F : Int) (N : Nat) (e : Ending) (w' : World) : Prop :=
  (OutOk n zs t F ∧ ∃ (m : Mv) (code joint : Int) (ba : Option Addr) (bc : Nat) (oa : Option Addr) (oc : Nat), e = .returned (movedV code m.far joint m.s t.long (.slice ba m.xs.length bc) (.slice oa m.over.length oc)) ∧ RunIs n zs t.long F ⟨t.front, t.back, 0, []⟩ m code joint ∧ StRow w' N (.slice ba m.xs.length bc) m.xs ∧ PtRow w' N (.slice oa m.over.length oc) m.over)
    ∨ (¬ OutOk n zs t F ∧ e = .returned (movedV 5 0 0 ⟨0, 0, 0⟩ 0 (.slice none 0 0) (.slice none 0 0)))

end Go.Proofs.YtcggkfpkkhjdhaaGreat
