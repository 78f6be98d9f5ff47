import Derived.Test.YtbdggfpfpjijoaaGreatDoorKt34
import Derived.Test.YtbdggfpfpjijoaaGreatDoorEa
import Derived.Test.YtbdggfpfpjijoaaGreatDoorMKt12
namespace Go.Proofs.YtbdggfpfpjijoaaGreatDoor
open Go.RowKit

def RetOnF (n : Nt) (t : Tr) (a : Option Addr) (ca N : Nat) (e : Ending) (w' : World) : Prop :=
 (TrainRight n t ∧ ∃ ksh kcsh kst kcst, ShsAt N w' ksh n.joints ∧ SdsAt N w' kst n ∧ e = .returned (.tuple #[bodyV (.slice a n.pieces.length ca) (.slice ksh n.joints.length kcsh) (.slice kst n.pieces.length kcst) t.front t.long (spare n t) t.back, .bool true])) ∨ (¬ TrainRight n t ∧ e = .returned (.tuple #[zeroBody, .bool false]))

set_option maxRecDepth 100000 in
set_option maxHeartbeats 4000000 in
theorem bodyOn_far (a c : Option Addr) (ca cc : Nat) (n : Nt) (t : Tr) (ba : Option Addr) (bc : Nat) (w : World) {L : Nat} (hp : PcsAt L w a n.pieces) (hj : JtsAt L w c n.joints) (hst : StsAt 0 w ba t.back) (hcap : t.back.length ≤ bc) (hbl : t.back.length ≤ 1048576)
  (hl : n.pieces.length ≤ 1048576) (hl' : n.joints.length ≤ 1048576) (hle : ∀ i (h : i < n.joints.length), n.joints[i].name.size ≤ maxLen) (hnm : ∀ i (h : i < n.pieces.length), n.pieces[i].name.size ≤ maxLen) :
  Calls Tryz.prog 44 #[.agg #[.slice a n.pieces.length ca, .slice c n.joints.length cc], .agg #[.int .i64 t.front.piece, .int .i64 t.front.at_, .int .i64 t.front.way, .int .i64 t.long, .slice ba t.back.length bc]] w fun e w' => RetOnF n t a ca w.heap.size e w' ∧ Below w.heap.size w w' := by
 go_enter Tryz.func44, Tryz.ntmps44
 go_wp2_with fail
 refine (trackOf_far a c ca cc n _ (L := L) ?hA ?hB hl hl' hle hnm).mono ?_
 case hA => exact hp.below bw0
 case hB => exact hj.below bw0
 rintro e w1 ⟨hret, hb1⟩
 have hbw1 : Below w.heap.size w w1 := below_then bw0 hb1
 have hres : OwnC w1 (w.heap.size + 1 + 1) 0 412 _ := (own_zero2 w _ _).below hb1
 have hBt1 : Boxed w1 (w.heap.size + 1) [.int .i64 t.front.piece, .int .i64 t.front.at_, .int .i64 t.front.way, .int .i64 t.long, .slice ba t.back.length bc] := ((boxedN _ #[.int .i64 t.front.piece, .int .i64 t.front.at_, .int .i64 t.front.way, .int .i64 t.long, .slice ba t.back.length bc] 32 (N := w.heap.size + 1) (by simp)).alloc _).below hb1
 rcases hret with ⟨hR, ksh, kcsh, kst, kcst, rfl, hksh, hkst⟩ | ⟨hR, rfl⟩
 ·have hG := netGood hR
  have hkk : TrkAt 0 w1 (.agg #[.slice a n.pieces.length ca, .slice ksh n.joints.length kcsh, .slice kst n.pieces.length kcst]) n := ⟨_, _, _, _, _, _, rfl, (hp.below hbw1).mono (Nat.zero_le _), hksh.mono (Nat.zero_le _), hkst.mono (Nat.zero_le _)⟩
  have HR := hide hR
  have HKS := hide hksh
  have HKT := hide hkst
  clear hR hksh hkst
  have hA : Below w1.heap.size w1 (w1.alloc (.cells #[.slice a n.pieces.length ca, .slice ksh n.joints.length kcsh, .slice kst n.pieces.length kcst] 82)) := bw0
  have hBt2 := hBt1.below hA
  have b0 := hBt2.2.1 0 _ rfl
  have b1 := hBt2.2.1 1 _ rfl
  have b2 := hBt2.2.1 2 _ rfl
  have b3 := hBt2.2.1 3 _ rfl
  have b4 := hBt2.2.1 4 _ rfl
  have n1 := hBt1.1
  have b0' := hBt1.2.1 0 _ rfl
  have b1' := hBt1.2.1 1 _ rfl
  have b2' := hBt1.2.1 2 _ rfl
  have b3' := hBt1.2.1 3 _ rfl
  have b4' := hBt1.2.1 4 _ rfl
  go_wp2_with fail
  refine (bodyOf_any n t _ _ _ ba bc _ (hkk.below hA) hG ?_ hcap hbl).mono ?_
  ·exact hst.below (below_then hbw1 hA)
  rintro e w2 ⟨⟨hF, rfl⟩ | ⟨hF, rfl⟩, hb2⟩
  ·have hbw2 := below_then (below_then hbw1 hA) hb2
   have hres2 := (hres.below hA).below hb2
   have hone := bodyL_one (k0 := .slice a n.pieces.length ca) (k1 := .slice ksh n.joints.length kcsh) (k2 := .slice kst n.pieces.length kcst) t.front t.long (spare n t) t.back rfl rfl rfl
   have hst4 := store_old _ _ _ hres2 _ (bodyL_len (.slice a n.pieces.length ca) (.slice ksh n.joints.length kcsh) (.slice kst n.pieces.length kcst) t.front t.long (spare n t) t.back) hone
   have hldv := loadVar_body _ _ _ (bodyL_len _ _ _ _ _ _ _) (own_put hres2 rfl (k0 := .slice a n.pieces.length ca) (k1 := .slice ksh n.joints.length kcsh) (k2 := .slice kst n.pieces.length kcst) (s := t.front) (long := t.long) (sp := spare n t) (xs := t.back)).range
   have hend := below_puts (B := w.heap.size + 1 + 1) hbw2 (by omega) (bodyL (.slice a n.pieces.length ca) (.slice ksh n.joints.length kcsh) (.slice kst n.pieces.length kcst) t.front t.long (spare n t) t.back)
   have hlB := bodyL_len (.slice a n.pieces.length ca) (.slice ksh n.joints.length kcsh) (.slice kst n.pieces.length kcst) t.front t.long (spare n t) t.back
   have HF := hide hF
   unfold bodyV
   clear hone hF b0 b1 b2 b3 b4 b0' b1' b2' b3' b4'
   go_wp2
   refine bodyPost_ret (v := .tuple #[.agg (bodyL (.slice a n.pieces.length ca) (.slice ksh n.joints.length kcsh) (.slice kst n.pieces.length kcst) t.front t.long (spare n t) t.back).toArray, .bool true]) (by rw [results_cell_tmp rfl]; simp [asAddr, Result.andThen, hldv]) rfl ⟨Or.inl ⟨⟨unhide HR, unhide HF⟩, _, _, _, _, ?_, ?_, rfl⟩, hend⟩
   ·exact (((unhide HKS).keeps (keeps_below _ (below_then hA hb2))).keeps (keeps_puts _ (by simp) _)).mono (by simp; omega)
   ·exact (((unhide HKT).keeps (keeps_below _ (below_then hA hb2))).keeps (keeps_puts _ (by simp) _)).mono (by simp; omega)
  ·have hbw2 := below_then (below_then hbw1 hA) hb2
   have hres2 := (hres.below hA).below hb2
   have hend := below_puts (B := w.heap.size + 1 + 1) hbw2 (by omega) (bodyL (.slice none 0 0) (.slice none 0 0) (.slice none 0 0) ⟨0, 0, 0⟩ 0 0 [])
   have hlB := bodyL_len (.slice none 0 0) (.slice none 0 0) (.slice none 0 0) ⟨0, 0, 0⟩ 0 0 []
   have HN : Hid (¬ TrainRight n t) := fun h => hF h.2
   unfold zeroBody bodyV
   clear hF b0 b1 b2 b3 b4 b0' b1' b2' b3' b4'
   have hst4 := store_old _ _ _ hres2 _ (bodyL_len (.slice none 0 0) (.slice none 0 0) (.slice none 0 0) ⟨0, 0, 0⟩ 0 0 []) (bodyL_one _ _ _ _ rfl rfl rfl)
   have hldv := zero_load (own_put hres2 rfl (k0 := .slice none 0 0) (k1 := .slice none 0 0) (k2 := .slice none 0 0) (s := ⟨0, 0, 0⟩) (long := 0) (sp := 0) (xs := []))
   go_wp2
   exact bodyPost_ret (v := .tuple #[zeroBody, .bool false]) (by rw [results_cell_tmp rfl]; simp [asAddr, Result.andThen, hldv]) rfl ⟨Or.inr ⟨unhide HN, rfl⟩, hend⟩
 ·have hA : Below w1.heap.size w1 (w1.alloc (.cells #[.slice none 0 0, .slice none 0 0, .slice none 0 0] 82)) := bw0
  have hbw2 := below_then hbw1 hA
  have hres2 := hres.below hA
  have hend := below_puts (B := w.heap.size + 1 + 1) hbw2 (by omega) Tryz.zeroCells89.toList
  have HN : Hid (¬ TrainRight n t) := fun h => hR h.1
  clear hR
  have hst4 := store_old _ _ _ hres2 Tryz.zeroCells89.toList zero_len zero_one
  have hldv := zero_load (zero_put hres2)
  go_wp2
  exact bodyPost_ret (v := .tuple #[zeroBody, .bool false]) (by rw [results_cell_tmp rfl]; simp [asAddr, Result.andThen, hldv]) rfl ⟨Or.inr ⟨unhide HN, rfl⟩, hend⟩

def OutOk (n : Nt) (zs : List Int) (t : Tr) (F : Int) : Prop := TrainRight n t ∧ LiesFit n.joints zs ∧ (0 ≤ F ∧ F ≤ 10000)
def RetOut (n : Nt) (zs : List Int) (t : Tr) (F : Int) (a : Option Addr) (ca N : Nat) (e : Ending) (w' : World) : Prop :=
 (OutOk n zs t F ∧ ∃ ksh kcsh kst kcst, ShsAt N w' ksh n.joints ∧ SdsAt N w' kst n ∧ e = .returned (.tuple #[bodyV (.slice a n.pieces.length ca) (.slice ksh n.joints.length kcsh) (.slice kst n.pieces.length kcst) t.front t.long (spare n t) t.back, .bool true])) ∨ (¬ OutOk n zs t F ∧ e = .returned (.tuple #[zeroBody, .bool false]))

theorem isFar_any (F : Int) (w : World) : Calls Tryz.prog 88 #[.int .i64 F] w fun e w' => RetB (0 ≤ F ∧ F ≤ 10000) e ∧ w' = w := by
 go_enter Tryz.func88, Tryz.ntmps88
 by_cases h0 : 0 ≤ F
 ·by_cases h1 : F ≤ 10000
  ·go_wp2
   go_ret
   exact ⟨retB_true ⟨h0, h1⟩, rfl⟩
  ·go_wp2
   go_ret
   exact ⟨retB_false fun h => by omega, rfl⟩
 ·go_wp2
  go_ret
  exact ⟨retB_false fun h => by omega, rfl⟩

set_option maxRecDepth 100000 in
set_option maxHeartbeats 4000000 in
theorem setOut_any (a c : Option Addr) (ca cc : Nat) (n : Nt) (t : Tr) (ba : Option Addr) (bc : Nat) (zq : Option Addr) (zs : List Int) (zc : Nat) (F : Int) (w : World) {L L' : Nat} (hp : PcsAt L w a n.pieces) (hj : JtsAt L w c n.joints) (hst : StsAt 0 w ba t.back) (hz : IntsAt L' w zq zs) (hcap : t.back.length ≤ bc) (hbl : t.back.length ≤ 1048576)
  (hl : n.pieces.length ≤ 1048576) (hl' : n.joints.length ≤ 1048576) (hle : ∀ i (h : i < n.joints.length), n.joints[i].name.size ≤ maxLen) (hnm : ∀ i (h : i < n.pieces.length), n.pieces[i].name.size ≤ maxLen) :
  Calls Tryz.prog 37 #[.agg #[.slice a n.pieces.length ca, .slice c n.joints.length cc], .slice zq zs.length zc, .agg #[.int .i64 t.front.piece, .int .i64 t.front.at_, .int .i64 t.front.way, .int .i64 t.long, .slice ba t.back.length bc], .int .i64 F] w fun e w' => RetOut n zs t F a ca w.heap.size e w' ∧ Below w.heap.size w w' := by
 have hzs : Tryz.zeroCells89.size = 412 := by rw [zero_cells, bodyL_size]
 have HZS := hide hzs
 clear hzs
 go_enter Tryz.func37, Tryz.ntmps37
 go_wp2_with fail
 refine (bodyOn_far a c ca cc n t ba bc _ (L := L) ?hA ?hC ?hB hcap hbl hl hl' hle hnm).mono ?_
 case hA => exact hp.below bw0
 case hC => exact hj.below bw0
 case hB => exact hst.below bw0
 rintro e w1 ⟨hret, hb1⟩
 have hbw1 : Below w.heap.size w w1 := below_then bw0 hb1
 have hres : OwnC w1 (w.heap.size + 1 + 1) 0 412 _ := (own_zero2 w _ _).below hb1
 rcases hret with ⟨hR, ksh, kcsh, kst, kcst, hksh, hkst, rfl⟩ | ⟨hR, rfl⟩
 ·have hst5 := store_new w1 _ (unhide HZS) _ (bodyL_len (.slice a n.pieces.length ca) (.slice ksh n.joints.length kcsh) (.slice kst n.pieces.length kcst) t.front t.long (spare n t) t.back) (bodyL_one _ _ _ _ rfl rfl rfl)
  have hlB := bodyL_len (.slice a n.pieces.length ca) (.slice ksh n.joints.length kcsh) (.slice kst n.pieces.length kcst) t.front t.long (spare n t) t.back
  have hA : Below w1.heap.size w1 (w1.alloc (.cells (bodyL (.slice a n.pieces.length ca) (.slice ksh n.joints.length kcsh) (.slice kst n.pieces.length kcst) t.front t.long (spare n t) t.back).toArray 89)) := bw0
  have hown := own_new w1 (.slice a n.pieces.length ca) (.slice ksh n.joints.length kcsh) (.slice kst n.pieces.length kcst) t.front t.long (spare n t) t.back 89
  have htk : TrkAt 0 w1 (.agg #[.slice a n.pieces.length ca, .slice ksh n.joints.length kcsh, .slice kst n.pieces.length kcst]) n := ⟨_, _, _, _, _, _, rfl, (hp.below hbw1).mono (Nat.zero_le _), hksh.mono (Nat.zero_le _), hkst.mono (Nat.zero_le _)⟩
  have hres2 := hres.below hA
  have hone := bodyL_one (k0 := .slice a n.pieces.length ca) (k1 := .slice ksh n.joints.length kcsh) (k2 := .slice kst n.pieces.length kcst) t.front t.long (spare n t) t.back rfl rfl rfl
  have HKS := hide (hksh.keeps (keeps_below _ hA))
  have HKT := hide (hkst.keeps (keeps_below _ hA))
  have HR := hide hR
  have HTK := hide (htk.below hA)
  have hbwA := below_then hbw1 hA
  have hsz1 := hbw1.size
  have hszA : w1.heap.size < (w1.alloc (.cells (bodyL (.slice a n.pieces.length ca) (.slice ksh n.joints.length kcsh) (.slice kst n.pieces.length kcst) t.front t.long (spare n t) t.back).toArray 89)).heap.size := by simp
  have d3 : (w1.alloc (.cells (bodyL (.slice a n.pieces.length ca) (.slice ksh n.joints.length kcsh) (.slice kst n.pieces.length kcst) t.front t.long (spare n t) t.back).toArray 89)).cell? ⟨w1.heap.size, 3, none⟩ = some (.slice a n.pieces.length ca) := by simpa [bodyF] using (hown.2 3 (by omega)).1
  have d4 : (w1.alloc (.cells (bodyL (.slice a n.pieces.length ca) (.slice ksh n.joints.length kcsh) (.slice kst n.pieces.length kcst) t.front t.long (spare n t) t.back).toArray 89)).cell? ⟨w1.heap.size, 4, none⟩ = some (.slice ksh n.joints.length kcsh) := by simpa [bodyF] using (hown.2 4 (by omega)).1
  have d5 : (w1.alloc (.cells (bodyL (.slice a n.pieces.length ca) (.slice ksh n.joints.length kcsh) (.slice kst n.pieces.length kcst) t.front t.long (spare n t) t.back).toArray 89)).cell? ⟨w1.heap.size, 5, none⟩ = some (.slice kst n.pieces.length kcst) := by simpa [bodyF] using (hown.2 5 (by omega)).1
  have HOWN := hide hown
  have HONE := hide hone
  clear hR hksh hkst htk hown hone hres
  unfold bodyV
  go_wp2_with fail
  refine (liesFit_any _ n _ zs _ _ (unhide HTK) (hz.below hbwA) hl').mono ?_
  rintro e w2 ⟨⟨rfl, hr⟩ | ⟨rfl, hr⟩, hb2⟩
  ·have hbw2 := below_then hbwA hb2
   have hres3 := hres2.below hb2
   have HF := hide hr
   clear hr d3 d4 d5
   go_wp2_with fail
   refine (isFar_any F _).mono ?_
   rintro e w2' ⟨⟨rfl, hf⟩ | ⟨rfl, hf⟩, rfl⟩
   ·have HFF := hide hf
    have HRG := hide ((unhide HOWN).below hb2).range
    have HTH2 := hide hres3.there
    have hldv := loadVar_body _ _ _ (bodyL_len _ _ _ _ _ _ _) (own_put hres3 rfl (k0 := .slice a n.pieces.length ca) (k1 := .slice ksh n.joints.length kcsh) (k2 := .slice kst n.pieces.length kcst) (s := t.front) (long := t.long) (sp := spare n t) (xs := t.back)).range
    have hend := below_puts (B := w.heap.size + 1 + 1) hbw2 (by omega) (bodyL (.slice a n.pieces.length ca) (.slice ksh n.joints.length kcsh) (.slice kst n.pieces.length kcst) t.front t.long (spare n t) t.back)
    clear hf hres2 hres3
    go_wp2_with fail
    refine wp_load_mid 89 (.tmp 10) rfl w1.heap.size 0 rfl (bodyL (.slice a n.pieces.length ca) (.slice ksh n.joints.length kcsh) (.slice kst n.pieces.length kcst) t.front t.long (spare n t) t.back) _ (unhide HRG) Tryz.underlying89 rfl (by rw [info_size, bodyL_len]) ?_
    rename_i hKK
    refine hKK _ _ ?_
    simp only [Act.put, List.setIfInBounds_toArray, List.set_cons_zero, List.set_cons_succ]
    refine wpList_store_mid rfl 89 (.tmp 8) (.tmp 33) rfl (w.heap.size + 1 + 1) 0 (bodyL (.slice a n.pieces.length ca) (.slice ksh n.joints.length kcsh) (.slice kst n.pieces.length kcst) t.front t.long (spare n t) t.back).toArray rfl rfl (unhide HTH2) (by rw [info_size, bodyL_size]) (all_oneCell_toArray (unhide HONE)) ?_
    clear hKK
    go_wp2
    refine bodyPost_ret (v := .tuple #[.agg (bodyL (.slice a n.pieces.length ca) (.slice ksh n.joints.length kcsh) (.slice kst n.pieces.length kcst) t.front t.long (spare n t) t.back).toArray, .bool true]) (by rw [results_cell_tmp rfl]; simp [asAddr, Result.andThen, hldv]) rfl ⟨Or.inl ⟨⟨unhide HR, unhide HF, unhide HFF⟩, _, _, _, _, ?_, ?_, rfl⟩, hend⟩
    ·exact (((unhide HKS).keeps (keeps_below _ hb2)).keeps (keeps_puts _ (by simp) _)).mono (by simp; omega)
    ·exact (((unhide HKT).keeps (keeps_below _ hb2)).keeps (keeps_puts _ (by simp) _)).mono (by simp; omega)
   ·have HN : Hid (¬ OutOk n zs t F) := fun h => hf h.2.2
    have hst4 := store_old _ _ _ hres3 Tryz.zeroCells89.toList zero_len zero_one
    have hldv := zero_load (zero_put hres3)
    have hend := below_puts (B := w.heap.size + 1 + 1) hbw2 (by omega) Tryz.zeroCells89.toList
    clear hf
    go_wp2
    exact bodyPost_ret (v := .tuple #[zeroBody, .bool false]) (by rw [results_cell_tmp rfl]; simp [asAddr, Result.andThen, hldv]) rfl ⟨Or.inr ⟨unhide HN, rfl⟩, hend⟩
  ·have hbw2 := below_then hbwA hb2
   have hres3 := hres2.below hb2
   have HN : Hid (¬ OutOk n zs t F) := fun h => hr h.2.1
   have hst4 := store_old _ _ _ hres3 Tryz.zeroCells89.toList zero_len zero_one
   have hldv := zero_load (zero_put hres3)
   have hend := below_puts (B := w.heap.size + 1 + 1) hbw2 (by omega) Tryz.zeroCells89.toList
   clear hr d3 d4 d5
   go_wp2
   exact bodyPost_ret (v := .tuple #[zeroBody, .bool false]) (by rw [results_cell_tmp rfl]; simp [asAddr, Result.andThen, hldv]) rfl ⟨Or.inr ⟨unhide HN, rfl⟩, hend⟩
 ·have hst5 := store_new w1 _ (unhide HZS) _ (bodyL_len (.slice none 0 0) (.slice none 0 0) (.slice none 0 0) ⟨0, 0, 0⟩ 0 0 []) (bodyL_one _ _ _ _ rfl rfl rfl)
  have hlB := bodyL_len (.slice none 0 0) (.slice none 0 0) (.slice none 0 0) ⟨0, 0, 0⟩ 0 0 []
  have hA : Below w1.heap.size w1 (w1.alloc (.cells (bodyL (.slice none 0 0) (.slice none 0 0) (.slice none 0 0) ⟨0, 0, 0⟩ 0 0 []).toArray 89)) := bw0
  have hbw2 := below_then hbw1 hA
  have hres3 := hres.below hA
  have HN : Hid (¬ OutOk n zs t F) := fun h => hR h.1
  have hst4 := store_old _ _ _ hres3 Tryz.zeroCells89.toList zero_len zero_one
  have hldv := zero_load (zero_put hres3)
  have hend := below_puts (B := w.heap.size + 1 + 1) hbw2 (by omega) Tryz.zeroCells89.toList
  clear hR
  unfold zeroBody bodyV
  go_wp2
  exact bodyPost_ret (v := .tuple #[zeroBody, .bool false]) (by rw [results_cell_tmp rfl]; simp [asAddr, Result.andThen, hldv]) rfl ⟨Or.inr ⟨unhide HN, rfl⟩, hend⟩
end Go.Proofs.YtbdggfpfpjijoaaGreatDoor

namespace Go.Proofs.YtbdggfpfpjijoaaGreatDoor
open Go.RowKit

theorem IntsAt.zero {L : Nat} {w : World} {a : Option Addr} {zs : List Int} (h : IntsAt L w a zs) : IntsAt 0 w a zs := fun i hi => by
 obtain ⟨b, off, e, hb, hc⟩ := h i hi
 exact ⟨b, off, e, ⟨Nat.zero_le _, hb.2⟩, hc⟩
theorem backOk_mv {n : Nt} {long : Int} : ∀ {xs : List St} {hv : Int} {at_ : St}, BackOk n long hv at_ xs → (∀ j, j < xs.length → hv + sumLen n (xs.take j) < long) ∧ long ≤ hv + sumLen n xs := by
 intro xs
 induction xs with
 | nil =>
  intro hv at_ h
  refine ⟨fun j hj => by simp at hj, ?_⟩
  have : long ≤ hv := h
  rw [sumLen_nil]
  omega
 | cons x r ih =>
  intro hv at_ h
  obtain ⟨h1, h2, h3, h4⟩ := h
  obtain ⟨i1, i2⟩ := ih h4
  refine ⟨fun j hj => ?_, by rw [sumLen_cons]; omega⟩
  cases j with
  | zero => simp [sumLen_nil]; omega
  | succ j =>
   rw [List.take_succ_cons, sumLen_cons]
   have := i1 j (by simpa using hj)
   omega

theorem fits_mv {n : Nt} {t : Tr} (h : TrainFits n t) {F : Int} (hF : 0 ≤ F) : MvOk n t.long F ⟨t.front, t.back, 0, []⟩ := by
 obtain ⟨h1, h2⟩ := backOk_mv h.2.2.2
 exact ⟨h.1, backOk_steps h.2.2.2, h.2.2.1, h1, h2, Int.le_refl _, hF, by simp⟩

theorem runIs_code {n : Nt} {zs : List Int} {long F : Int} {m0 m : Mv} {code joint : Int} (h : RunIs n zs long F m0 m code joint) : code = 0 → joint = -1 := by
 intro hc
 rcases h with ⟨_, _, h | ⟨_, _, i, r, _, h | h⟩⟩ | h
 ·exact h.2.2
 ·exact absurd (h.2.1 ▸ hc) h.1
 ·omega
 ·omega

def movedV (code far joint : Int) (s : Sp) (long : Int) (bk ov : Value) : Value := .agg #[.int .i64 code, .int .i64 far, .int .i64 joint, .int .i64 s.piece, .int .i64 s.at_, .int .i64 s.way, .int .i64 long, bk, ov]
def MovedIs (n : Nt) (zs : List Int) (t : Tr) (F : Int) (N : Nat) (e : Ending) (w' : World) : Prop :=
 (OutOk n zs t F ∧ ∃ (m : Mv) (code joint : Int) (ba : Option Addr) (bc : Nat) (oa : Option Addr) (oc : Nat), e = .returned (movedV code m.far joint m.s t.long (.slice ba m.xs.length bc) (.slice oa m.over.length oc)) ∧ RunIs n zs t.long F ⟨t.front, t.back, 0, []⟩ m code joint ∧ StRow w' N (.slice ba m.xs.length bc) m.xs ∧ PtRow w' N (.slice oa m.over.length oc) m.over)
  ∨ (¬ OutOk n zs t F ∧ e = .returned (movedV 5 0 0 ⟨0, 0, 0⟩ 0 (.slice none 0 0) (.slice none 0 0)))

set_option maxRecDepth 100000 in
set_option maxHeartbeats 8000000 in
theorem implMove_any (a c : Option Addr) (ca cc : Nat) (n : Nt) (t : Tr) (ba : Option Addr) (bc : Nat) (zq : Option Addr) (zs : List Int) (zc : Nat) (F : Int) (w : World) {L L' : Nat} (hp : PcsAt L w a n.pieces) (hj : JtsAt L w c n.joints) (hst : StsAt 0 w ba t.back) (hz : IntsAt L' w zq zs) (hcap : t.back.length ≤ bc) (hbl : t.back.length ≤ 1048576)
  (hl : n.pieces.length ≤ 1048576) (hl' : n.joints.length ≤ 1048576) (hle : ∀ i (h : i < n.joints.length), n.joints[i].name.size ≤ maxLen) (hnm : ∀ i (h : i < n.pieces.length), n.pieces[i].name.size ≤ maxLen)
  (hg : w.cell? ⟨0, 0, none⟩ = some (.iface 267 (.agg #[.pointer (some ⟨4, 96, none⟩)]))) :
  Calls Tryz.prog 9 #[.agg #[.slice a n.pieces.length ca, .slice c n.joints.length cc], .slice zq zs.length zc, .agg #[.int .i64 t.front.piece, .int .i64 t.front.at_, .int .i64 t.front.way, .int .i64 t.long, .slice ba t.back.length bc], .int .i64 F] w fun e w' => MovedIs n zs t F w.heap.size e w' ∧ Below w.heap.size w w' := by
 have hzs : Tryz.zeroCells89.size = 412 := by rw [zero_cells, bodyL_size]
 have HZS := hide hzs
 have hw0 : 0 < w.heap.size := by
  rcases Nat.eq_zero_or_pos w.heap.size with h0 | h
  ·simp [World.cell?, h0] at hg
  ·exact h
 have HG0 := hide hg
 clear hzs hg
 go_enter Tryz.func9, Tryz.ntmps9
 go_wp2_with fail
 refine (setOut_any a c ca cc n t ba bc zq zs zc F _ (L := L) (L' := L') ?hA ?hC ?hB ?hZ hcap hbl hl hl' hle hnm).mono ?_
 case hA => exact hp.below bw0
 case hC => exact hj.below bw0
 case hB => exact hst.below bw0
 case hZ => exact hz.below bw0
 rintro e w1 ⟨hret, hb1⟩
 have hbw1 : Below w.heap.size w w1 := below_then bw0 hb1
 have hR9 : Boxed w1 (w.heap.size + 1 + 1) [.int .i64 0, .int .i64 0, .int .i64 0, .int .i64 0, .int .i64 0, .int .i64 0, .int .i64 0, .slice none 0 0, .slice none 0 0] := (boxedN _ _ _ (by simp)).below hb1
 rcases hret with ⟨hOut, ksh, kcsh, kst, kcst, hksh, hkst, rfl⟩ | ⟨hOut, rfl⟩
 ·have hst5 := store_new w1 _ (unhide HZS) _ (bodyL_len (.slice a n.pieces.length ca) (.slice ksh n.joints.length kcsh) (.slice kst n.pieces.length kcst) t.front t.long (spare n t) t.back) (bodyL_one _ _ _ _ rfl rfl rfl)
  have hlB := bodyL_len (.slice a n.pieces.length ca) (.slice ksh n.joints.length kcsh) (.slice kst n.pieces.length kcst) t.front t.long (spare n t) t.back
  have hA : Below w1.heap.size w1 (w1.alloc (.cells (bodyL (.slice a n.pieces.length ca) (.slice ksh n.joints.length kcsh) (.slice kst n.pieces.length kcst) t.front t.long (spare n t) t.back).toArray 89)) := bw0
  have hown := own_new w1 (.slice a n.pieces.length ca) (.slice ksh n.joints.length kcsh) (.slice kst n.pieces.length kcst) t.front t.long (spare n t) t.back 89
  have htk : TrkAt 0 w1 (.agg #[.slice a n.pieces.length ca, .slice ksh n.joints.length kcsh, .slice kst n.pieces.length kcst]) n := ⟨_, _, _, _, _, _, rfl, (hp.below hbw1).mono (Nat.zero_le _), hksh.mono (Nat.zero_le _), hkst.mono (Nat.zero_le _)⟩
  have hG := netGood hOut.1.1
  have hMv := fits_mv hOut.1.2 hOut.2.2.1
  have hspe : spare n t = spareOf n t.long t.front t.back := by unfold spare spareOf; omega
  have HOUT := hide hOut
  have HTK := hide htk
  have HOWN := hide hown
  have HMV := hide hMv
  have HSPE := hide hspe
  have hR9A := hR9.below hA
  have hbwA := below_then hbw1 hA
  clear hOut hksh hkst htk hown hMv hspe
  unfold bodyV
  go_wp2_with fail
  refine (run_any w1.heap.size n a ksh kst ca kcsh kcst t.front t.long F t.back zq zs zc _ ?hb (fun wb ho => (unhide HTK).below (hA.trans (ho.below ?hs1 ?hs2))) ?hkB hG (fun wb ho => ((hz.below hbw1).zero).below (hA.trans (ho.below ?hs3 ?hs4))) (unhide HOUT).2.1.1 (unhide HMV) (by have := (unhide HOUT).1.2.2.1.1; omega) (unhide HOUT).2.2.2).mono ?_
  case hb => rw [← unhide HSPE]; exact unhide HOWN
  case hs1 => simp
  case hs2 => exact fun k hk he => by omega
  case hs3 => simp
  case hs4 => exact fun k hk he => by omega
  case hkB =>
   intro b off hb
   obtain ⟨b', off', e', h', _⟩ := hp 0 (by have := (unhide HMV).spot.1; dsimp only at this; omega)
   rw [hb] at e'
   simp at e'
   have h2 := hbw1.size
   have h3 := h'.2
   omega
  rintro e w2 ⟨m, ov, sx, code, joint, rfl, hrun, hgb, hrow, hov, hoks, hfew, ho2⟩
  have hs9 := hR9.1
  have hsA : w1.heap.size < (w1.alloc (.cells (bodyL (.slice a n.pieces.length ca) (.slice ksh n.joints.length kcsh) (.slice kst n.pieces.length kcst) t.front t.long (spare n t) t.back).toArray 89)).heap.size := by simp
  have hbw2 : Below w.heap.size w w2 := hbwA.trans (ho2.below (by have := hbw1.size; omega) (fun k hk he => by have := hbw1.size; omega))
  have hR92 := hR9A.onlyS ho2.ob (show ¬ w.heap.size + 1 + 1 = w1.heap.size by omega)
  have htk2 : TrkAt 0 w2 (.agg #[.slice a n.pieces.length ca, .slice ksh n.joints.length kcsh, .slice kst n.pieces.length kcst]) n := (unhide HTK).below (hA.trans (ho2.below (by omega) (fun k hk he => by omega)))
  have hB12 := hgb.lt
  obtain ⟨oa, oc, hov', hocap, hsxs⟩ := sxRow_at hrow
  subst hov'
  have hg2 : w2.cell? ⟨0, 0, none⟩ = some (.iface 267 (.agg #[.pointer (some ⟨4, 96, none⟩)])) := (hbw2.cell hw0).trans (unhide HG0)
  have HRUN := hide hrun
  have HGB := hide hgb
  have HOV := hide hov
  have HOKS := hide hoks
  have HSXS := hide hsxs
  have HTK2 := hide htk2
  have HG2 := hide hg2
  have HFEW := hide hfew
  clear hrun hgb hov hoks hsxs htk2 hg2 hfew hrow ho2 hR9A hR9 HOWN HTK hA hbwA hsA hst5 hlB
  go_wp2_with fail
  refine (haltOf_any code joint (runIs_code (unhide HRUN)) _ ?_).mono ?_
  ·rw [World.cell?_alloc_lt _ _ ⟨0, 0, none⟩ (show 0 < w2.heap.size by omega)]; exact unhide HG2
  rintro e w3 ⟨rfl, hb3⟩
  have hRn3 : Boxed w3 w2.heap.size [.slice oa sx.length oc, .int .i64 m.far] := (boxed_alloc _ _ _).below hb3
  have hb23 : Below w2.heap.size w2 w3 := below_then bw0 hb3
  have hgb3 := (unhide HGB).below hb23
  have hR93 := hR92.below hb23
  have htk3 := (unhide HTK2).below hb23
  have hsx3 := (unhide HSXS).below hb23
  have hbw3 := below_then hbw2 hb23
  obtain ⟨_, _, _, c3, c4, c5, _, _, _⟩ := hgb3.cells
  have HGB3 := hide hgb3
  have HTK3 := hide htk3
  have HSX3 := hide hsx3
  have hs3 := hRn3.1
  have n0 := hRn3.2.1 0 _ rfl
  have n1 := hRn3.2.1 1 _ rfl
  have r0 := hR93.2.1 0 _ rfl
  have r1 := hR93.2.1 1 _ rfl
  have r2 := hR93.2.1 2 _ rfl
  have r3 := hR93.2.1 3 _ rfl
  have r4 := hR93.2.1 4 _ rfl
  have r5 := hR93.2.1 5 _ rfl
  have r6 := hR93.2.1 6 _ rfl
  have r7 := hR93.2.1 7 _ rfl
  have r8 := hR93.2.1 8 _ rfl
  have rz := hR93.2.2
  have rl := hR93.1
  clear hgb3 htk3 hsx3 HGB HTK2 HSXS HG2 hR92
  have m0 : ¬ w.heap.size + 1 + 1 = w3.heap.size := by omega
  have m1 : ¬ w3.heap.size = w.heap.size + 1 + 1 := by omega
  have m2 : ¬ w1.heap.size = w3.heap.size := by omega
  have m3 : ¬ w2.heap.size = w3.heap.size := by omega
  have m4 : ¬ w2.heap.size = w.heap.size + 1 + 1 := by omega
  have m5 : ¬ w.heap.size + 1 + 1 = w2.heap.size := by omega
  have m6 : ¬ w1.heap.size = w.heap.size + 1 + 1 := by omega
  have m7 : ¬ w.heap.size + 1 + 1 = w1.heap.size := by omega
  go_wp2_with fail
  go_region_held3 (fun w' => w'.cell? ⟨w3.heap.size, 0, none⟩ = some (.int .i64 code) ∧ w'.cell? ⟨w3.heap.size, 1, none⟩ = some (.int .i64 joint) ∧ w'.cell? ⟨w2.heap.size, 0, none⟩ = some (.slice oa sx.length oc) ∧ w'.cell? ⟨w2.heap.size, 1, none⟩ = some (.int .i64 m.far) ∧ w'.cell? ⟨w1.heap.size, 3, none⟩ = some (.slice a n.pieces.length ca) ∧ w'.cell? ⟨w1.heap.size, 4, none⟩ = some (.slice ksh n.joints.length kcsh) ∧ w'.cell? ⟨w1.heap.size, 5, none⟩ = some (.slice kst n.pieces.length kcst))
   (((try dsimp only); (repeat' apply And.intro)) <;> (go_keep; done))
   (first
    | (go_at_call 40; refine (train_any w1.heap.size _ _ _ m.s t.long _ m.xs _ ((unhide HGB3).below bw0)).mono ?_; rintro e w4 ⟨ba', bc', rfl, hrow4, hb4⟩; obtain ⟨hc4, hf4⟩ := bcell hb4; have sz4 := hb4.size; (try simp at sz4); (try have lt4 := Nat.lt_of_succ_le sz4); have l4 : w.heap.size + 1 + 1 < w4.heap.size := (by omega); have z4 := (fun i => hf4 (w.heap.size + 1 + 1) i (by first | omega | (simp; omega))); have q0 := hc4 (w3.heap.size) (0) (by first | (simp; done) | (simp; omega) | omega); have q1 := hc4 (w3.heap.size) (1) (by first | (simp; done) | (simp; omega) | omega); have q2 := hc4 (w2.heap.size) (0) (by first | (simp; done) | (simp; omega) | omega); have q3 := hc4 (w2.heap.size) (1) (by first | (simp; done) | (simp; omega) | omega); have q4 := hc4 (w1.heap.size) (0) (by first | (simp; done) | (simp; omega) | omega); have q5 := hc4 (w1.heap.size) (1) (by first | (simp; done) | (simp; omega) | omega); have q6 := hc4 (w1.heap.size) (2) (by first | (simp; done) | (simp; omega) | omega); have q7 := hc4 (w1.heap.size) (3) (by first | (simp; done) | (simp; omega) | omega); have q8 := hc4 (w1.heap.size) (4) (by first | (simp; done) | (simp; omega) | omega); have q9 := hc4 (w1.heap.size) (5) (by first | (simp; done) | (simp; omega) | omega); have q10 := hc4 (w.heap.size+1+1) (0) (by first | (simp; done) | (simp; omega) | omega); have q11 := hc4 (w.heap.size+1+1) (1) (by first | (simp; done) | (simp; omega) | omega); have q12 := hc4 (w.heap.size+1+1) (2) (by first | (simp; done) | (simp; omega) | omega); have q13 := hc4 (w.heap.size+1+1) (3) (by first | (simp; done) | (simp; omega) | omega); have q14 := hc4 (w.heap.size+1+1) (4) (by first | (simp; done) | (simp; omega) | omega); have q15 := hc4 (w.heap.size+1+1) (5) (by first | (simp; done) | (simp; omega) | omega); have q16 := hc4 (w.heap.size+1+1) (6) (by first | (simp; done) | (simp; omega) | omega); have q17 := hc4 (w.heap.size+1+1) (7) (by first | (simp; done) | (simp; omega) | omega); have q18 := hc4 (w.heap.size+1+1) (8) (by first | (simp; done) | (simp; omega) | omega))
    | (go_at_call 41; refine (kpartsOf_any _ n oa oc sx _ ((unhide HTK3).below (below_then bw0 hb4)) ((unhide HSX3).below (below_then bw0 hb4)) hG (unhide HOKS) (by have := unhide HFEW; omega)).mono ?_; rintro e w5 ⟨u5, rfl, hrow5, hb5⟩; obtain ⟨hc5, hf5⟩ := bcell hb5; have sz5 := hb5.size; (try simp at sz5); have l5 : w.heap.size + 1 + 1 < w5.heap.size := (by omega); have z5 := (fun i => hf5 (w.heap.size + 1 + 1) i (by first | omega | (simp; omega))); obtain ⟨pa, pc, hu5, hpcap, hpts⟩ := ptRow_at hrow5; subst hu5; have p0 := hc5 (w3.heap.size) (0) (by first | (simp; done) | (simp; omega) | omega); have p1 := hc5 (w3.heap.size) (1) (by first | (simp; done) | (simp; omega) | omega); have p2 := hc5 (w2.heap.size) (0) (by first | (simp; done) | (simp; omega) | omega); have p3 := hc5 (w2.heap.size) (1) (by first | (simp; done) | (simp; omega) | omega); have p4 := hc5 (w1.heap.size) (0) (by first | (simp; done) | (simp; omega) | omega); have p5 := hc5 (w1.heap.size) (1) (by first | (simp; done) | (simp; omega) | omega); have p6 := hc5 (w1.heap.size) (2) (by first | (simp; done) | (simp; omega) | omega); have p7 := hc5 (w1.heap.size) (3) (by first | (simp; done) | (simp; omega) | omega); have p8 := hc5 (w1.heap.size) (4) (by first | (simp; done) | (simp; omega) | omega); have p9 := hc5 (w1.heap.size) (5) (by first | (simp; done) | (simp; omega) | omega); have p10 := hc5 (w.heap.size+1+1) (0) (by first | (simp; done) | (simp; omega) | omega); have p11 := hc5 (w.heap.size+1+1) (1) (by first | (simp; done) | (simp; omega) | omega); have p12 := hc5 (w.heap.size+1+1) (2) (by first | (simp; done) | (simp; omega) | omega); have p13 := hc5 (w.heap.size+1+1) (3) (by first | (simp; done) | (simp; omega) | omega); have p14 := hc5 (w.heap.size+1+1) (4) (by first | (simp; done) | (simp; omega) | omega); have p15 := hc5 (w.heap.size+1+1) (5) (by first | (simp; done) | (simp; omega) | omega); have p16 := hc5 (w.heap.size+1+1) (6) (by first | (simp; done) | (simp; omega) | omega); have p17 := hc5 (w.heap.size+1+1) (7) (by first | (simp; done) | (simp; omega) | omega); have p18 := hc5 (w.heap.size+1+1) (8) (by first | (simp; done) | (simp; omega) | omega)))
  all_goals have hb34 : Below w3.heap.size w3 w4 := below_then bw0 hb4
  all_goals have hb35 : Below w3.heap.size w3 w5 := below_then hb34 (below_then bw0 hb5)
  all_goals have hR95 := hR93.below hb35
  all_goals have hRf := (((((((((hR95.setAt (i := 0) (by simp) (.int .i64 code)).setAt (i := 1) (by simp) (.int .i64 m.far)).setAt (i := 2) (by simp) (.int .i64 joint)).setAt (i := 3) (by simp) (.int .i64 m.s.piece)).setAt (i := 4) (by simp) (.int .i64 m.s.at_)).setAt (i := 5) (by simp) (.int .i64 m.s.way)).setAt (i := 6) (by simp) (.int .i64 t.long)).setAt (i := 7) (by simp) (.slice ba' m.xs.length bc')).setAt (i := 8) (by simp) (.slice pa (partsL n sx).length pc))
  all_goals have hOf := (((((((((only_setCell (S := fun k => k = w.heap.size + 1 + 1) w5 (p := ⟨w.heap.size + 1 + 1, 0, none⟩) rfl (.int .i64 code)).trans (only_setCell (S := fun k => k = w.heap.size + 1 + 1) _ (p := ⟨w.heap.size + 1 + 1, 1, none⟩) rfl (.int .i64 m.far))).trans (only_setCell (S := fun k => k = w.heap.size + 1 + 1) _ (p := ⟨w.heap.size + 1 + 1, 2, none⟩) rfl (.int .i64 joint))).trans (only_setCell (S := fun k => k = w.heap.size + 1 + 1) _ (p := ⟨w.heap.size + 1 + 1, 3, none⟩) rfl (.int .i64 m.s.piece))).trans (only_setCell (S := fun k => k = w.heap.size + 1 + 1) _ (p := ⟨w.heap.size + 1 + 1, 4, none⟩) rfl (.int .i64 m.s.at_))).trans (only_setCell (S := fun k => k = w.heap.size + 1 + 1) _ (p := ⟨w.heap.size + 1 + 1, 5, none⟩) rfl (.int .i64 m.s.way))).trans (only_setCell (S := fun k => k = w.heap.size + 1 + 1) _ (p := ⟨w.heap.size + 1 + 1, 6, none⟩) rfl (.int .i64 t.long))).trans (only_setCell (S := fun k => k = w.heap.size + 1 + 1) _ (p := ⟨w.heap.size + 1 + 1, 7, none⟩) rfl (.slice ba' m.xs.length bc'))).trans (only_setCell (S := fun k => k = w.heap.size + 1 + 1) _ (p := ⟨w.heap.size + 1 + 1, 8, none⟩) rfl (.slice pa (partsL n sx).length pc)))
  all_goals have f0 := hRf.2.1 0 _ rfl
  all_goals have f1 := hRf.2.1 1 _ rfl
  all_goals have f2 := hRf.2.1 2 _ rfl
  all_goals have f3 := hRf.2.1 3 _ rfl
  all_goals have f4 := hRf.2.1 4 _ rfl
  all_goals have f5 := hRf.2.1 5 _ rfl
  all_goals have f6 := hRf.2.1 6 _ rfl
  all_goals have f7 := hRf.2.1 7 _ rfl
  all_goals have f8 := hRf.2.1 8 _ rfl
  all_goals have hst5 := (hrow4.below (below_then bw0 hb5)).only hOf (fun k hk (he : k = w.heap.size + 1 + 1) => by have h1 := (hrow4.lt k hk).1; (try simp at h1); omega)
  all_goals have hpt5 := hrow5.only hOf (fun k hk (he : k = w.heap.size + 1 + 1) => by have h1 := (hrow5.lt k hk).1; (try simp at h1); omega)
  all_goals have hbf : Below w.heap.size w w5 := below_then hbw3 hb35
  all_goals have hbff := hbf.trans (hOf.below (by have := hbf.size; omega) (fun k hk (he : k = w.heap.size + 1 + 1) => by omega))
  all_goals have HF := hide (And.intro f0 (And.intro f1 (And.intro f2 (And.intro f3 (And.intro f4 (And.intro f5 (And.intro f6 (And.intro f7 f8))))))))
  all_goals have HST5 := hide hst5
  all_goals have HPT5 := hide hpt5
  all_goals have HBFF := hide hbff
  all_goals clear f0 f1 f2 f3 f4 f5 f6 f7 f8 hst5 hpt5 hbff hRf hOf hbf hR95 hb35 hb34 q0 q1 q2 q3 p0 p1 p2 p3 r0 r1 r2 r3 r4 r5 r6 r7 r8 hc4 hf4 hc5 hf5 z4 z5
  all_goals go_wp2
  all_goals obtain ⟨f0, f1, f2, f3, f4, f5, f6, f7, f8⟩ := unhide HF
  all_goals refine bodyPost_ret (v := movedV code m.far joint m.s t.long (.slice ba' m.xs.length bc') (.slice pa (partsL n sx).length pc)) (by simp [results, Tryz.results9, go_sem, f0, f1, f2, f3, f4, f5, f6, f7, f8, movedV]) rfl ⟨Or.inl ⟨unhide HOUT, m, code, joint, ba', bc', pa, pc, by rw [unhide HOV], unhide HRUN, (unhide HST5).mono ?_, ?_⟩, unhide HBFF⟩
  all_goals first | (rw [← unhide HOV]; exact (unhide HPT5).mono (by (try simp); omega)) | ((try simp); omega)
 ·have hst5 := store_new w1 _ (unhide HZS) _ (bodyL_len (.slice none 0 0) (.slice none 0 0) (.slice none 0 0) ⟨0, 0, 0⟩ 0 0 []) (bodyL_one _ _ _ _ rfl rfl rfl)
  have hlB := bodyL_len (.slice none 0 0) (.slice none 0 0) (.slice none 0 0) ⟨0, 0, 0⟩ 0 0 []
  have hA : Below w1.heap.size w1 (w1.alloc (.cells (bodyL (.slice none 0 0) (.slice none 0 0) (.slice none 0 0) ⟨0, 0, 0⟩ 0 0 []).toArray 89)) := bw0
  have hbw2 := below_then hbw1 hA
  have hR92 := hR9.below hA
  generalize w1.alloc (.cells (bodyL (.slice none 0 0) (.slice none 0 0) (.slice none 0 0) ⟨0, 0, 0⟩ 0 0 []).toArray 89) = wA at *
  have r0 := hR92.2.1 0 _ rfl
  have r1 := hR92.2.1 1 _ rfl
  have r2 := hR92.2.1 2 _ rfl
  have r3 := hR92.2.1 3 _ rfl
  have r4 := hR92.2.1 4 _ rfl
  have r5 := hR92.2.1 5 _ rfl
  have r6 := hR92.2.1 6 _ rfl
  have r7 := hR92.2.1 7 _ rfl
  have r8 := hR92.2.1 8 _ rfl
  have rz := hR92.2.2
  have rl := hR92.1
  have HN := hide hOut
  clear hOut
  unfold zeroBody bodyV
  go_wp2
  refine bodyPost_ret (v := movedV 5 0 0 ⟨0, 0, 0⟩ 0 (.slice none 0 0) (.slice none 0 0)) (by simp [results, Tryz.results9, go_sem, r0, r1, r2, r3, r4, r5, r6, r7, r8, movedV]) rfl ⟨Or.inr ⟨unhide HN, rfl⟩, (bw1 hbw2)⟩
end Go.Proofs.YtbdggfpfpjijoaaGreatDoor

