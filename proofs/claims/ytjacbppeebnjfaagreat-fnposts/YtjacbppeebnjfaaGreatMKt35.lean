import Derived.Test.YtjacbppeebnjfaaGreatKt34
import Derived.Test.YtjacbppeebnjfaaGreatMDr1
import Derived.Test.YtjacbppeebnjfaaGreatMKt12
import Derived.Test.YtjacbppeebnjfaaGreatMPs4
import Derived.Test.YtjacbppeebnjfaaGreatQ1
namespace Go.Proofs.YtjacbppeebnjfaaGreat
open Go.RowKit

def RetOnF (n : Nt) (t : Tr) (a : Option Addr) (ca N : Nat) (e : Ending) (w' : World) : Prop :=
 (TrainRight n t ∧ ∃ ksh kcsh kst kcst, ShsAt N w' ksh n.joints ∧ SdsAt N w' kst n ∧ e = .returned (.tuple #[bodyV (.slice a n.pieces.length ca) (.slice ksh n.joints.length kcsh) (.slice kst n.pieces.length kcst) t.front t.long (spare n t) t.back, .bool true])) ∨ (¬ TrainRight n t ∧ e = .returned (.tuple #[zeroBody, .bool false]))

set_option maxRecDepth 100000 in
set_option maxHeartbeats 4000000 in
theorem bodyOn_far (a c : Option Addr) (ca cc : Nat) (n : Nt) (t : Tr) (ba : Option Addr) (bc : Nat) (w : World) {L : Nat} (hp : PcsAt L w a n.pieces) (hj : JtsAt L w c n.joints) (hst : StsAt 0 w ba t.back) (hcap : t.back.length ≤ bc) (hbl : t.back.length ≤ 1048576)
  (hl : n.pieces.length ≤ 1048576) (hl' : n.joints.length ≤ 1048576) (hle : ∀ i (h : i < n.joints.length), n.joints[i].name.size ≤ maxLen) (hnm : ∀ i (h : i < n.pieces.length), n.pieces[i].name.size ≤ maxLen) :
  Calls Tryz.prog 39 #[.agg #[.slice a n.pieces.length ca, .slice c n.joints.length cc], .agg #[.int .i64 t.front.piece, .int .i64 t.front.at_, .int .i64 t.front.way, .int .i64 t.long, .slice ba t.back.length bc]] w fun e w' => RetOnF n t a ca w.heap.size e w' ∧ Below w.heap.size w w' := by
 go_enter Tryz.func39, Tryz.ntmps39
 go_wp2_with fail
 refine (trackOf_far a c ca cc n _ (L := L) ?hA ?hB hl hl' hle hnm).mono ?_
 case hA => exact hp.below bw0
 case hB => exact hj.below bw0
 rintro e w1 ⟨hret, hb1⟩
 have hbw1 : Below w.heap.size w w1 := below_then bw0 hb1
 have hres : OwnC w1 (w.heap.size + 1 + 1) 0 412 _ := (own_zero2 w _ _).below hb1
 have hBt1 : Boxed w1 (w.heap.size + 1) [.int .i64 t.front.piece, .int .i64 t.front.at_, .int .i64 t.front.way, .int .i64 t.long, .slice ba t.back.length bc] := ((boxedN _ #[.int .i64 t.front.piece, .int .i64 t.front.at_, .int .i64 t.front.way, .int .i64 t.long, .slice ba t.back.length bc] 32 (N := w.heap.size + 1) (by simp)).alloc _).below hb1
 rcases hret with ⟨hR, ksh, kcsh, kst, kcst, rfl, hksh, hkst⟩ | ⟨hR, rfl⟩
 ·have hG := netGood hR
  have hkk : TrkAt 0 w1 (.agg #[.slice a n.pieces.length ca, .slice ksh n.joints.length kcsh, .slice kst n.pieces.length kcst]) n := ⟨_, _, _, _, _, _, rfl, (hp.below hbw1).mono (Nat.zero_le _), hksh.mono (Nat.zero_le _), hkst.mono (Nat.zero_le _)⟩
  have HR := hide hR
  have HKS := hide hksh
  have HKT := hide hkst
  clear hR hksh hkst
  have hA : Below w1.heap.size w1 (w1.alloc (.cells #[.slice a n.pieces.length ca, .slice ksh n.joints.length kcsh, .slice kst n.pieces.length kcst] 65)) := bw0
  have hBt2 := hBt1.below hA
  have b0 := hBt2.2.1 0 _ rfl
  have b1 := hBt2.2.1 1 _ rfl
  have b2 := hBt2.2.1 2 _ rfl
  have b3 := hBt2.2.1 3 _ rfl
  have b4 := hBt2.2.1 4 _ rfl
  have n1 := hBt1.1
  have b0' := hBt1.2.1 0 _ rfl
  have b1' := hBt1.2.1 1 _ rfl
  have b2' := hBt1.2.1 2 _ rfl
  have b3' := hBt1.2.1 3 _ rfl
  have b4' := hBt1.2.1 4 _ rfl
  go_wp2_with fail
  refine (bodyOf_any n t _ _ _ ba bc _ (hkk.below hA) hG ?_ hcap hbl).mono ?_
  ·exact hst.below (below_then hbw1 hA)
  rintro e w2 ⟨⟨hF, rfl⟩ | ⟨hF, rfl⟩, hb2⟩
  ·have hbw2 := below_then (below_then hbw1 hA) hb2
   have hres2 := (hres.below hA).below hb2
   have hone := bodyL_one (k0 := .slice a n.pieces.length ca) (k1 := .slice ksh n.joints.length kcsh) (k2 := .slice kst n.pieces.length kcst) t.front t.long (spare n t) t.back rfl rfl rfl
   have hst4 := store_old _ _ _ hres2 _ (bodyL_len (.slice a n.pieces.length ca) (.slice ksh n.joints.length kcsh) (.slice kst n.pieces.length kcst) t.front t.long (spare n t) t.back) hone
   have hldv := loadVar_body _ _ _ (bodyL_len _ _ _ _ _ _ _) (own_put hres2 rfl (k0 := .slice a n.pieces.length ca) (k1 := .slice ksh n.joints.length kcsh) (k2 := .slice kst n.pieces.length kcst) (s := t.front) (long := t.long) (sp := spare n t) (xs := t.back)).range
   have hend := below_puts (B := w.heap.size + 1 + 1) hbw2 (by omega) (bodyL (.slice a n.pieces.length ca) (.slice ksh n.joints.length kcsh) (.slice kst n.pieces.length kcst) t.front t.long (spare n t) t.back)
   have hlB := bodyL_len (.slice a n.pieces.length ca) (.slice ksh n.joints.length kcsh) (.slice kst n.pieces.length kcst) t.front t.long (spare n t) t.back
   have HF := hide hF
   unfold bodyV
   clear hone hF b0 b1 b2 b3 b4 b0' b1' b2' b3' b4'
   go_wp2
   refine bodyPost_ret (v := .tuple #[.agg (bodyL (.slice a n.pieces.length ca) (.slice ksh n.joints.length kcsh) (.slice kst n.pieces.length kcst) t.front t.long (spare n t) t.back).toArray, .bool true]) (by rw [results_cell_tmp rfl]; simp [asAddr, Result.andThen, hldv]) rfl ⟨Or.inl ⟨⟨unhide HR, unhide HF⟩, _, _, _, _, ?_, ?_, rfl⟩, hend⟩
   ·exact (((unhide HKS).keeps (keeps_below _ (below_then hA hb2))).keeps (keeps_puts _ (by simp) _)).mono (by simp; omega)
   ·exact (((unhide HKT).keeps (keeps_below _ (below_then hA hb2))).keeps (keeps_puts _ (by simp) _)).mono (by simp; omega)
  ·have hbw2 := below_then (below_then hbw1 hA) hb2
   have hres2 := (hres.below hA).below hb2
   have hend := below_puts (B := w.heap.size + 1 + 1) hbw2 (by omega) (bodyL (.slice none 0 0) (.slice none 0 0) (.slice none 0 0) ⟨0, 0, 0⟩ 0 0 [])
   have hlB := bodyL_len (.slice none 0 0) (.slice none 0 0) (.slice none 0 0) ⟨0, 0, 0⟩ 0 0 []
   have HN : Hid (¬ TrainRight n t) := fun h => hF h.2
   unfold zeroBody bodyV
   clear hF b0 b1 b2 b3 b4 b0' b1' b2' b3' b4'
   have hst4 := store_old _ _ _ hres2 _ (bodyL_len (.slice none 0 0) (.slice none 0 0) (.slice none 0 0) ⟨0, 0, 0⟩ 0 0 []) (bodyL_one _ _ _ _ rfl rfl rfl)
   have hldv := zero_load (own_put hres2 rfl (k0 := .slice none 0 0) (k1 := .slice none 0 0) (k2 := .slice none 0 0) (s := ⟨0, 0, 0⟩) (long := 0) (sp := 0) (xs := []))
   go_wp2
   exact bodyPost_ret (v := .tuple #[zeroBody, .bool false]) (by rw [results_cell_tmp rfl]; simp [asAddr, Result.andThen, hldv]) rfl ⟨Or.inr ⟨unhide HN, rfl⟩, hend⟩
 ·have hA : Below w1.heap.size w1 (w1.alloc (.cells #[.slice none 0 0, .slice none 0 0, .slice none 0 0] 65)) := bw0
  have hbw2 := below_then hbw1 hA
  have hres2 := hres.below hA
  have hend := below_puts (B := w.heap.size + 1 + 1) hbw2 (by omega) Tryz.zeroCells72.toList
  have HN : Hid (¬ TrainRight n t) := fun h => hR h.1
  clear hR
  have hst4 := store_old _ _ _ hres2 Tryz.zeroCells72.toList zero_len zero_one
  have hldv := zero_load (zero_put hres2)
  go_wp2
  exact bodyPost_ret (v := .tuple #[zeroBody, .bool false]) (by rw [results_cell_tmp rfl]; simp [asAddr, Result.andThen, hldv]) rfl ⟨Or.inr ⟨unhide HN, rfl⟩, hend⟩

def OutOk (n : Nt) (zs : List Int) (t : Tr) (F : Int) : Prop := TrainRight n t ∧ LiesFit n.joints zs ∧ (0 ≤ F ∧ F ≤ 10000)
def RetOut (n : Nt) (zs : List Int) (t : Tr) (F : Int) (a : Option Addr) (ca N : Nat) (e : Ending) (w' : World) : Prop :=
 (OutOk n zs t F ∧ ∃ ksh kcsh kst kcst, ShsAt N w' ksh n.joints ∧ SdsAt N w' kst n ∧ e = .returned (.tuple #[bodyV (.slice a n.pieces.length ca) (.slice ksh n.joints.length kcsh) (.slice kst n.pieces.length kcst) t.front t.long (spare n t) t.back, .bool true])) ∨ (¬ OutOk n zs t F ∧ e = .returned (.tuple #[zeroBody, .bool false]))

theorem isFar_any (F : Int) (w : World) : Calls Tryz.prog 41 #[.int .i64 F] w fun e w' => RetB (0 ≤ F ∧ F ≤ 10000) e ∧ w' = w := by
 go_enter Tryz.func41, Tryz.ntmps41
 by_cases h0 : 0 ≤ F
 ·by_cases h1 : F ≤ 10000
  ·go_wp2
   go_ret
   exact ⟨retB_true ⟨h0, h1⟩, rfl⟩
  ·go_wp2
   go_ret
   exact ⟨retB_false fun h => by omega, rfl⟩
 ·go_wp2
  go_ret
  exact ⟨retB_false fun h => by omega, rfl⟩

set_option maxRecDepth 100000 in
set_option maxHeartbeats 4000000 in
theorem setOut_any (a c : Option Addr) (ca cc : Nat) (n : Nt) (t : Tr) (ba : Option Addr) (bc : Nat) (zq : Option Addr) (zs : List Int) (zc : Nat) (F : Int) (w : World) {L L' : Nat} (hp : PcsAt L w a n.pieces) (hj : JtsAt L w c n.joints) (hst : StsAt 0 w ba t.back) (hz : IntsAt L' w zq zs) (hcap : t.back.length ≤ bc) (hbl : t.back.length ≤ 1048576)
  (hl : n.pieces.length ≤ 1048576) (hl' : n.joints.length ≤ 1048576) (hle : ∀ i (h : i < n.joints.length), n.joints[i].name.size ≤ maxLen) (hnm : ∀ i (h : i < n.pieces.length), n.pieces[i].name.size ≤ maxLen) :
  Calls Tryz.prog 17 #[.agg #[.slice a n.pieces.length ca, .slice c n.joints.length cc], .slice zq zs.length zc, .agg #[.int .i64 t.front.piece, .int .i64 t.front.at_, .int .i64 t.front.way, .int .i64 t.long, .slice ba t.back.length bc], .int .i64 F] w fun e w' => RetOut n zs t F a ca w.heap.size e w' ∧ Below w.heap.size w w' := by
 have hzs : Tryz.zeroCells72.size = 412 := by rw [zero_cells, bodyL_size]
 have HZS := hide hzs
 clear hzs
 go_enter Tryz.func17, Tryz.ntmps17
 go_wp2_with fail
 refine (bodyOn_far a c ca cc n t ba bc _ (L := L) ?hA ?hC ?hB hcap hbl hl hl' hle hnm).mono ?_
 case hA => exact hp.below bw0
 case hC => exact hj.below bw0
 case hB => exact hst.below bw0
 rintro e w1 ⟨hret, hb1⟩
 have hbw1 : Below w.heap.size w w1 := below_then bw0 hb1
 have hres : OwnC w1 (w.heap.size + 1 + 1) 0 412 _ := (own_zero2 w _ _).below hb1
 rcases hret with ⟨hR, ksh, kcsh, kst, kcst, hksh, hkst, rfl⟩ | ⟨hR, rfl⟩
 ·have hst5 := store_new w1 _ (unhide HZS) _ (bodyL_len (.slice a n.pieces.length ca) (.slice ksh n.joints.length kcsh) (.slice kst n.pieces.length kcst) t.front t.long (spare n t) t.back) (bodyL_one _ _ _ _ rfl rfl rfl)
  have hlB := bodyL_len (.slice a n.pieces.length ca) (.slice ksh n.joints.length kcsh) (.slice kst n.pieces.length kcst) t.front t.long (spare n t) t.back
  have hA : Below w1.heap.size w1 (w1.alloc (.cells (bodyL (.slice a n.pieces.length ca) (.slice ksh n.joints.length kcsh) (.slice kst n.pieces.length kcst) t.front t.long (spare n t) t.back).toArray 72)) := bw0
  have hown := own_new w1 (.slice a n.pieces.length ca) (.slice ksh n.joints.length kcsh) (.slice kst n.pieces.length kcst) t.front t.long (spare n t) t.back 72
  have htk : TrkAt 0 w1 (.agg #[.slice a n.pieces.length ca, .slice ksh n.joints.length kcsh, .slice kst n.pieces.length kcst]) n := ⟨_, _, _, _, _, _, rfl, (hp.below hbw1).mono (Nat.zero_le _), hksh.mono (Nat.zero_le _), hkst.mono (Nat.zero_le _)⟩
  have hres2 := hres.below hA
  have hone := bodyL_one (k0 := .slice a n.pieces.length ca) (k1 := .slice ksh n.joints.length kcsh) (k2 := .slice kst n.pieces.length kcst) t.front t.long (spare n t) t.back rfl rfl rfl
  have HKS := hide (hksh.keeps (keeps_below _ hA))
  have HKT := hide (hkst.keeps (keeps_below _ hA))
  have HR := hide hR
  have HTK := hide (htk.below hA)
  have hbwA := below_then hbw1 hA
  have hsz1 := hbw1.size
  have hszA : w1.heap.size < (w1.alloc (.cells (bodyL (.slice a n.pieces.length ca) (.slice ksh n.joints.length kcsh) (.slice kst n.pieces.length kcst) t.front t.long (spare n t) t.back).toArray 72)).heap.size := by simp
  have d3 : (w1.alloc (.cells (bodyL (.slice a n.pieces.length ca) (.slice ksh n.joints.length kcsh) (.slice kst n.pieces.length kcst) t.front t.long (spare n t) t.back).toArray 72)).cell? ⟨w1.heap.size, 3, none⟩ = some (.slice a n.pieces.length ca) := by simpa [bodyF] using (hown.2 3 (by omega)).1
  have d4 : (w1.alloc (.cells (bodyL (.slice a n.pieces.length ca) (.slice ksh n.joints.length kcsh) (.slice kst n.pieces.length kcst) t.front t.long (spare n t) t.back).toArray 72)).cell? ⟨w1.heap.size, 4, none⟩ = some (.slice ksh n.joints.length kcsh) := by simpa [bodyF] using (hown.2 4 (by omega)).1
  have d5 : (w1.alloc (.cells (bodyL (.slice a n.pieces.length ca) (.slice ksh n.joints.length kcsh) (.slice kst n.pieces.length kcst) t.front t.long (spare n t) t.back).toArray 72)).cell? ⟨w1.heap.size, 5, none⟩ = some (.slice kst n.pieces.length kcst) := by simpa [bodyF] using (hown.2 5 (by omega)).1
  have HOWN := hide hown
  have HONE := hide hone
  clear hR hksh hkst htk hown hone hres
  unfold bodyV
  go_wp2_with fail
  refine (liesFit_any _ n _ zs _ _ (unhide HTK) (hz.below hbwA) hl').mono ?_
  rintro e w2 ⟨⟨rfl, hr⟩ | ⟨rfl, hr⟩, hb2⟩
  ·have hbw2 := below_then hbwA hb2
   have hres3 := hres2.below hb2
   have HF := hide hr
   clear hr d3 d4 d5
   go_wp2_with fail
   refine (isFar_any F _).mono ?_
   rintro e w2' ⟨⟨rfl, hf⟩ | ⟨rfl, hf⟩, rfl⟩
   ·have HFF := hide hf
    have HRG := hide ((unhide HOWN).below hb2).range
    have HTH2 := hide hres3.there
    have hldv := loadVar_body _ _ _ (bodyL_len _ _ _ _ _ _ _) (own_put hres3 rfl (k0 := .slice a n.pieces.length ca) (k1 := .slice ksh n.joints.length kcsh) (k2 := .slice kst n.pieces.length kcst) (s := t.front) (long := t.long) (sp := spare n t) (xs := t.back)).range
    have hend := below_puts (B := w.heap.size + 1 + 1) hbw2 (by omega) (bodyL (.slice a n.pieces.length ca) (.slice ksh n.joints.length kcsh) (.slice kst n.pieces.length kcst) t.front t.long (spare n t) t.back)
    clear hf hres2 hres3
    go_wp2_with fail
    refine wp_load_mid 72 (.tmp 10) rfl w1.heap.size 0 rfl (bodyL (.slice a n.pieces.length ca) (.slice ksh n.joints.length kcsh) (.slice kst n.pieces.length kcst) t.front t.long (spare n t) t.back) _ (unhide HRG) Tryz.underlying72 rfl (by rw [info_size, bodyL_len]) ?_
    rename_i hKK
    refine hKK _ _ ?_
    simp only [Act.put, List.setIfInBounds_toArray, List.set_cons_zero, List.set_cons_succ]
    refine wpList_store_mid rfl 72 (.tmp 8) (.tmp 33) rfl (w.heap.size + 1 + 1) 0 (bodyL (.slice a n.pieces.length ca) (.slice ksh n.joints.length kcsh) (.slice kst n.pieces.length kcst) t.front t.long (spare n t) t.back).toArray rfl rfl (unhide HTH2) (by rw [info_size, bodyL_size]) (all_oneCell_toArray (unhide HONE)) ?_
    clear hKK
    go_wp2
    refine bodyPost_ret (v := .tuple #[.agg (bodyL (.slice a n.pieces.length ca) (.slice ksh n.joints.length kcsh) (.slice kst n.pieces.length kcst) t.front t.long (spare n t) t.back).toArray, .bool true]) (by rw [results_cell_tmp rfl]; simp [asAddr, Result.andThen, hldv]) rfl ⟨Or.inl ⟨⟨unhide HR, unhide HF, unhide HFF⟩, _, _, _, _, ?_, ?_, rfl⟩, hend⟩
    ·exact (((unhide HKS).keeps (keeps_below _ hb2)).keeps (keeps_puts _ (by simp) _)).mono (by simp; omega)
    ·exact (((unhide HKT).keeps (keeps_below _ hb2)).keeps (keeps_puts _ (by simp) _)).mono (by simp; omega)
   ·have HN : Hid (¬ OutOk n zs t F) := fun h => hf h.2.2
    have hst4 := store_old _ _ _ hres3 Tryz.zeroCells72.toList zero_len zero_one
    have hldv := zero_load (zero_put hres3)
    have hend := below_puts (B := w.heap.size + 1 + 1) hbw2 (by omega) Tryz.zeroCells72.toList
    clear hf
    go_wp2
    exact bodyPost_ret (v := .tuple #[zeroBody, .bool false]) (by rw [results_cell_tmp rfl]; simp [asAddr, Result.andThen, hldv]) rfl ⟨Or.inr ⟨unhide HN, rfl⟩, hend⟩
  ·have hbw2 := below_then hbwA hb2
   have hres3 := hres2.below hb2
   have HN : Hid (¬ OutOk n zs t F) := fun h => hr h.2.1
   have hst4 := store_old _ _ _ hres3 Tryz.zeroCells72.toList zero_len zero_one
   have hldv := zero_load (zero_put hres3)
   have hend := below_puts (B := w.heap.size + 1 + 1) hbw2 (by omega) Tryz.zeroCells72.toList
   clear hr d3 d4 d5
   go_wp2
   exact bodyPost_ret (v := .tuple #[zeroBody, .bool false]) (by rw [results_cell_tmp rfl]; simp [asAddr, Result.andThen, hldv]) rfl ⟨Or.inr ⟨unhide HN, rfl⟩, hend⟩
 ·have hst5 := store_new w1 _ (unhide HZS) _ (bodyL_len (.slice none 0 0) (.slice none 0 0) (.slice none 0 0) ⟨0, 0, 0⟩ 0 0 []) (bodyL_one _ _ _ _ rfl rfl rfl)
  have hlB := bodyL_len (.slice none 0 0) (.slice none 0 0) (.slice none 0 0) ⟨0, 0, 0⟩ 0 0 []
  have hA : Below w1.heap.size w1 (w1.alloc (.cells (bodyL (.slice none 0 0) (.slice none 0 0) (.slice none 0 0) ⟨0, 0, 0⟩ 0 0 []).toArray 72)) := bw0
  have hbw2 := below_then hbw1 hA
  have hres3 := hres.below hA
  have HN : Hid (¬ OutOk n zs t F) := fun h => hR h.1
  have hst4 := store_old _ _ _ hres3 Tryz.zeroCells72.toList zero_len zero_one
  have hldv := zero_load (zero_put hres3)
  have hend := below_puts (B := w.heap.size + 1 + 1) hbw2 (by omega) Tryz.zeroCells72.toList
  clear hR
  unfold zeroBody bodyV
  go_wp2
  exact bodyPost_ret (v := .tuple #[zeroBody, .bool false]) (by rw [results_cell_tmp rfl]; simp [asAddr, Result.andThen, hldv]) rfl ⟨Or.inr ⟨unhide HN, rfl⟩, hend⟩
end Go.Proofs.YtjacbppeebnjfaaGreat

namespace Go.Proofs.YtjacbppeebnjfaaGreat
open Go.RowKit

theorem IntsAt.zero {L : Nat} {w : World} {a : Option Addr} {zs : List Int} (h : IntsAt L w a zs) : IntsAt 0 w a zs := fun i hi => by
 obtain ⟨b, off, e, hb, hc⟩ := h i hi
 exact ⟨b, off, e, ⟨Nat.zero_le _, hb.2⟩, hc⟩
theorem backOk_mv {n : Nt} {long : Int} : ∀ {xs : List St} {hv : Int} {at_ : St}, BackOk n long hv at_ xs → (∀ j, j < xs.length → hv + sumLen n (xs.take j) < long) ∧ long ≤ hv + sumLen n xs := by
 intro xs
 induction xs with
 | nil =>
  intro hv at_ h
  refine ⟨fun j hj => by simp at hj, ?_⟩
  have : long ≤ hv := h
  rw [sumLen_nil]
  omega
 | cons x r ih =>
  intro hv at_ h
  obtain ⟨h1, h2, h3, h4⟩ := h
  obtain ⟨i1, i2⟩ := ih h4
  refine ⟨fun j hj => ?_, by rw [sumLen_cons]; omega⟩
  cases j with
  | zero => simp [sumLen_nil]; omega
  | succ j =>
   rw [List.take_succ_cons, sumLen_cons]
   have := i1 j (by simpa using hj)
   omega

theorem fits_mv {n : Nt} {t : Tr} (h : TrainFits n t) {F : Int} (hF : 0 ≤ F) : MvOk n t.long F ⟨t.front, t.back, 0, []⟩ := by
 obtain ⟨h1, h2⟩ := backOk_mv h.2.2.2
 exact ⟨h.1, backOk_steps h.2.2.2, h.2.2.1, h1, h2, Int.le_refl _, hF, by simp⟩

def movedV (code far joint : Int) (s : Sp) (long : Int) (bk ov : Value) : Value := .agg #[.int .i64 code, .int .i64 far, .int .i64 joint, .int .i64 s.piece, .int .i64 s.at_, .int .i64 s.way, .int .i64 long, bk, ov]
def MovedIs (n : Nt) (zs : List Int) (t : Tr) (F : Int) (N : Nat) (e : Ending) (w' : World) : Prop :=
 (OutOk n zs t F ∧ ∃ (m : Mv) (code joint : Int) (ba : Option Addr) (bc : Nat) (oa : Option Addr) (oc : Nat), e = .returned (movedV code m.far joint m.s t.long (.slice ba m.xs.length bc) (.slice oa m.over.length oc)) ∧ RunIs n zs t.long F ⟨t.front, t.back, 0, []⟩ m code joint ∧ StRow w' N (.slice ba m.xs.length bc) m.xs ∧ PtRow w' N (.slice oa m.over.length oc) m.over)
  ∨ (¬ OutOk n zs t F ∧ e = .returned (movedV 5 0 0 ⟨0, 0, 0⟩ 0 (.slice none 0 0) (.slice none 0 0)))

end Go.Proofs.YtjacbppeebnjfaaGreat
set_option linter.unusedSimpArgs false
namespace Go.Proofs.YtjacbppeebnjfaaGreat
open Go.RowKit

theorem goes_uc {n : Nt} (hG : NetGood n) {zs : List Int} {long F : Int} (hl : 0 < long) {m0 m : Mv} (h0 : MvOk n long F m0) (h : Goes n zs long F m0 m) : ∃ c us, UC n zs long m0.s m0.xs c us m.s m.xs ∧ (us.length : Int) = m.far - m0.far := by
 induction h with
 | start => exact ⟨0, [], .nil, by simp⟩
 | @step a b g hs ih =>
  obtain ⟨c, us, h1, h2⟩ := ih
  have ha := g.ok hG hl h0
  cases hs with
  | roll h3 h4 =>
   obtain ⟨g1, g2, g3, g4⟩ := roll_le hG ha.spot (show (0 : Int) ≤ F - a.far by omega)
   have g5 := g4 h4 (by omega)
   obtain ⟨_, o2, _, o4⟩ := ovN_roll (zs := zs) hG ha g5
   obtain ⟨c', h5⟩ := o2 _ _ _ _ h1
   have hb := behind_nonneg ha.spot
   refine ⟨c', _, h5, ?_⟩
   rw [List.length_append, o4]
   unfold unR
   dsimp only
   rw [List.length_take, down_len]
   omega
  | enter h3 h4 h5 h6 => exact ⟨c + 1, us, .enter h1 h4 h5 h6, h2⟩
structure PsSt (n : Nt) (zs : List Int) (t : Tr) (us : List (St × Int)) (s : Sp) (xs : List St) : Prop where
 uc : ∃ c, UC n zs t.long t.front t.back c us s xs
 fits : TrainFits n ⟨s, t.long, xs⟩
 some_ : us ≠ [] → SitsAll n zs t.front t.back
 sits : SitsAll n zs s xs ↔ SitsAll n zs t.front t.back
theorem PsSt.first {n : Nt} {zs : List Int} {t : Tr} (h : TrainFits n t) : PsSt n zs t [] t.front t.back := ⟨⟨0, .nil⟩, h, fun h => absurd rfl h, Iff.rfl⟩
theorem PsSt.stop {n : Nt} {zs : List Int} {t : Tr} (hN : NetRes n 0 0) {us : List (St × Int)} {s : Sp} {xs : List St} (h : PsSt n zs t us s xs) {m : Mv} {code joint : Int} (hr : RunIs n zs t.long 1 ⟨s, xs, 0, []⟩ m code joint) (hm : m.far = 0) {F : Int} (hF : (us.length : Int) < F) : WayIs n zs t F us := by
 have hG := netGood hN
 have hl := h.fits.2.1
 dsimp only at hl
 rcases hr with ⟨h1, h2, h3⟩ | ⟨h1, _⟩
 ·obtain ⟨c, hc⟩ := h.uc
  obtain ⟨d, vs, g1, g2⟩ := goes_uc (long := t.long) hG (by omega) (fits_mv h.fits (by omega)) h2
  dsimp only at g1 g2
  have hv : vs = [] := List.length_eq_zero_iff.1 (by omega)
  subst hv
  have g3 := hc.trans g1
  rw [List.nil_append] at g3
  refine Or.inl ⟨h.sits.1 h1, _, _, _, g3, by omega, Or.inl ?_⟩
  rcases h3 with ⟨e, _⟩ | ⟨_, h4, i, r, h5, h6⟩
  ·omega
  ·refine ⟨h4, i, r, h5, ?_⟩
   rcases h6 with h6 | h6
   ·exact Or.inl h6.1
   ·exact Or.inr h6.2.1
 ·have hn : ¬ SitsAll n zs t.front t.back := fun g => h1 (h.sits.2 g)
  refine Or.inr ⟨hn, ?_⟩
  cases us with
  | nil => rfl
  | cons u r => exact absurd (h.some_ (by simp)) hn
theorem PsSt.last {n : Nt} {zs : List Int} {t : Tr} {us : List (St × Int)} {s : Sp} {xs : List St} (h : PsSt n zs t us s xs) {F : Int} (hF : (us.length : Int) = F) : WayIs n zs t F us := by
 by_cases hs : SitsAll n zs t.front t.back
 ·obtain ⟨c, hc⟩ := h.uc
  exact Or.inl ⟨hs, c, _, _, hc, by omega, Or.inr hF⟩
 ·refine Or.inr ⟨hs, ?_⟩
  cases us with
  | nil => rfl
  | cons u r => exact absurd (h.some_ (by simp)) hs
theorem PsSt.next {n : Nt} {zs : List Int} {t : Tr} (hN : NetRes n 0 0) (hL : LiesFit n.joints zs) {us : List (St × Int)} {s : Sp} {xs : List St} (h : PsSt n zs t us s xs) {m : Mv} {code joint : Int} (hr : RunIs n zs t.long 1 ⟨s, xs, 0, []⟩ m code joint) (hm : m.far ≠ 0) : ∃ u, PsSt n zs t (u :: us) m.s m.xs := by
 have hG := netGood hN
 have hl := h.fits.2.1
 dsimp only at hl
 rcases hr with ⟨h1, h2, h3⟩ | ⟨_, rfl, _⟩
 ·obtain ⟨c, hc⟩ := h.uc
  have hok := fits_mv (F := 1) h.fits (by omega)
  obtain ⟨d, vs, g1, g2⟩ := goes_uc (long := t.long) hG (by omega) hok h2
  have hf := (h2.ok hG (by omega) hok).farF
  have hf0 := (h2.ok hG (by omega) hok).far0
  dsimp only at g1 g2
  obtain ⟨u, rfl⟩ := List.length_eq_one_iff.1 (show vs.length = 1 by omega)
  have hT := h2.mvt hG (by omega) (MvT.of (t := ⟨s, t.long, xs⟩) ⟨⟨hN, h.fits⟩, hL, h1⟩ (show (0 : Int) ≤ 1 by omega))
  have hS := h.sits.1 h1
  exact ⟨u, ⟨_, hc.trans g1⟩, hT.fits hG hl, fun _ => hS, ⟨fun _ => hS, fun _ => (hT.sitsR hl hN hL).2.2⟩⟩
 ·exact absurd rfl hm
theorem hit_iff {n : Nt} (hG : NetGood n) {zs : List Int} {t : Tr} (hT : TrainFits n t) {us : List (St × Int)} {s s' : Sp} {xs xs' : List St} {u : St × Int} (h : PsSt n zs t us s xs) (g : PsSt n zs t (u :: us) s' xs') {a : Int} (ha : 0 ≤ a ∧ a ≤ t.long) {p : Int × Int} (hp : PostOk n p) :
  (((axleSp n s' xs' a).piece = p.1 ∧ (axleSp n s' xs' a).at_ = p.2 ∧ ¬ ((axleSp n s xs a).piece = p.1 ∧ (axleSp n s xs a).at_ = p.2)) ↔ ∃ v, (u :: us ++ bu n t.front t.back)[a.toNat]? = some v ∧ AtU n p v) ∧ ∀ v, (u :: us ++ bu n t.front t.back)[a.toNat]? = some v → AtU n p v → (axleSp n s' xs' a).way = v.1.way := by
 have hs0 := hT.1
 have hx0 := (back_ch.1 hT.2.2.2).2.1
 obtain ⟨b, rfl⟩ : ∃ b : Nat, a = b := ⟨a.toNat, by omega⟩
 rw [Int.toNat_natCast]
 have key : ∀ {vs : List (St × Int)} {s : Sp} {xs : List St}, PsSt n zs t vs s xs → (((axleSp n s xs b).piece = p.1 ∧ (axleSp n s xs b).at_ = p.2) ↔ ∃ v, (vs ++ bu n t.front t.back)[b]? = some v ∧ AtU n p v) ∧ ∀ v, (vs ++ bu n t.front t.back)[b]? = some v → AtU n p v → (axleSp n s xs b).way = v.1.way := fun {vs s xs} h => by
  obtain ⟨c, hc⟩ := h.uc
  obtain ⟨_, rest, e, hb⟩ := hc.win hG hs0 hx0
  have hf := h.fits
  have hx := back_ch.1 hf.2.2.2
  have hen := hx.2.2.2
  dsimp only at hen
  have hlen : ((bu n s xs).length : Int) = behind n s + sumLen n xs := by
   have h1 := behind_nonneg hf.1
   have h2 := fl_len hG hx.2.1
   rw [bu_eq, List.length_append, down_len]
   dsimp only at h1 h2
   omega
  obtain ⟨k1, k2⟩ := axle_at hG hf.1 hx.2.1 (a := b) (by dsimp only; omega) hp
  dsimp only at k1 k2
  rw [e]
  have hget : ∀ v, (bu n s xs ++ rest)[b]? = some v → AtU n p v → (bu n s xs)[b]? = some v := fun v hv hat => by
   by_cases hlt : b < (bu n s xs).length
   ·rw [List.getElem?_append_left hlt] at hv
    exact hv
   ·rw [List.getElem?_append_right (by omega), show b - (bu n s xs).length = 0 by omega] at hv
    cases rest with
    | nil => simp at hv
    | cons q r =>
     simp at hv
     subst hv
     have h1 := hb _ _ rfl
     have h3 := beh_in hp q.1.way
     rw [hat.1, ← h1, hat.2] at h3
     omega
  have hget' : ∀ v, (bu n s xs)[b]? = some v → (bu n s xs ++ rest)[b]? = some v := fun v hv => by
   obtain ⟨hlt, _⟩ := List.getElem?_eq_some_iff.1 hv
   rw [List.getElem?_append_left hlt]
   exact hv
  exact ⟨k1.trans ⟨fun ⟨v, h1, h2⟩ => ⟨v, hget' v h1, h2⟩, fun ⟨v, h1, h2⟩ => ⟨v, hget v h1 h2, h2⟩⟩, fun v h1 h2 => k2 v (hget v h1 h2) h2⟩
 obtain ⟨y1, y2⟩ := key g
 obtain ⟨x1, _⟩ := key h
 refine ⟨⟨fun ⟨h1, h2, _⟩ => y1.1 ⟨h1, h2⟩, fun hv => ?_⟩, y2⟩
 obtain ⟨h1, h2⟩ := y1.2 hv
 refine ⟨h1, h2, fun hx => ?_⟩
 obtain ⟨v, hv1, hv2⟩ := hv
 obtain ⟨v', hw1, hw2⟩ := x1.1 hx
 obtain ⟨c, hc⟩ := g.uc
 obtain ⟨hn, _⟩ := hc.win hG hs0 hx0
 exact not_twice hn hv1 (show (u :: us ++ bu n t.front t.back)[b + 1]? = some v' by simpa using hw1) hp hv2 hw2
def Came (x y : Sp) (p : Int × Int) : Prop := y.piece = p.1 ∧ y.at_ = p.2 ∧ ¬ (x.piece = p.1 ∧ x.at_ = p.2)
instance (x y : Sp) (p : Int × Int) : Decidable (Came x y p) := by unfold Came; infer_instance
theorem fm_congr {α β : Type} {f g : α → Option β} : ∀ {l : List α}, (∀ x ∈ l, f x = g x) → l.filterMap f = l.filterMap g
 | [], _ => rfl
 | x :: r, h => by rw [List.filterMap_cons, List.filterMap_cons, h x List.mem_cons_self, fm_congr fun y hy => h y (List.mem_cons_of_mem _ hy)]
def toldTo (qs : List (Int × Int)) (k : Int) (x y : Sp) (j : Nat) : List (Int × Int × Int) := (qs.zipIdx.take j).filterMap fun (p, i) => if Came x y p then some (k, (i : Int), y.way) else none
theorem toldTo_zero (qs : List (Int × Int)) (k : Int) (x y : Sp) : toldTo qs k x y 0 = [] := rfl
theorem toldTo_succ (qs : List (Int × Int)) (k : Int) (x y : Sp) (j : Nat) (h : j < qs.length) : toldTo qs k x y (j + 1) = toldTo qs k x y j ++ (if Came x y qs[j] then [(k, (j : Int), y.way)] else []) := by
 unfold toldTo
 rw [List.take_succ_eq_append_getElem (by simpa using h), List.filterMap_append]
 congr 1
 simp only [List.getElem_zipIdx, List.filterMap_cons, List.filterMap_nil]
 split <;> rename_i h1 <;> split at h1 <;> simp_all
theorem told_hits {n : Nt} (hG : NetGood n) {zs : List Int} {t : Tr} (hT : TrainFits n t) {us : List (St × Int)} {s s' : Sp} {xs xs' : List St} {u : St × Int} (h : PsSt n zs t us s xs) (g : PsSt n zs t (u :: us) s' xs') {a : Int} (ha : 0 ≤ a ∧ a ≤ t.long) {qs : List (Int × Int)} (hq : ∀ p ∈ qs, PostOk n p) (k : Int) :
  toldTo qs k (axleSp n s xs a) (axleSp n s' xs' a) qs.length = hitsAt n qs k ((u :: us ++ bu n t.front t.back)[a.toNat]?) := by
 unfold toldTo
 rw [List.take_of_length_le (by simp)]
 have hz : ∀ x ∈ qs.zipIdx, PostOk n x.1 := fun x hx => hq _ (by
  obtain ⟨p, i⟩ := x
  exact (List.mem_zipIdx hx).2.2 ▸ List.getElem_mem _)
 cases ho : (u :: us ++ bu n t.front t.back)[a.toNat]? with
 | none =>
  unfold hitsAt
  dsimp only
  rw [List.filterMap_eq_nil_iff]
  rintro ⟨p, i⟩ hx
  obtain ⟨k1, _⟩ := hit_iff hG hT h g ha (hz _ hx)
  rw [ho] at k1
  dsimp only
  rw [if_neg]
  exact fun hc => by obtain ⟨v, hv, _⟩ := k1.1 hc; cases hv
 | some v =>
  unfold hitsAt
  dsimp only
  refine fm_congr ?_
  rintro ⟨p, i⟩ hx
  obtain ⟨k1, k2⟩ := hit_iff hG hT h g ha (hz _ hx)
  dsimp only
  by_cases hat : AtU n p v
  ·rw [if_pos hat, if_pos (show Came _ _ p from k1.2 ⟨v, ho, hat⟩), k2 v ho hat]
  ·rw [if_neg hat, if_neg]
   exact fun hc => by
    obtain ⟨v', hv, hat'⟩ := k1.1 hc
    rw [ho] at hv
    cases hv
    exact hat hat'
def axTo (n : Nt) (qs : List (Int × Int)) (k : Int) (s s' : Sp) (xs xs' : List St) (ax : List Int) (i : Nat) : List (Int × Int × Int) := (ax.take i).flatMap fun a => toldTo qs k (axleSp n s xs a) (axleSp n s' xs' a) qs.length
theorem axTo_zero (n : Nt) (qs : List (Int × Int)) (k : Int) (s s' : Sp) (xs xs' : List St) (ax : List Int) : axTo n qs k s s' xs xs' ax 0 = [] := rfl
theorem axTo_succ (n : Nt) (qs : List (Int × Int)) (k : Int) (s s' : Sp) (xs xs' : List St) (ax : List Int) (i : Nat) (h : i < ax.length) : axTo n qs k s s' xs xs' ax (i + 1) = axTo n qs k s s' xs xs' ax i ++ toldTo qs k (axleSp n s xs ax[i]) (axleSp n s' xs' ax[i]) qs.length := by
 unfold axTo
 rw [List.take_succ_eq_append_getElem h, List.flatMap_append]
 simp
theorem ax_out {n : Nt} (hG : NetGood n) {zs : List Int} {t : Tr} (hT : TrainFits n t) {us : List (St × Int)} {s s' : Sp} {xs xs' : List St} {u : St × Int} (h : PsSt n zs t us s xs) (g : PsSt n zs t (u :: us) s' xs') {ax : List Int} (ha : ∀ a ∈ ax, 0 ≤ a ∧ a ≤ t.long) {qs : List (Int × Int)} (hq : ∀ p ∈ qs, PostOk n p) {k : Int} (hk : k = (us.length : Int) + 1) :
  outS n qs ax (bu n t.front t.back) us ++ axTo n qs k s s' xs xs' ax ax.length = outS n qs ax (bu n t.front t.back) (u :: us) := by
 subst hk
 unfold axTo
 rw [List.take_length]
 simp only [outS]
 congr 1
 rw [List.flatMap_def, List.flatMap_def, List.map_congr_left (fun a h' => told_hits hG hT h g (ha a h') hq _)]
end Go.Proofs.YtjacbppeebnjfaaGreat

