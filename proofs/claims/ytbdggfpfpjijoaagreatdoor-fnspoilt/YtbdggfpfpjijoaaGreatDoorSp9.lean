import Derived.Test.YtbdggfpfpjijoaaGreatDoorSp8
import Derived.Test.YtbdggfpfpjijoaaGreatDoorMKt9
import Derived.Test.YtbdggfpfpjijoaaGreatDoorMKt1
import Derived.Maps.GroupsBeside
set_option linter.unusedSimpArgs false
namespace Go.Proofs.YtbdggfpfpjijoaaGreatDoor
open Go.RowKit

structure OneT (w : World) (tq : Option Addr) (t : Tr) : Prop where
 ex : ∃ b off ba bc, tq = some ⟨b, off, none⟩ ∧ b < w.heap.size ∧ w.cell? ⟨b, off, none⟩ = some (.int .i64 t.front.piece) ∧ w.cell? ⟨b, off + 1, none⟩ = some (.int .i64 t.front.at_) ∧ w.cell? ⟨b, off + 2, none⟩ = some (.int .i64 t.front.way) ∧ w.cell? ⟨b, off + 3, none⟩ = some (.int .i64 t.long) ∧ w.cell? ⟨b, off + 4, none⟩ = some (.slice ba t.back.length bc) ∧ StsAt 0 w ba t.back ∧ t.back.length ≤ bc
theorem OneT.below {w w' : World} {tq : Option Addr} {t : Tr} (h : OneT w tq t) (hb : Below w.heap.size w w') : OneT w' tq t := by
 obtain ⟨b, off, ba, bc, e, hl, c0, c1, c2, c3, c4, hs, hc⟩ := h
 exact ⟨b, off, ba, bc, e, Nat.lt_of_lt_of_le hl hb.size, (hb.cell hl).trans c0, (hb.cell hl).trans c1, (hb.cell hl).trans c2, (hb.cell hl).trans c3, (hb.cell hl).trans c4, hs.below hb, hc⟩

set_option maxRecDepth 100000 in
set_option maxHeartbeats 8000000 in
theorem worldOf_none (v : Value) (n : Nt) (tq : Option Addr) (t : Tr) (tk : Nat) (w : World) {L : Nat} (hv : NetAt L w v n) (hts : OneT w tq t) (hbl : t.back.length ≤ 1048576)
  (hl : n.pieces.length ≤ 1048576) (hl' : n.joints.length ≤ 1048576) (hle : ∀ i (h : i < n.joints.length), n.joints[i].name.size ≤ maxLen) (hnm : ∀ i (h : i < n.pieces.length), n.pieces[i].name.size ≤ maxLen) (hno : ¬ TrainRight n t) :
  Calls Tryz.prog 53 #[v, .slice tq 1 tk] w fun e w' => e = .returned (.tuple #[.pointer none, .bool false]) ∧ Below w.heap.size w w' := by
 obtain ⟨a, c, ca, cc, rfl, hp, hj⟩ := hv
 have hmm := @run_makeMap Tryz.prog
 have HNO := hide hno
 clear hno
 go_enter Tryz.func53, Tryz.ntmps53
 go_wp2_with fail
 refine (trackOf_far a c ca cc n _ (L := L) ?hA ?hB hl hl' hle hnm).mono ?_
 case hA => exact hp.below bw0
 case hB => exact hj.below bw0
 rintro e w1 ⟨hret, hb1⟩
 have hbw1 : Below w.heap.size w w1 := below_then bw0 hb1
 have hsz1 := hbw1.size
 rcases hret with ⟨hR, ksh, kcsh, kst, kcst, rfl, hksh, hkst⟩ | ⟨hR, rfl⟩
 rotate_left
 ·clear hR
  go_wp2
  go_ret2
  exact ⟨rfl, (bw1 hbw1)⟩
 have hG := netGood hR
 have hkk : TrkAt 0 w1 (.agg #[.slice a n.pieces.length ca, .slice ksh n.joints.length kcsh, .slice kst n.pieces.length kcst]) n := ⟨_, _, _, _, _, _, rfl, (hp.below hbw1).mono (Nat.zero_le _), hksh.mono (Nat.zero_le _), hkst.mono (Nat.zero_le _)⟩
 have HR := hide hR
 clear hR hksh hkst
 go_wp2_with fail
 clear hmm
 go_loopw [32] (fun z wr => z = .int .i64 0 ∧ Boxed wr w1.heap.size [.slice a n.pieces.length ca, .slice ksh n.joints.length kcsh, .slice kst n.pieces.length kcst] ∧ Below w1.heap.size w1 wr) (fun _ _ => 0)
 case atStart => exact ⟨rfl, ((boxed_alloc _ _ _).alloc _).alloc _, bw0⟩
 case round =>
  obtain ⟨rfl, hKb, hb⟩ := hrel
  have hbw := below_then hbw1 hb
  have kl := hKb.1
  have szr := hb.size
  have q0 := hKb.2.1 0 _ rfl
  have q1 := hKb.2.1 1 _ rfl
  have q2 := hKb.2.1 2 _ rfl
  obtain ⟨tb, toff, ba, bc, hte, htb2, c0, c1, c2, c3, c4, hst, hcap⟩ := (hts.below hbw).ex
  subst hte
  have hA : Below wr.heap.size wr (wr.alloc (.cells #[.int .i64 t.front.piece, .int .i64 t.front.at_, .int .i64 t.front.way, .int .i64 t.long, .slice ba t.back.length bc] 32)) := bw0
  have hkA := (hkk.below hb).below hA
  go_wp2_with fail
  refine (bodyOf_any n t _ _ _ ba bc _ hkA hG (hst.below hA) hcap hbl).mono ?_
  rintro e w2 ⟨hret, hb2⟩
  have hbr2 := below_then hA hb2
  have hzs : Tryz.zeroCells89.size = 412 := by rw [zero_cells, bodyL_size]
  rcases hret with ⟨hfit, rfl⟩ | ⟨hnf, rfl⟩
  ·exact absurd ⟨unhide HR, hfit⟩ (unhide HNO)
  ·have hst5 := store_new w2 _ hzs _ (bodyL_len (.slice none 0 0) (.slice none 0 0) (.slice none 0 0) ⟨0, 0, 0⟩ 0 0 []) (bodyL_one _ _ _ _ rfl rfl rfl)
   have hlB := bodyL_len (.slice none 0 0) (.slice none 0 0) (.slice none 0 0) ⟨0, 0, 0⟩ 0 0 []
   clear hnf
   unfold zeroBody bodyV
   go_wp2
   go_ret2
   exact ⟨rfl, below_then hbw (below_then hbr2 bw0)⟩

set_option maxRecDepth 100000 in
set_option maxHeartbeats 4000000 in
theorem implTick_none (v : Value) (n : Nt) (tq : Option Addr) (t : Tr) (tk : Nat) (z1 z2 : Value) (w : World) {L : Nat} (hv : NetAt L w v n) (hts : OneT w tq t) (hbl : t.back.length ≤ 1048576)
  (hl : n.pieces.length ≤ 1048576) (hl' : n.joints.length ≤ 1048576) (hle : ∀ i (h : i < n.joints.length), n.joints[i].name.size ≤ maxLen) (hnm : ∀ i (h : i < n.pieces.length), n.pieces[i].name.size ≤ maxLen) (hno : ¬ TrainRight n t) :
  Calls Tryz.prog 21 #[v, z1, .slice tq 1 tk, z2] w fun e w' => e = .returned (.agg #[.bool false, .slice none 0 0, .slice none 0 0, .slice none 0 0, .slice none 0 0]) ∧ Below w.heap.size w w' := by
 have HV := hide hv
 have HTS := hide hts
 obtain ⟨a, c, ca, cc, rfl, _, _⟩ := hv
 clear hts
 go_enter Tryz.func21, Tryz.ntmps21
 go_wp2_with fail
 have hA : Below w.heap.size w ((w.alloc (.cells #[.slice a n.pieces.length ca, .slice c n.joints.length cc] 26)).alloc (.cells #[.bool false, .slice none 0 0, .slice none 0 0, .slice none 0 0, .slice none 0 0] 54)) := bw0
 have hR : Boxed ((w.alloc (.cells #[.slice a n.pieces.length ca, .slice c n.joints.length cc] 26)).alloc (.cells #[.bool false, .slice none 0 0, .slice none 0 0, .slice none 0 0, .slice none 0 0] 54)) (w.heap.size + 1) [.bool false, .slice none 0 0, .slice none 0 0, .slice none 0 0, .slice none 0 0] := boxedN _ _ _ (by simp)
 refine (worldOf_none _ n tq t tk _ ((unhide HV).below hA) ((unhide HTS).below hA) hbl hl hl' hle hnm hno).mono ?_
 rintro e w1 ⟨rfl, hb1⟩
 have hR2 := hR.below hb1
 have hbw := below_then hA hb1
 have c0 := hR2.2.1 0 _ rfl
 have c1 := hR2.2.1 1 _ rfl
 have c2 := hR2.2.1 2 _ rfl
 have c3 := hR2.2.1 3 _ rfl
 have c4 := hR2.2.1 4 _ rfl
 have cz := hR2.2.2
 have cl := hR2.1
 clear hA hR hb1
 go_wp2_with fail
 have hF := ((((hR2.setI (i := 0) (by simp) (.bool false)).setI (i := 1) (by simp) (.slice none 0 0)).setI (i := 2) (by simp) (.slice none 0 0)).setI (i := 3) (by simp) (.slice none 0 0)).setI (i := 4) (by simp) (.slice none 0 0)
 have f0 := hF.2.1 0 _ rfl
 have f1 := hF.2.1 1 _ rfl
 have f2 := hF.2.1 2 _ rfl
 have f3 := hF.2.1 3 _ rfl
 have f4 := hF.2.1 4 _ rfl
 exact bodyPost_ret (v := .agg #[.bool false, .slice none 0 0, .slice none 0 0, .slice none 0 0, .slice none 0 0]) (by simp [results, Tryz.results21, go_sem, f0, f1, f2, f3, f4]) rfl ⟨rfl, (bw1 hbw)⟩

set_option maxRecDepth 100000 in
set_option maxHeartbeats 4000000 in
theorem implShown_none (v : Value) (n : Nt) (tq : Option Addr) (t : Tr) (tk : Nat) (w : World) {L : Nat} (hv : NetAt L w v n) (hts : OneT w tq t) (hbl : t.back.length ≤ 1048576)
  (hl : n.pieces.length ≤ 1048576) (hl' : n.joints.length ≤ 1048576) (hle : ∀ i (h : i < n.joints.length), n.joints[i].name.size ≤ maxLen) (hnm : ∀ i (h : i < n.pieces.length), n.pieces[i].name.size ≤ maxLen) (hno : ¬ TrainRight n t) :
  Calls Tryz.prog 24 #[v, .slice tq 1 tk] w fun e w' => e = .returned (.string ⟨#[]⟩) ∧ Below w.heap.size w w' := by
 have HV := hide hv
 have HTS := hide hts
 obtain ⟨a, c, ca, cc, rfl, _, _⟩ := hv
 clear hts
 go_enter Tryz.func24, Tryz.ntmps24
 go_wp2_with fail
 have hA : Below w.heap.size w (w.alloc (.cells #[.slice a n.pieces.length ca, .slice c n.joints.length cc] 26)) := bw0
 refine (worldOf_none _ n tq t tk _ ((unhide HV).below hA) ((unhide HTS).below hA) hbl hl hl' hle hnm hno).mono ?_
 rintro e w1 ⟨rfl, hb1⟩
 have hbw := below_then hA hb1
 have HBW := hide hbw
 clear hA hb1 hbw
 go_wp2_with fail
 go_ret
 exact ⟨rfl, unhide HBW⟩

end Go.Proofs.YtbdggfpfpjijoaaGreatDoor

