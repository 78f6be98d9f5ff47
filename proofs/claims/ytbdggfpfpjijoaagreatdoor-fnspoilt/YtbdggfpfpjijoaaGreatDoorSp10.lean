import Derived.Test.YtbdggfpfpjijoaaGreatDoorSp9
import Derived.Test.YtbdggfpfpjijoaaGreatDoorMSpec22
import Derived.Test.YtbdggfpfpjijoaaGreatDoorMKt17
import Derived.Test.YtbdggfpfpjijoaaGreatDoorMKt12
import Derived.Test.YtbdggfpfpjijoaaGreatDoorMKt1
set_option linter.unusedSimpArgs false
namespace Go.Proofs.YtbdggfpfpjijoaaGreatDoor
open Go.RowKit

structure Lw (n m : Nt) (t : Tr) (fc fa : Int) (a1 a2 b1 b2 ta zq : Option Addr) (k1 k2 l1 l2 tc J : Nat) (N F M T : Nat) (w : World) : Prop where
 nb : Boxed w N [.slice a1 n.pieces.length k1, .slice a2 n.joints.length k2]
 fb : Boxed w F [.int .i64 fc, .int .i64 fa]
 mb : Boxed w M [.slice b1 m.pieces.length l1, .slice b2 m.joints.length l2]
 tb : Boxed w T (trC t ta tc)
 nn : NetAt 0 w (.agg #[.slice a1 n.pieces.length k1, .slice a2 n.joints.length k2]) n
 mm : NetAt 0 w (.agg #[.slice b1 m.pieces.length l1, .slice b2 m.joints.length l2]) m
 st : StsAt 0 w ta t.back
 zz : IntsAt 0 w zq (List.replicate J 0)
 gl : GlobAt w
theorem Lw.below {n m : Nt} {t : Tr} {fc fa : Int} {a1 a2 b1 b2 ta zq : Option Addr} {k1 k2 l1 l2 tc J N F M T : Nat} {w w' : World} (h : Lw n m t fc fa a1 a2 b1 b2 ta zq k1 k2 l1 l2 tc J N F M T w) (hb : Below w.heap.size w w') : Lw n m t fc fa a1 a2 b1 b2 ta zq k1 k2 l1 l2 tc J N F M T w' :=
 ⟨h.nb.below hb, h.fb.below hb, h.mb.below hb, h.tb.below hb, h.nn.below hb, h.mm.below hb, h.st.below hb, IntsAt.below h.zz hb, h.gl.below hb⟩
theorem retB_lit {p : Prop} {e : Ending} (h : RetB p e) {b : Bool} (hb : b = true ↔ p) : e = .returned (.bool b) := by
 rcases h with ⟨rfl, hp⟩ | ⟨rfl, hp⟩
 ·rw [hb.2 hp]
 ·cases b
  ·rfl
  ·exact absurd (hb.1 rfl) hp

theorem field_moved (c f j p a y l : Int) (pa oa : Option Addr) (i k pc oc : Nat) (W : World) : (Instr.field 38 (.agg #[.int .i64 c, .int .i64 f, .int .i64 j, .int .i64 p, .int .i64 a, .int .i64 y, .int .i64 l, .slice pa i pc, .slice oa k oc]) 0).run Tryz.prog W = .ok (.int .i64 c) W := by kernel_rfl
theorem field_ticked (W : World) : (Instr.field 54 (.agg #[.bool false, .slice none 0 0, .slice none 0 0, .slice none 0 0, .slice none 0 0]) 0).run Tryz.prog W = .ok (.bool false) W := by kernel_rfl
theorem made_ints (w : World) (J : Nat) (T : TypeId) : IntsAt 0 (w.alloc (.cells (madeCells #[.int .i64 0] J) T)) (some ⟨w.heap.size, 0, none⟩) (List.replicate J 0) := fun i hi => by
 rw [List.length_replicate] at hi
 obtain ⟨c, hc, hn, hf⟩ := row_made w #[.int .i64 0] J T
 refine ⟨w.heap.size, 0, rfl, ⟨Nat.zero_le _, by simp⟩, ?_⟩
 unfold World.cell?
 rw [hc]
 simp [hf i hi, Nat.mod_one]
theorem specNetOk_lit (v : Value) (n : Nt) (w : World) {fc fa : Int} (hres : NetRes n fc fa) (hv : NetAt 0 w v n) (hs : NtSmall n) : Calls Tryz.prog 29 #[v] w fun e w' => e = .returned (.agg #[.int .i64 fc, .int .i64 fa]) ∧ Below w.heap.size w w' :=
 (specNetOk_any v n w hv (by have := hs.pcs; omega) (by have := hs.jts; omega) hs.hle hs.hnm).mono fun e w' ⟨c, a, he, hr, hb⟩ => by
  obtain ⟨rfl, rfl⟩ := hres.unique hr
  exact ⟨he, hb⟩
theorem implTrainOk_lit (v : Value) (n : Nt) (t : Tr) (ta : Option Addr) (tc : Nat) (w : World) (hv : NetAt 0 w v n) (hst : StsAt 0 w ta t.back) (hs : NtSmall n) (hbl : t.back.length ≤ 220 ∧ t.back.length ≤ tc) {b : Bool} (hb : b = true ↔ TrainRight n t) : Calls Tryz.prog 15 #[v, .agg #[.int .i64 t.front.piece, .int .i64 t.front.at_, .int .i64 t.front.way, .int .i64 t.long, .slice ta t.back.length tc]] w fun e w' => e = .returned (.bool b) ∧ Below w.heap.size w w' :=
 (implTrainOk_any v n t ta tc w hv hst hbl.2 (by omega) (by have := hs.pcs; omega) (by have := hs.jts; omega) (fun i hi => (hs.hle i hi).2) hs.hnm).mono fun e w' ⟨h, hb'⟩ => ⟨retB_lit h hb, hb'⟩
theorem specTrainOk_lit (v : Value) (n : Nt) (t : Tr) (ta : Option Addr) (tc : Nat) (w : World) (hv : NetAt 0 w v n) (hst : StsAt 0 w ta t.back) (hs : NtSmall n) (hbl : t.back.length ≤ 220 ∧ t.back.length ≤ tc) {b : Bool} (hb : b = true ↔ TrainRight n t) : Calls Tryz.prog 30 #[v, .agg #[.int .i64 t.front.piece, .int .i64 t.front.at_, .int .i64 t.front.way, .int .i64 t.long, .slice ta t.back.length tc]] w fun e w' => e = .returned (.bool b) ∧ Below w.heap.size w w' :=
 (specTrainOk_any v _ n t w hv ⟨ta, tc, rfl, hst⟩ (by have := hs.pcs; omega) (by have := hs.jts; omega) hs.hle hs.hnm (by omega)).mono fun e w' ⟨h, hb'⟩ => ⟨retB_lit h hb, hb'⟩
theorem implLiesOk_lit (v : Value) (n : Nt) (zq : Option Addr) (J zc : Nat) (w : World) (hv : NetAt 0 w v n) (hz : IntsAt 0 w zq (List.replicate J 0)) (hs : NtSmall n) {b : Bool} (hb : b = true ↔ LiesRight n (List.replicate J 0)) : Calls Tryz.prog 31 #[v, .slice zq J zc] w fun e w' => e = .returned (.bool b) ∧ Below w.heap.size w w' := by
 have h := implLiesOk_any v n zq (List.replicate J 0) zc w hv hz (by have := hs.pcs; omega) (by have := hs.jts; omega) (fun i hi => (hs.hle i hi).2) hs.hnm
 rw [List.length_replicate] at h
 exact h.mono fun e w' ⟨h, hb'⟩ => ⟨retB_lit h hb, hb'⟩
theorem specLiesOk_lit (v : Value) (n : Nt) (zq : Option Addr) (J zc : Nat) (w : World) (hv : NetAt 0 w v n) (hz : IntsAt 0 w zq (List.replicate J 0)) (hs : NtSmall n) {b : Bool} (hb : b = true ↔ LiesRight n (List.replicate J 0)) : Calls Tryz.prog 32 #[v, .slice zq J zc] w fun e w' => e = .returned (.bool b) ∧ Below w.heap.size w w' := by
 have h := specLiesOk_any v n zq (List.replicate J 0) zc w hv hz (by have := hs.pcs; omega) (by have := hs.jts; omega) hs.hle hs.hnm
 rw [List.length_replicate] at h
 exact h.mono fun e w' ⟨h, hb'⟩ => ⟨retB_lit h hb, hb'⟩
theorem implSits_lit (v : Value) (n : Nt) (t : Tr) (ta : Option Addr) (tc : Nat) (zq : Option Addr) (J zc : Nat) (w : World) (hv : NetAt 0 w v n) (hst : StsAt 0 w ta t.back) (hz : IntsAt 0 w zq (List.replicate J 0)) (hs : NtSmall n) (hbl : t.back.length ≤ 220 ∧ t.back.length ≤ tc) (hno : ¬ TrainRight n t) : Calls Tryz.prog 16 #[v, .slice zq J zc, .agg #[.int .i64 t.front.piece, .int .i64 t.front.at_, .int .i64 t.front.way, .int .i64 t.long, .slice ta t.back.length tc]] w fun e w' => e = .returned (.bool false) ∧ Below w.heap.size w w' := by
 have h := implSits_any v n t ta tc zq (List.replicate J 0) zc w hv hst hz hbl.2 (by omega) (by have := hs.pcs; omega) (by have := hs.jts; omega) (fun i hi => (hs.hle i hi).2) hs.hnm
 rw [List.length_replicate] at h
 exact h.mono fun e w' ⟨h, hb'⟩ => ⟨retB_lit h (b := false) ⟨(fun h => by cases h), fun h => absurd h.1 hno⟩, hb'⟩
theorem implBody_none (v : Value) (n : Nt) (t : Tr) (ta : Option Addr) (tc : Nat) (w : World) (hv : NetAt 0 w v n) (hst : StsAt 0 w ta t.back) (hs : NtSmall n) (hbl : t.back.length ≤ 220 ∧ t.back.length ≤ tc) (hno : ¬ TrainRight n t) : Calls Tryz.prog 14 #[v, .agg #[.int .i64 t.front.piece, .int .i64 t.front.at_, .int .i64 t.front.way, .int .i64 t.long, .slice ta t.back.length tc]] w fun e w' => ∃ a cap, e = .returned (.slice a 0 cap) ∧ Below w.heap.size w w' :=
 (implBody_any v n t ta tc w hv hst hbl.2 (by omega) (by have := hs.pcs; omega) (by have := hs.jts; omega) (fun i hi => (hs.hle i hi).2) hs.hnm).mono fun e w' ⟨⟨a, cap, ps, hp, he, _⟩, hb⟩ => by
  obtain rfl : ps = [] := by
   rcases hp with ⟨h, _⟩ | ⟨_, h⟩
   ·exact absurd h hno
   ·exact h
  exact ⟨a, cap, he, hb⟩
def MvR (n : Nt) (J : Nat) (t : Tr) (F : Int) (w : World) (e : Ending) (w' : World) : Prop := ∃ (u : MvA) (pa : Option Addr) (pc : Nat) (oa : Option Addr) (oc : Nat), MvIs n (List.replicate J 0) t F u ∧ e = .returned (.agg #[.int .i64 u.code, .int .i64 u.far, .int .i64 u.joint, .int .i64 u.tr.front.piece, .int .i64 u.tr.front.at_, .int .i64 u.tr.front.way, .int .i64 u.tr.long, .slice pa u.tr.back.length pc, .slice oa u.over.length oc]) ∧ Below w.heap.size w w'
theorem implMove_u (v : Value) (n : Nt) (t : Tr) (ta : Option Addr) (tc : Nat) (zq : Option Addr) (J zc : Nat) (F : Int) (w : World) (hv : NetAt 0 w v n) (hst : StsAt 0 w ta t.back) (hz : IntsAt 0 w zq (List.replicate J 0)) (hg : GlobAt w) (hs : NtSmall n) (hbl : t.back.length ≤ 220 ∧ t.back.length ≤ tc) : Calls Tryz.prog 9 #[v, .slice zq J zc, .agg #[.int .i64 t.front.piece, .int .i64 t.front.at_, .int .i64 t.front.way, .int .i64 t.long, .slice ta t.back.length tc], .int .i64 F] w (MvR n J t F w) := by
 have h := implMove_law v n t ta tc zq (List.replicate J 0) zc F w hv hz hst hg hbl.2 (by omega) (by have := hs.pcs; omega) (by have := hs.jts; omega) (fun i hi => (hs.hle i hi).2) hs.hnm
 rw [List.length_replicate] at h
 exact h.mono fun e w' ⟨⟨u, pa, pc, oa, oc, h1, h2, _⟩, hb⟩ => ⟨u, pa, pc, oa, oc, h1, h2, hb⟩
theorem specMove_u (v : Value) (n : Nt) (t : Tr) (ta : Option Addr) (tc : Nat) (zq : Option Addr) (J zc : Nat) (F : Int) (w : World) (hv : NetAt 0 w v n) (hst : StsAt 0 w ta t.back) (hz : IntsAt 0 w zq (List.replicate J 0)) (hs : NtSmall n) (hbl : t.back.length ≤ 220 ∧ t.back.length ≤ tc) : Calls Tryz.prog 10 #[v, .slice zq J zc, .agg #[.int .i64 t.front.piece, .int .i64 t.front.at_, .int .i64 t.front.way, .int .i64 t.long, .slice ta t.back.length tc], .int .i64 F] w (MvR n J t F w) := by
 have h := specMove_law v _ n zq (List.replicate J 0) zc t F w hv hz ⟨ta, tc, rfl, hst⟩ (by omega) (by have := hs.pcs; omega) (by have := hs.jts; omega) hs.hle hs.hnm
 rw [List.length_replicate] at h
 exact h.mono fun e w' ⟨⟨u, pa, pc, oa, oc, h1, h2, _⟩, hb⟩ => ⟨u, pa, pc, oa, oc, h1, h2, hb⟩

set_option maxRecDepth 100000 in
set_option maxHeartbeats 8000000 in
theorem fnSpoilt_any (bs : List Int) (ba : Option Addr) (bcap : Nat) (w : World) (hba : BytesAt w.heap.size w ba bs) (hbs : BytesIn bs) (hg : GlobAt w) :
  Calls Tryz.prog 6 #[.slice ba bs.length bcap] w fun e w' => e = .returned (.bool true) ∧ Below w.heap.size w w' := by
 have HBA := hide hba
 have HG := hide hg
 clear hba hg
 go_enter Tryz.func6, Tryz.ntmps6
 by_cases h1 : 1048576 < bs.length
 ·have h1' : (1048576 : Int) < (bs.length : Int) := by omega
  go_wp2_with fail
  go_ret
  exact ⟨rfl, Below.refl _ _⟩
 ·have h1' : ¬ (1048576 : Int) < (bs.length : Int) := by omega
  go_wp2_with fail
  refine (drawNetOk_any bs ba bcap _ (unhide HBA) hbs).mono ?_
  rintro e w1 ⟨u, v, n, rfl, hn1, hB1, hb1⟩
  have hnn := hn1.mono (L' := 0) (Nat.zero_le _)
  obtain ⟨a1, a2, k1, k2, hve, _, _⟩ := hn1
  simp only [Value.agg.injEq, Array.mk.injEq, List.cons.injEq, and_true] at hve
  obtain ⟨rfl, rfl⟩ := hve
  have hsn := hB1.small (by omega)
  dsimp only
  have hbN : Below w1.heap.size w1 (w1.alloc (.cells #[.slice a1 n.pieces.length k1, .slice a2 n.joints.length k2] 26)) := bw0
  have hN2 : Boxed (w1.alloc (.cells #[.slice a1 n.pieces.length k1, .slice a2 n.joints.length k2] 26)) w1.heap.size [.slice a1 n.pieces.length k1, .slice a2 n.joints.length k2] := boxed_alloc _ _ _
  obtain ⟨w2, hw2⟩ : ∃ w2, w1.alloc (.cells #[.slice a1 n.pieces.length k1, .slice a2 n.joints.length k2] 26) = w2 := ⟨_, rfl⟩
  obtain ⟨N, hNe⟩ : ∃ N, w1.heap.size = N := ⟨_, rfl⟩
  rw [hw2] at hbN hN2
  rw [hNe] at hN2
  have hb2 := below_then hb1 hbN
  have hn2 := hnn.below hbN
  have m0 := hN2.2.1 0 _ rfl
  have m1 := hN2.2.1 1 _ rfl
  have ml := hN2.1
  go_upto_region 4 with fail
  clear hw2 hNe hnn hbN hb1
  go_wp2_with fail
  refine (implNetOk_any _ n w2 hn2 (by have := hsn.pcs; omega) (by have := hsn.jts; omega) (fun i hi => (hsn.hle i hi).2) hsn.hnm).mono ?_
  rintro e w3 ⟨fc, fa, rfl, hres, hb3⟩
  dsimp only
  have hbF : Below w3.heap.size w3 (w3.alloc (.cells #[.int .i64 fc, .int .i64 fa] 63)) := bw0
  have hF : Boxed (w3.alloc (.cells #[.int .i64 fc, .int .i64 fa] 63)) w3.heap.size [.int .i64 fc, .int .i64 fa] := boxed_alloc _ _ _
  obtain ⟨w4, hw4⟩ : ∃ w4, w3.alloc (.cells #[.int .i64 fc, .int .i64 fa] 63) = w4 := ⟨_, rfl⟩
  obtain ⟨F, hFe⟩ : ∃ F, w3.heap.size = F := ⟨_, rfl⟩
  rw [hw4] at hbF hF
  rw [hFe] at hF
  have hb34 := below_then hb3 hbF
  have hb4 := below_then hb2 hb34
  have hN4 := hN2.below hb34
  have hn4 := hn2.below hb34
  clear m0 m1 ml hN2 hn2 hb2 hb3 hbF hb34
  go_upto_region 5 with fail
  clear hw4 hFe
  go_wp2_with fail
  refine (drawTrainOk_any bs ba bcap w4 (fun i hi => by
   obtain ⟨b, off, e, hb, hc, hr⟩ := unhide HBA i hi
   exact ⟨b, off, e, ⟨by have := hb4.size; omega, Nat.lt_of_lt_of_le hb.2 hb4.size⟩, (hb4.cell hb.2).trans hc, hr⟩) hbs).mono ?_
  rintro e w5 ⟨u, v, m, t, ta, tc, rfl, hm5, hB5, hst5, hbl5, hb5⟩
  have hmm := hm5.mono (L' := 0) (Nat.zero_le _)
  obtain ⟨b1, b2, l1, l2, hve, _, _⟩ := hm5
  simp only [Value.agg.injEq, Array.mk.injEq, List.cons.injEq, and_true] at hve
  obtain ⟨rfl, rfl⟩ := hve
  have hsm := hB5.small (by omega)
  have hmk := run_make_rows (P := Tryz.prog) 27 3 _ 1 8 (by kernel_rfl) info_Int m.joints.length (by have := hsm.jts; omega) (by have := hsm.jts; omega)
  unfold trV
  dsimp only
  go_upto_region 7 with fail
  have hbW : Below w5.heap.size w5 (((w5.alloc (.cells #[.slice b1 m.pieces.length l1, .slice b2 m.joints.length l2] 26)).alloc (.cells #[.int .i64 t.front.piece, .int .i64 t.front.at_, .int .i64 t.front.way, .int .i64 t.long, .slice ta t.back.length tc] 32)).alloc (.cells (madeCells #[.int .i64 0] m.joints.length) 3)) := bw0
  have hb56 := below_then hb5 hbW
  have HL6 : Hid (Lw n m t fc fa a1 a2 b1 b2 ta (some ⟨w5.heap.size + 1 + 1, 0, none⟩) k1 k2 l1 l2 tc m.joints.length N F w5.heap.size (w5.heap.size + 1) (((w5.alloc (.cells #[.slice b1 m.pieces.length l1, .slice b2 m.joints.length l2] 26)).alloc (.cells #[.int .i64 t.front.piece, .int .i64 t.front.at_, .int .i64 t.front.way, .int .i64 t.long, .slice ta t.back.length tc] 32)).alloc (.cells (madeCells #[.int .i64 0] m.joints.length) 3))) :=
   ⟨hN4.below hb56, hF.below hb56, ((boxed_alloc _ _ _).alloc _).alloc _, (boxedN _ _ _ (by simp)).alloc _, hn4.below hb56, hmm.below hbW, (hst5.mono (Nat.zero_le _)).below hbW, by
    have h := made_ints ((w5.alloc (.cells #[.slice b1 m.pieces.length l1, .slice b2 m.joints.length l2] 26)).alloc (.cells #[.int .i64 t.front.piece, .int .i64 t.front.at_, .int .i64 t.front.way, .int .i64 t.long, .slice ta t.back.length tc] 32)) m.joints.length 3
    simp only [World.size_alloc] at h
    exact h, (unhide HG).below (below_then hb4 hb56)⟩
  have HB6 := hide (below_then hb4 hb56)
  obtain ⟨w6, hw6⟩ : ∃ w6, (((w5.alloc (.cells #[.slice b1 m.pieces.length l1, .slice b2 m.joints.length l2] 26)).alloc (.cells #[.int .i64 t.front.piece, .int .i64 t.front.at_, .int .i64 t.front.way, .int .i64 t.long, .slice ta t.back.length tc] 32)).alloc (.cells (madeCells #[.int .i64 0] m.joints.length) 3)) = w6 := ⟨_, rfl⟩
  obtain ⟨M, hMe⟩ : ∃ M, w5.heap.size = M := ⟨_, rfl⟩
  obtain ⟨T, hTe⟩ : ∃ T, w5.heap.size + 1 = T := ⟨_, rfl⟩
  obtain ⟨Z, hZe⟩ : ∃ Z, w5.heap.size + 1 + 1 = Z := ⟨_, rfl⟩
  rw [hw6] at HL6 HB6 ⊢
  rw [hZe, hTe] at HL6 ⊢
  rw [hMe] at HL6 ⊢
  have HSN := hide hsn
  have HSM := hide hsm
  have HRES := hide hres
  have HBL := hide hbl5
  obtain ⟨tb, htb⟩ : ∃ b : Bool, b = true ↔ TrainRight m t := by
   by_cases h : TrainRight m t
   ·exact ⟨true, by simp [h]⟩
   ·exact ⟨false, by simp [h]⟩
  obtain ⟨lb, hlb⟩ : ∃ b : Bool, b = true ↔ LiesRight m (List.replicate m.joints.length 0) := by
   by_cases h : LiesRight m (List.replicate m.joints.length 0)
   ·exact ⟨true, by simp [h]⟩
   ·exact ⟨false, by simp [h]⟩
  have HTB := hide htb
  have HLB := hide hlb
  clear hw6 hZe hTe hMe hbW hb56 hmk hsn hsm hres hbl5 htb hlb hF hN4 hn4 hmm hst5 hB1 hB5 hb4 hb5 h1
  have hf1 := field_moved
  have hf2 := field_ticked
  refine wp_region_held_drew (S := fun w' => w'.cell? ⟨N, 0, none⟩ = some (.slice a1 n.pieces.length k1) ∧ w'.cell? ⟨N, 1, none⟩ = some (.slice a2 n.joints.length k2) ∧ w'.cell? ⟨F, 0, none⟩ = some (.int .i64 fc) ∧ w'.cell? ⟨F, 1, none⟩ = some (.int .i64 fa) ∧ w'.cell? ⟨M, 0, none⟩ = some (.slice b1 m.pieces.length l1) ∧ w'.cell? ⟨M, 1, none⟩ = some (.slice b2 m.joints.length l2) ∧ w'.cell? ⟨T, 0, none⟩ = some (.int .i64 t.front.piece) ∧ w'.cell? ⟨T, 1, none⟩ = some (.int .i64 t.front.at_) ∧ w'.cell? ⟨T, 2, none⟩ = some (.int .i64 t.front.way) ∧ w'.cell? ⟨T, 3, none⟩ = some (.int .i64 t.long) ∧ w'.cell? ⟨T, 4, none⟩ = some (.slice ta t.back.length tc)) (by kernel_rfl) ?_ (fun hHeld => ?_)
  ·exact ⟨((unhide HL6).below (bw0 : Below w6.heap.size w6 w6.drew)).nb.2.1 0 _ rfl, ((unhide HL6).below (bw0 : Below w6.heap.size w6 w6.drew)).nb.2.1 1 _ rfl, ((unhide HL6).below (bw0 : Below w6.heap.size w6 w6.drew)).fb.2.1 0 _ rfl, ((unhide HL6).below (bw0 : Below w6.heap.size w6 w6.drew)).fb.2.1 1 _ rfl, ((unhide HL6).below (bw0 : Below w6.heap.size w6 w6.drew)).mb.2.1 0 _ rfl, ((unhide HL6).below (bw0 : Below w6.heap.size w6 w6.drew)).mb.2.1 1 _ rfl, ((unhide HL6).below (bw0 : Below w6.heap.size w6 w6.drew)).tb.2.1 0 _ rfl, ((unhide HL6).below (bw0 : Below w6.heap.size w6 w6.drew)).tb.2.1 1 _ rfl, ((unhide HL6).below (bw0 : Below w6.heap.size w6 w6.drew)).tb.2.1 2 _ rfl, ((unhide HL6).below (bw0 : Below w6.heap.size w6 w6.drew)).tb.2.1 3 _ rfl, ((unhide HL6).below (bw0 : Below w6.heap.size w6 w6.drew)).tb.2.1 4 _ rfl⟩
  refine wpAnyH_take (i := 0) (v := ?va1) rfl (by kernel_rfl) (by kernel_rfl) (by kernel_rfl) (fun _ _ _ h => h) (Or.inl ⟨by rfl, ?ya1⟩) (by assumption) ?ra1
  case ya1 => (intro w0 hSw; (try dsimp only at hSw); go_simp; (try with_reducible rfl))
  (try simp only [Act.put, List.getElem_toArray, List.getElem_cons_zero, List.getElem_cons_succ, List.setIfInBounds_toArray, List.set_cons_zero, List.set_cons_succ])
  refine wpAnyH_take (i := 1) (v := ?va2) rfl (by kernel_rfl) (by kernel_rfl) (by kernel_rfl) (fun _ _ _ h => h) (Or.inl ⟨by rfl, ?ya2⟩) (by assumption) ?ra2
  case ya2 => (intro w0 hSw; (try dsimp only at hSw); go_simp; (try with_reducible rfl))
  (try simp only [Act.put, List.getElem_toArray, List.getElem_cons_zero, List.getElem_cons_succ, List.setIfInBounds_toArray, List.set_cons_zero, List.set_cons_succ])
  refine wpAnyH_ready (rs := [2]) (by kernel_rfl) (by simp) ?_
  refine (AllReadyH.cons rfl (fun K hK => ?_) AllReadyH.nil)
  go_simp
  have hLd := (unhide HL6).below (bw0 : Below w6.heap.size w6 w6.drew)
  refine (specNetOk_lit _ n _ (unhide HRES) hLd.nn (unhide HSN)).mono ?_
  rintro e w7 ⟨rfl, hbD⟩
  have HL7 := hide (hLd.below hbD)
  have HB7 := hide (below_then (below_then (unhide HB6) (bw0 : Below w6.heap.size w6 w6.drew)) hbD)
  clear hbD hLd
  refine hK.out _ _ ⟨(unhide HL7).nb.2.1 0 _ rfl, (unhide HL7).nb.2.1 1 _ rfl, (unhide HL7).fb.2.1 0 _ rfl, (unhide HL7).fb.2.1 1 _ rfl, (unhide HL7).mb.2.1 0 _ rfl, (unhide HL7).mb.2.1 1 _ rfl, (unhide HL7).tb.2.1 0 _ rfl, (unhide HL7).tb.2.1 1 _ rfl, (unhide HL7).tb.2.1 2 _ rfl, (unhide HL7).tb.2.1 3 _ rfl, (unhide HL7).tb.2.1 4 _ rfl⟩ (fun hHeld => ?_)
  clear hK K
  (try simp only [Act.put, List.getElem_toArray, List.getElem_cons_zero, List.getElem_cons_succ, List.setIfInBounds_toArray, List.set_cons_zero, List.set_cons_succ])
  refine wpAnyH_take (i := 3) (v := ?va3) rfl (by kernel_rfl) (by kernel_rfl) (by kernel_rfl) (fun _ _ _ h => h) (Or.inl ⟨by rfl, ?ya3⟩) (by assumption) ?ra3
  case ya3 => (intro w0 hSw; (try dsimp only at hSw); go_simp; (try with_reducible rfl))
  (try simp only [Act.put, List.getElem_toArray, List.getElem_cons_zero, List.getElem_cons_succ, List.setIfInBounds_toArray, List.set_cons_zero, List.set_cons_succ])
  refine wpAnyH_take (i := 4) (v := ?va4) rfl (by kernel_rfl) (by kernel_rfl) (by kernel_rfl) (fun _ _ _ h => h) (Or.inl ⟨by rfl, ?ya4⟩) (by assumption) ?ra4
  case ya4 => (intro w0 hSw; (try dsimp only at hSw); go_simp; (try with_reducible rfl))
  (try simp only [Act.put, List.getElem_toArray, List.getElem_cons_zero, List.getElem_cons_succ, List.setIfInBounds_toArray, List.set_cons_zero, List.set_cons_succ])
  refine wpAnyH_take (i := 5) (v := ?va5) rfl (by kernel_rfl) (by kernel_rfl) (by kernel_rfl) (fun _ _ _ h => h) (Or.inl ⟨by rfl, ?ya5⟩) (by assumption) ?ra5
  case ya5 => (intro w0 hSw; (try dsimp only at hSw); go_simp; (try with_reducible rfl))
  (try simp only [Act.put, List.getElem_toArray, List.getElem_cons_zero, List.getElem_cons_succ, List.setIfInBounds_toArray, List.set_cons_zero, List.set_cons_succ])
  refine wpAnyH_take (i := 6) (v := ?va6) rfl (by kernel_rfl) (by kernel_rfl) (by kernel_rfl) (fun _ _ _ h => h) (Or.inl ⟨by rfl, ?ya6⟩) (by assumption) ?ra6
  case ya6 => (intro w0 hSw; (try dsimp only at hSw); go_simp; (try with_reducible rfl))
  (try simp only [Act.put, List.getElem_toArray, List.getElem_cons_zero, List.getElem_cons_succ, List.setIfInBounds_toArray, List.set_cons_zero, List.set_cons_succ])
  refine wpAnyH_take (i := 8) (v := ?va7) rfl (by kernel_rfl) (by kernel_rfl) (by kernel_rfl) (fun _ _ _ h => h) (Or.inl ⟨by rfl, ?ya7⟩) (by assumption) ?ra7
  case ya7 => (intro w0 hSw; (try dsimp only at hSw); go_simp; (try with_reducible rfl))
  (try simp only [Act.put, List.getElem_toArray, List.getElem_cons_zero, List.getElem_cons_succ, List.setIfInBounds_toArray, List.set_cons_zero, List.set_cons_succ])
  refine wpAnyH_take (i := 9) (v := ?va8) rfl (by kernel_rfl) (by kernel_rfl) (by kernel_rfl) (fun _ _ _ h => h) (Or.inl ⟨by rfl, ?ya8⟩) (by assumption) ?ra8
  case ya8 => (intro w0 hSw; (try dsimp only at hSw); go_simp; (try with_reducible rfl))
  (try simp only [Act.put, List.getElem_toArray, List.getElem_cons_zero, List.getElem_cons_succ, List.setIfInBounds_toArray, List.set_cons_zero, List.set_cons_succ])
  refine wpAnyH_ready (rs := [7]) (by kernel_rfl) (by simp) ?_
  refine (AllReadyH.cons rfl (fun K hK => ?_) AllReadyH.nil)
  go_simp
  have hLd := (unhide HL7)
  refine (implTrainOk_lit _ m t ta tc _ hLd.mm hLd.st (unhide HSM) (unhide HBL) (unhide HTB)).mono ?_
  rintro e w8 ⟨rfl, hbD⟩
  have HL8 := hide (hLd.below hbD)
  have HB8 := hide (below_then (unhide HB7) hbD)
  clear hbD hLd
  refine hK.out _ _ ⟨(unhide HL8).nb.2.1 0 _ rfl, (unhide HL8).nb.2.1 1 _ rfl, (unhide HL8).fb.2.1 0 _ rfl, (unhide HL8).fb.2.1 1 _ rfl, (unhide HL8).mb.2.1 0 _ rfl, (unhide HL8).mb.2.1 1 _ rfl, (unhide HL8).tb.2.1 0 _ rfl, (unhide HL8).tb.2.1 1 _ rfl, (unhide HL8).tb.2.1 2 _ rfl, (unhide HL8).tb.2.1 3 _ rfl, (unhide HL8).tb.2.1 4 _ rfl⟩ (fun hHeld => ?_)
  clear hK K
  (try simp only [Act.put, List.getElem_toArray, List.getElem_cons_zero, List.getElem_cons_succ, List.setIfInBounds_toArray, List.set_cons_zero, List.set_cons_succ])
  refine wpAnyH_ready (rs := [10]) (by kernel_rfl) (by simp) ?_
  refine (AllReadyH.cons rfl (fun K hK => ?_) AllReadyH.nil)
  go_simp
  have hLd := (unhide HL8)
  refine (specTrainOk_lit _ m t ta tc _ hLd.mm hLd.st (unhide HSM) (unhide HBL) (unhide HTB)).mono ?_
  rintro e w9 ⟨rfl, hbD⟩
  have HL9 := hide (hLd.below hbD)
  have HB9 := hide (below_then (unhide HB8) hbD)
  clear hbD hLd
  refine hK.out _ _ ⟨(unhide HL9).nb.2.1 0 _ rfl, (unhide HL9).nb.2.1 1 _ rfl, (unhide HL9).fb.2.1 0 _ rfl, (unhide HL9).fb.2.1 1 _ rfl, (unhide HL9).mb.2.1 0 _ rfl, (unhide HL9).mb.2.1 1 _ rfl, (unhide HL9).tb.2.1 0 _ rfl, (unhide HL9).tb.2.1 1 _ rfl, (unhide HL9).tb.2.1 2 _ rfl, (unhide HL9).tb.2.1 3 _ rfl, (unhide HL9).tb.2.1 4 _ rfl⟩ (fun hHeld => ?_)
  clear hK K
  (try simp only [Act.put, List.getElem_toArray, List.getElem_cons_zero, List.getElem_cons_succ, List.setIfInBounds_toArray, List.set_cons_zero, List.set_cons_succ])
  refine wpAnyH_take (i := 11) (v := ?va9) rfl (by kernel_rfl) (by kernel_rfl) (by kernel_rfl) (fun _ _ _ h => h) (Or.inl ⟨by rfl, ?ya9⟩) (by assumption) ?ra9
  case ya9 => (intro w0 hSw; (try dsimp only at hSw); go_simp; (try with_reducible rfl))
  (try simp only [Act.put, List.getElem_toArray, List.getElem_cons_zero, List.getElem_cons_succ, List.setIfInBounds_toArray, List.set_cons_zero, List.set_cons_succ])
  refine wpAnyH_take (i := 12) (v := ?va10) rfl (by kernel_rfl) (by kernel_rfl) (by kernel_rfl) (fun _ _ _ h => h) (Or.inl ⟨by rfl, ?ya10⟩) (by assumption) ?ra10
  case ya10 => (intro w0 hSw; (try dsimp only at hSw); go_simp; (try with_reducible rfl))
  (try simp only [Act.put, List.getElem_toArray, List.getElem_cons_zero, List.getElem_cons_succ, List.setIfInBounds_toArray, List.set_cons_zero, List.set_cons_succ])
  refine wpAnyH_take (i := 13) (v := ?va11) rfl (by kernel_rfl) (by kernel_rfl) (by kernel_rfl) (fun _ _ _ h => h) (Or.inl ⟨by rfl, ?ya11⟩) (by assumption) ?ra11
  case ya11 => (intro w0 hSw; (try dsimp only at hSw); go_simp; (try with_reducible rfl))
  (try simp only [Act.put, List.getElem_toArray, List.getElem_cons_zero, List.getElem_cons_succ, List.setIfInBounds_toArray, List.set_cons_zero, List.set_cons_succ])
  refine wpAnyH_take (i := 14) (v := ?va12) rfl (by kernel_rfl) (by kernel_rfl) (by kernel_rfl) (fun _ _ _ h => h) (Or.inl ⟨by rfl, ?ya12⟩) (by assumption) ?ra12
  case ya12 => (intro w0 hSw; (try dsimp only at hSw); go_simp; (try with_reducible rfl))
  (try simp only [Act.put, List.getElem_toArray, List.getElem_cons_zero, List.getElem_cons_succ, List.setIfInBounds_toArray, List.set_cons_zero, List.set_cons_succ])
  refine wpAnyH_take (i := 15) (v := ?va13) rfl (by kernel_rfl) (by kernel_rfl) (by kernel_rfl) (fun _ _ _ h => h) (Or.inl ⟨by rfl, ?ya13⟩) (by assumption) ?ra13
  case ya13 => (intro w0 hSw; (try dsimp only at hSw); go_simp; (try with_reducible rfl))
  (try simp only [Act.put, List.getElem_toArray, List.getElem_cons_zero, List.getElem_cons_succ, List.setIfInBounds_toArray, List.set_cons_zero, List.set_cons_succ])
  refine wpAnyH_take (i := 17) (v := ?va14) rfl (by kernel_rfl) (by kernel_rfl) (by kernel_rfl) (fun _ _ _ h => h) (Or.inl ⟨by rfl, ?ya14⟩) (by assumption) ?ra14
  case ya14 => (intro w0 hSw; (try dsimp only at hSw); go_simp; (try with_reducible rfl))
  (try simp only [Act.put, List.getElem_toArray, List.getElem_cons_zero, List.getElem_cons_succ, List.setIfInBounds_toArray, List.set_cons_zero, List.set_cons_succ])
  refine wpAnyH_take (i := 18) (v := ?va15) rfl (by kernel_rfl) (by kernel_rfl) (by kernel_rfl) (fun _ _ _ h => h) (Or.inl ⟨by rfl, ?ya15⟩) (by assumption) ?ra15
  case ya15 => (intro w0 hSw; (try dsimp only at hSw); go_simp; (try with_reducible rfl))
  (try simp only [Act.put, List.getElem_toArray, List.getElem_cons_zero, List.getElem_cons_succ, List.setIfInBounds_toArray, List.set_cons_zero, List.set_cons_succ])
  refine wpAnyH_ready (rs := [16]) (by kernel_rfl) (by simp) ?_
  refine (AllReadyH.cons rfl (fun K hK => ?_) AllReadyH.nil)
  go_simp
  have hLd := (unhide HL9)
  refine (implLiesOk_lit _ m _ _ _ _ hLd.mm hLd.zz (unhide HSM) (unhide HLB)).mono ?_
  rintro e w10 ⟨rfl, hbD⟩
  have HL10 := hide (hLd.below hbD)
  have HB10 := hide (below_then (unhide HB9) hbD)
  clear hbD hLd
  refine hK.out _ _ ⟨(unhide HL10).nb.2.1 0 _ rfl, (unhide HL10).nb.2.1 1 _ rfl, (unhide HL10).fb.2.1 0 _ rfl, (unhide HL10).fb.2.1 1 _ rfl, (unhide HL10).mb.2.1 0 _ rfl, (unhide HL10).mb.2.1 1 _ rfl, (unhide HL10).tb.2.1 0 _ rfl, (unhide HL10).tb.2.1 1 _ rfl, (unhide HL10).tb.2.1 2 _ rfl, (unhide HL10).tb.2.1 3 _ rfl, (unhide HL10).tb.2.1 4 _ rfl⟩ (fun hHeld => ?_)
  clear hK K
  (try simp only [Act.put, List.getElem_toArray, List.getElem_cons_zero, List.getElem_cons_succ, List.setIfInBounds_toArray, List.set_cons_zero, List.set_cons_succ])
  refine wpAnyH_ready (rs := [19]) (by kernel_rfl) (by simp) ?_
  refine (AllReadyH.cons rfl (fun K hK => ?_) AllReadyH.nil)
  go_simp
  have hLd := (unhide HL10)
  refine (specLiesOk_lit _ m _ _ _ _ hLd.mm hLd.zz (unhide HSM) (unhide HLB)).mono ?_
  rintro e w11 ⟨rfl, hbD⟩
  have HL11 := hide (hLd.below hbD)
  have HB11 := hide (below_then (unhide HB10) hbD)
  clear hbD hLd
  refine hK.out _ _ ⟨(unhide HL11).nb.2.1 0 _ rfl, (unhide HL11).nb.2.1 1 _ rfl, (unhide HL11).fb.2.1 0 _ rfl, (unhide HL11).fb.2.1 1 _ rfl, (unhide HL11).mb.2.1 0 _ rfl, (unhide HL11).mb.2.1 1 _ rfl, (unhide HL11).tb.2.1 0 _ rfl, (unhide HL11).tb.2.1 1 _ rfl, (unhide HL11).tb.2.1 2 _ rfl, (unhide HL11).tb.2.1 3 _ rfl, (unhide HL11).tb.2.1 4 _ rfl⟩ (fun hHeld => ?_)
  clear hK K
  (try simp only [Act.put, List.getElem_toArray, List.getElem_cons_zero, List.getElem_cons_succ, List.setIfInBounds_toArray, List.set_cons_zero, List.set_cons_succ])
  refine wpAnyH_take (i := 20) (v := ?va16) rfl (by kernel_rfl) (by kernel_rfl) (by kernel_rfl) (fun _ _ _ h => h) (Or.inl ⟨by rfl, ?ya16⟩) (by assumption) ?ra16
  case ya16 => (intro w0 hSw; (try dsimp only at hSw); go_simp; (try with_reducible rfl))
  (try simp only [Act.put, List.getElem_toArray, List.getElem_cons_zero, List.getElem_cons_succ, List.setIfInBounds_toArray, List.set_cons_zero, List.set_cons_succ])
  refine wpAnyH_take (i := 21) (v := ?va17) rfl (by kernel_rfl) (by kernel_rfl) (by kernel_rfl) (fun _ _ _ h => h) (Or.inl ⟨by rfl, ?ya17⟩) (by assumption) ?ra17
  case ya17 => (intro w0 hSw; (try dsimp only at hSw); go_simp; (try with_reducible rfl))
  (try simp only [Act.put, List.getElem_toArray, List.getElem_cons_zero, List.getElem_cons_succ, List.setIfInBounds_toArray, List.set_cons_zero, List.set_cons_succ])
  refine wpAnyH_done (by kernel_rfl) ?_ _

  go_upto_region 9 with fail
  have m0 := (unhide HL11).mb.2.1 0 _ rfl
  have m1 := (unhide HL11).mb.2.1 1 _ rfl
  have ml := (unhide HL11).mb.1
  have t0 := (unhide HL11).tb.2.1 0 _ rfl
  have t1 := (unhide HL11).tb.2.1 1 _ rfl
  have t2 := (unhide HL11).tb.2.1 2 _ rfl
  have t3 := (unhide HL11).tb.2.1 3 _ rfl
  have t4 := (unhide HL11).tb.2.1 4 _ rfl
  have tl := (unhide HL11).tb.1
  go_wp2_with fail
  refine (specTrainOk_lit _ m t ta tc _ (unhide HL11).mm (unhide HL11).st (unhide HSM) (unhide HBL) (unhide HTB)).mono ?_
  rintro e w12 ⟨rfl, hbD⟩
  have HL12 := hide ((unhide HL11).below hbD)
  have HB12 := hide (below_then (unhide HB11) hbD)
  clear hbD
  clear m0 m1 ml t0 t1 t2 t3 t4 tl
  have m0 := (unhide HL12).mb.2.1 0 _ rfl
  have m1 := (unhide HL12).mb.2.1 1 _ rfl
  have ml := (unhide HL12).mb.1
  have t0 := (unhide HL12).tb.2.1 0 _ rfl
  have t1 := (unhide HL12).tb.2.1 1 _ rfl
  have t2 := (unhide HL12).tb.2.1 2 _ rfl
  have t3 := (unhide HL12).tb.2.1 3 _ rfl
  have t4 := (unhide HL12).tb.2.1 4 _ rfl
  have tl := (unhide HL12).tb.1
  cases tb
  ·have HNO : Hid (¬ TrainRight m t) := fun h => by have := (unhide HTB).2 h; cases this
   go_wp2_with fail
   refine (implMove_u _ m t ta tc _ _ _ 1 _ (unhide HL12).mm (unhide HL12).st (unhide HL12).zz (unhide HL12).gl (unhide HSM) (unhide HBL)).mono ?_
   rintro e w13 ⟨u, pa, pc, oa, oc, hu, rfl, hbD⟩
   obtain rfl : u = noMv := by
    rcases hu with ⟨h, _⟩ | ⟨_, h⟩
    ·exact absurd h.1 (unhide HNO)
    ·exact h
   have HL13 := hide ((unhide HL12).below hbD)
   have HB13 := hide (below_then (unhide HB12) hbD)
   clear hbD hu
   clear m0 m1 ml t0 t1 t2 t3 t4 tl
   have m0 := (unhide HL13).mb.2.1 0 _ rfl
   have m1 := (unhide HL13).mb.2.1 1 _ rfl
   have ml := (unhide HL13).mb.1
   have t0 := (unhide HL13).tb.2.1 0 _ rfl
   have t1 := (unhide HL13).tb.2.1 1 _ rfl
   have t2 := (unhide HL13).tb.2.1 2 _ rfl
   have t3 := (unhide HL13).tb.2.1 3 _ rfl
   have t4 := (unhide HL13).tb.2.1 4 _ rfl
   have tl := (unhide HL13).tb.1
   unfold noMv
   dsimp only
   go_wp2_with fail
   refine (implBody_none _ m t ta tc _ (unhide HL13).mm (unhide HL13).st (unhide HSM) (unhide HBL) (unhide HNO)).mono ?_
   rintro e w14 ⟨pa2, pc2, rfl, hbD⟩
   have HL14 := hide ((unhide HL13).below hbD)
   have HB14 := hide (below_then (unhide HB13) hbD)
   clear hbD
   clear m0 m1 ml t0 t1 t2 t3 t4 tl
   have m0 := (unhide HL14).mb.2.1 0 _ rfl
   have m1 := (unhide HL14).mb.2.1 1 _ rfl
   have ml := (unhide HL14).mb.1
   have t0 := (unhide HL14).tb.2.1 0 _ rfl
   have t1 := (unhide HL14).tb.2.1 1 _ rfl
   have t2 := (unhide HL14).tb.2.1 2 _ rfl
   have t3 := (unhide HL14).tb.2.1 3 _ rfl
   have t4 := (unhide HL14).tb.2.1 4 _ rfl
   have tl := (unhide HL14).tb.1
   dsimp only
   go_wp2_with fail
   refine (implSits_lit _ m t ta tc _ _ _ _ (unhide HL14).mm (unhide HL14).st (unhide HL14).zz (unhide HSM) (unhide HBL) (unhide HNO)).mono ?_
   rintro e w15 ⟨rfl, hbD⟩
   have HL15 := hide ((unhide HL14).below hbD)
   have HB15 := hide (below_then (unhide HB14) hbD)
   clear hbD
   clear m0 m1 ml t0 t1 t2 t3 t4 tl
   have m0 := (unhide HL15).mb.2.1 0 _ rfl
   have m1 := (unhide HL15).mb.2.1 1 _ rfl
   have ml := (unhide HL15).mb.1
   have t0 := (unhide HL15).tb.2.1 0 _ rfl
   have t1 := (unhide HL15).tb.2.1 1 _ rfl
   have t2 := (unhide HL15).tb.2.1 2 _ rfl
   have t3 := (unhide HL15).tb.2.1 3 _ rfl
   have t4 := (unhide HL15).tb.2.1 4 _ rfl
   have tl := (unhide HL15).tb.1
   dsimp only
   go_wp2_with fail
   have hAW : Below w15.heap.size w15 ((w15.alloc (.cells #[.int .i64 t.front.piece, .int .i64 t.front.at_, .int .i64 t.front.way, .int .i64 t.long, .slice ta t.back.length tc] 32)).alloc (.cells #[.int .i64 1] 3)) := bw0
   have hTB : Boxed ((w15.alloc (.cells #[.int .i64 t.front.piece, .int .i64 t.front.at_, .int .i64 t.front.way, .int .i64 t.long, .slice ta t.back.length tc] 32)).alloc (.cells #[.int .i64 1] 3)) w15.heap.size (trC t ta tc) := (boxed_alloc _ _ _).alloc _
   have hLA := (unhide HL15).below hAW
   refine (implTick_none _ m (some ⟨w15.heap.size, 0, none⟩) t 1 _ _ _ hLA.mm ⟨w15.heap.size, 0, ta, tc, rfl, hTB.1, hTB.2.1 0 _ rfl, hTB.2.1 1 _ rfl, hTB.2.1 2 _ rfl, hTB.2.1 3 _ rfl, hTB.2.1 4 _ rfl, hLA.st, (unhide HBL).2⟩ (by have := (unhide HBL).1; omega) (by have := (unhide HSM).pcs; omega) (by have := (unhide HSM).jts; omega) (fun i hi => ((unhide HSM).hle i hi).2) (unhide HSM).hnm (unhide HNO)).mono ?_
   rintro e w16 ⟨rfl, hbD⟩
   have HL16 := hide (hLA.below hbD)
   have HB16 := hide (below_then (below_then (unhide HB15) hAW) hbD)
   clear hbD hAW hTB hLA
   clear m0 m1 ml t0 t1 t2 t3 t4 tl
   have m0 := (unhide HL16).mb.2.1 0 _ rfl
   have m1 := (unhide HL16).mb.2.1 1 _ rfl
   have ml := (unhide HL16).mb.1
   have t0 := (unhide HL16).tb.2.1 0 _ rfl
   have t1 := (unhide HL16).tb.2.1 1 _ rfl
   have t2 := (unhide HL16).tb.2.1 2 _ rfl
   have t3 := (unhide HL16).tb.2.1 3 _ rfl
   have t4 := (unhide HL16).tb.2.1 4 _ rfl
   have tl := (unhide HL16).tb.1
   dsimp only
   go_wp2_with fail
   have hAW : Below w16.heap.size w16 (w16.alloc (.cells #[.int .i64 t.front.piece, .int .i64 t.front.at_, .int .i64 t.front.way, .int .i64 t.long, .slice ta t.back.length tc] 32)) := bw0
   have hTB : Boxed (w16.alloc (.cells #[.int .i64 t.front.piece, .int .i64 t.front.at_, .int .i64 t.front.way, .int .i64 t.long, .slice ta t.back.length tc] 32)) w16.heap.size (trC t ta tc) := boxed_alloc _ _ _
   have hLA := (unhide HL16).below hAW
   refine (implShown_none _ m (some ⟨w16.heap.size, 0, none⟩) t 1 _ hLA.mm ⟨w16.heap.size, 0, ta, tc, rfl, hTB.1, hTB.2.1 0 _ rfl, hTB.2.1 1 _ rfl, hTB.2.1 2 _ rfl, hTB.2.1 3 _ rfl, hTB.2.1 4 _ rfl, hLA.st, (unhide HBL).2⟩ (by have := (unhide HBL).1; omega) (by have := (unhide HSM).pcs; omega) (by have := (unhide HSM).jts; omega) (fun i hi => ((unhide HSM).hle i hi).2) (unhide HSM).hnm (unhide HNO)).mono ?_
   rintro e w17 ⟨rfl, hbD⟩
   have HB17 := hide (below_then (below_then (unhide HB16) hAW) hbD)
   clear hbD hAW hTB hLA
   clear m0 m1 ml t0 t1 t2 t3 t4 tl
   dsimp only
   go_wp2_with fail
   go_ret
   exact ⟨rfl, unhide HB17⟩
  ·go_upto_region 10 with fail
   refine wp_region_held_drew (S := fun w' => w'.cell? ⟨M, 0, none⟩ = some (.slice b1 m.pieces.length l1) ∧ w'.cell? ⟨M, 1, none⟩ = some (.slice b2 m.joints.length l2) ∧ w'.cell? ⟨T, 0, none⟩ = some (.int .i64 t.front.piece) ∧ w'.cell? ⟨T, 1, none⟩ = some (.int .i64 t.front.at_) ∧ w'.cell? ⟨T, 2, none⟩ = some (.int .i64 t.front.way) ∧ w'.cell? ⟨T, 3, none⟩ = some (.int .i64 t.long) ∧ w'.cell? ⟨T, 4, none⟩ = some (.slice ta t.back.length tc)) (by kernel_rfl) ?_ (fun hHeld => ?_)
   ·exact ⟨((unhide HL12).below (bw0 : Below w12.heap.size w12 w12.drew)).mb.2.1 0 _ rfl, ((unhide HL12).below (bw0 : Below w12.heap.size w12 w12.drew)).mb.2.1 1 _ rfl, ((unhide HL12).below (bw0 : Below w12.heap.size w12 w12.drew)).tb.2.1 0 _ rfl, ((unhide HL12).below (bw0 : Below w12.heap.size w12 w12.drew)).tb.2.1 1 _ rfl, ((unhide HL12).below (bw0 : Below w12.heap.size w12 w12.drew)).tb.2.1 2 _ rfl, ((unhide HL12).below (bw0 : Below w12.heap.size w12 w12.drew)).tb.2.1 3 _ rfl, ((unhide HL12).below (bw0 : Below w12.heap.size w12 w12.drew)).tb.2.1 4 _ rfl⟩
   refine wpAnyH_take (i := 0) (v := ?vb1) rfl (by kernel_rfl) (by kernel_rfl) (by kernel_rfl) (fun _ _ _ h => h) (Or.inl ⟨by rfl, ?yb1⟩) (by assumption) ?rb1
   case yb1 => (intro w0 hSw; (try dsimp only at hSw); go_simp; (try with_reducible rfl))
   (try simp only [Act.put, List.getElem_toArray, List.getElem_cons_zero, List.getElem_cons_succ, List.setIfInBounds_toArray, List.set_cons_zero, List.set_cons_succ])
   refine wpAnyH_take (i := 1) (v := ?vb2) rfl (by kernel_rfl) (by kernel_rfl) (by kernel_rfl) (fun _ _ _ h => h) (Or.inl ⟨by rfl, ?yb2⟩) (by assumption) ?rb2
   case yb2 => (intro w0 hSw; (try dsimp only at hSw); go_simp; (try with_reducible rfl))
   (try simp only [Act.put, List.getElem_toArray, List.getElem_cons_zero, List.getElem_cons_succ, List.setIfInBounds_toArray, List.set_cons_zero, List.set_cons_succ])
   refine wpAnyH_take (i := 2) (v := ?vb3) rfl (by kernel_rfl) (by kernel_rfl) (by kernel_rfl) (fun _ _ _ h => h) (Or.inl ⟨by rfl, ?yb3⟩) (by assumption) ?rb3
   case yb3 => (intro w0 hSw; (try dsimp only at hSw); go_simp; (try with_reducible rfl))
   (try simp only [Act.put, List.getElem_toArray, List.getElem_cons_zero, List.getElem_cons_succ, List.setIfInBounds_toArray, List.set_cons_zero, List.set_cons_succ])
   refine wpAnyH_take (i := 5) (v := ?vb4) rfl (by kernel_rfl) (by kernel_rfl) (by kernel_rfl) (fun _ _ _ h => h) (Or.inl ⟨by rfl, ?yb4⟩) (by assumption) ?rb4
   case yb4 => (intro w0 hSw; (try dsimp only at hSw); go_simp; (try with_reducible rfl))
   (try simp only [Act.put, List.getElem_toArray, List.getElem_cons_zero, List.getElem_cons_succ, List.setIfInBounds_toArray, List.set_cons_zero, List.set_cons_succ])
   refine wpAnyH_take (i := 6) (v := ?vb5) rfl (by kernel_rfl) (by kernel_rfl) (by kernel_rfl) (fun _ _ _ h => h) (Or.inl ⟨by rfl, ?yb5⟩) (by assumption) ?rb5
   case yb5 => (intro w0 hSw; (try dsimp only at hSw); go_simp; (try with_reducible rfl))
   (try simp only [Act.put, List.getElem_toArray, List.getElem_cons_zero, List.getElem_cons_succ, List.setIfInBounds_toArray, List.set_cons_zero, List.set_cons_succ])
   refine wpAnyH_take (i := 7) (v := ?vb6) rfl (by kernel_rfl) (by kernel_rfl) (by kernel_rfl) (fun _ _ _ h => h) (Or.inl ⟨by rfl, ?yb6⟩) (by assumption) ?rb6
   case yb6 => (intro w0 hSw; (try dsimp only at hSw); go_simp; (try with_reducible rfl))
   (try simp only [Act.put, List.getElem_toArray, List.getElem_cons_zero, List.getElem_cons_succ, List.setIfInBounds_toArray, List.set_cons_zero, List.set_cons_succ])
   refine wpAnyH_ready (rs := [3]) (by kernel_rfl) (by simp) ?_
   refine (AllReadyH.cons rfl (fun K hK => ?_) AllReadyH.nil)
   go_simp
   have hLd := (unhide HL12).below (bw0 : Below w12.heap.size w12 w12.drew)
   refine (implMove_u _ m t ta tc _ _ _ 0 _ hLd.mm hLd.st hLd.zz hLd.gl (unhide HSM) (unhide HBL)).mono ?_
   rintro e w13 ⟨u, pa13, pc13, oa13, oc13, hu13, rfl, hbD⟩
   have HL13 := hide (hLd.below hbD)
   have HB13 := hide (below_then (below_then (unhide HB12) (bw0 : Below w12.heap.size w12 w12.drew)) hbD)
   have HU := hide hu13
   clear hu13
   clear hbD hLd
   refine hK.out _ _ ⟨(unhide HL13).mb.2.1 0 _ rfl, (unhide HL13).mb.2.1 1 _ rfl, (unhide HL13).tb.2.1 0 _ rfl, (unhide HL13).tb.2.1 1 _ rfl, (unhide HL13).tb.2.1 2 _ rfl, (unhide HL13).tb.2.1 3 _ rfl, (unhide HL13).tb.2.1 4 _ rfl⟩ (fun hHeld => ?_)
   clear hK K
   (try simp only [Act.put, List.getElem_toArray, List.getElem_cons_zero, List.getElem_cons_succ, List.setIfInBounds_toArray, List.set_cons_zero, List.set_cons_succ])
   refine wpAnyH_take (i := 4) (v := ?vb7) rfl (by kernel_rfl) (by kernel_rfl) (by kernel_rfl) (fun _ _ _ h => h) (Or.inl ⟨by rfl, ?yb7⟩) (by assumption) ?rb7
   case yb7 => (intro w0 hSw; (try dsimp only at hSw); go_simp; (try with_reducible rfl))
   (try simp only [Act.put, List.getElem_toArray, List.getElem_cons_zero, List.getElem_cons_succ, List.setIfInBounds_toArray, List.set_cons_zero, List.set_cons_succ])
   refine wpAnyH_ready (rs := [8]) (by kernel_rfl) (by simp) ?_
   refine (AllReadyH.cons rfl (fun K hK => ?_) AllReadyH.nil)
   go_simp
   have hLd := (unhide HL13)
   refine (specMove_u _ m t ta tc _ _ _ 0 _ hLd.mm hLd.st hLd.zz (unhide HSM) (unhide HBL)).mono ?_
   rintro e w14 ⟨u', pa14, pc14, oa14, oc14, hu14, rfl, hbD⟩
   have HL14 := hide (hLd.below hbD)
   have HB14 := hide (below_then (unhide HB13) hbD)
   obtain rfl := (unhide HU).unique hu14
   clear hu14
   clear hbD hLd
   refine hK.out _ _ ⟨(unhide HL14).mb.2.1 0 _ rfl, (unhide HL14).mb.2.1 1 _ rfl, (unhide HL14).tb.2.1 0 _ rfl, (unhide HL14).tb.2.1 1 _ rfl, (unhide HL14).tb.2.1 2 _ rfl, (unhide HL14).tb.2.1 3 _ rfl, (unhide HL14).tb.2.1 4 _ rfl⟩ (fun hHeld => ?_)
   clear hK K
   (try simp only [Act.put, List.getElem_toArray, List.getElem_cons_zero, List.getElem_cons_succ, List.setIfInBounds_toArray, List.set_cons_zero, List.set_cons_succ])
   refine wpAnyH_take (i := 9) (v := ?vb8) rfl (by kernel_rfl) (by kernel_rfl) (by kernel_rfl) (fun _ _ _ h => h) (Or.inl ⟨by rfl, ?yb8⟩) (by assumption) ?rb8
   case yb8 => (intro w0 hSw; (try dsimp only at hSw); go_simp; (try with_reducible rfl))
   (try simp only [Act.put, List.getElem_toArray, List.getElem_cons_zero, List.getElem_cons_succ, List.setIfInBounds_toArray, List.set_cons_zero, List.set_cons_succ])
   refine wpAnyH_take (i := 10) (v := ?vb9) rfl (by kernel_rfl) (by kernel_rfl) (by kernel_rfl) (fun _ _ _ h => h) (Or.inl ⟨by rfl, ?yb9⟩) (by assumption) ?rb9
   case yb9 => (intro w0 hSw; (try dsimp only at hSw); go_simp; (try with_reducible rfl))
   (try simp only [Act.put, List.getElem_toArray, List.getElem_cons_zero, List.getElem_cons_succ, List.setIfInBounds_toArray, List.set_cons_zero, List.set_cons_succ])
   refine wpAnyH_take (i := 11) (v := ?vb10) rfl (by kernel_rfl) (by kernel_rfl) (by kernel_rfl) (fun _ _ _ h => h) (Or.inl ⟨by rfl, ?yb10⟩) (by assumption) ?rb10
   case yb10 => (intro w0 hSw; (try dsimp only at hSw); go_simp; (try with_reducible rfl))
   (try simp only [Act.put, List.getElem_toArray, List.getElem_cons_zero, List.getElem_cons_succ, List.setIfInBounds_toArray, List.set_cons_zero, List.set_cons_succ])
   refine wpAnyH_done (by kernel_rfl) ?_ _

   go_wp2_with fail
   go_ret
   exact ⟨rfl, unhide HB14⟩

end Go.Proofs.YtbdggfpfpjijoaaGreatDoor

