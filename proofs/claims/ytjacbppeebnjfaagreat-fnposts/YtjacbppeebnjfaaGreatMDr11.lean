import Derived.Test.YtjacbppeebnjfaaGreatMDr9
import Derived.Test.YtjacbppeebnjfaaGreatMRo
import Derived.Test.YtjacbppeebnjfaaGreatMSpec14
set_option linter.unusedSimpArgs false
namespace Go.Proofs.YtjacbppeebnjfaaGreat
open Go.RowKit

structure NtSmall (n : Nt) : Prop where
 pcs : n.pieces.length ≤ 10000
 jts : n.joints.length ≤ 10000
 ends : ∀ i (h : i < n.joints.length), n.joints[i].ends.length ≤ 1000000 ∧ n.joints[i].name.size ≤ 1000000
 nms : ∀ i (h : i < n.pieces.length), n.pieces[i].name.size ≤ 1000000
 lens : LensOk n
theorem NtSmall.hle {n : Nt} (h : NtSmall n) : ∀ i (h : i < n.joints.length), n.joints[i].ends.length ≤ 1048576 ∧ n.joints[i].name.size ≤ maxLen := fun i hi => by
 have := h.ends i hi
 unfold maxLen
 omega
theorem NtSmall.hnm {n : Nt} (h : NtSmall n) : ∀ i (h : i < n.pieces.length), n.pieces[i].name.size ≤ maxLen := fun i hi => by
 have := h.nms i hi
 unfold maxLen
 omega

def tryC (bs : List Int) (c : Cu) (n : Nt) : Sp × Int × Cu :=
 ((spotC bs c n).1, 1 + (wideC bs (spotC bs c n).2 220).1.tdiv (1 + (pickC bs (wideC bs (spotC bs c n).2 220).2 4).1), (pickC bs (wideC bs (spotC bs c n).2 220).2 4).2)
inductive TrnIs (bs : List Int) (n : Nt) (zs : List Int) : Nat → Cu → Tr → Cu → Prop
 | last (c : Cu) : TrnIs bs n zs 0 c ⟨(spotC bs c n).1, 1 + (pickC bs (spotC bs c n).2 9).1, []⟩ (pickC bs (spotC bs c n).2 9).2
 | hit {k : Nat} {c : Cu} {t : Tr} (h : PlaceAns n zs (tryC bs c n).1 (tryC bs c n).2.1 true t) : TrnIs bs n zs (k + 1) c t (tryC bs c n).2.2
 | miss {k : Nat} {c c' : Cu} {t t' : Tr} (h : PlaceAns n zs (tryC bs c n).1 (tryC bs c n).2.1 false t') (g : TrnIs bs n zs k (tryC bs c n).2.2 t c') : TrnIs bs n zs (k + 1) c t c'
theorem TrnIs.unique {bs : List Int} {n : Nt} {zs : List Int} {k : Nat} {c c1 c2 : Cu} {t1 t2 : Tr} (h : TrnIs bs n zs k c t1 c1) : TrnIs bs n zs k c t2 c2 → t1 = t2 ∧ c1 = c2 := by
 induction h with
 | last c => intro g; cases g; exact ⟨rfl, rfl⟩
 | hit h =>
  intro g
  cases g with
  | hit h' => exact ⟨(h.unique h').2, rfl⟩
  | miss h' _ => exact absurd (h.unique h').1 (by simp)
 | miss h _ ih =>
  intro g
  cases g with
  | hit h' => exact absurd (h.unique h').1 (by simp)
  | miss _ g => exact ih g
theorem tryC_at (bs : List Int) (c : Cu) (n : Nt) : (tryC bs c n).2.2.at_ ≤ c.at_ + 16 := by
 have h1 := spotC_at bs c n
 have h2 := wideC_at bs (spotC bs c n).2 220
 have h3 := pickC_at bs (wideC bs (spotC bs c n).2 220).2 4
 show (pickC bs (wideC bs (spotC bs c n).2 220).2 4).2.at_ ≤ _
 omega
theorem TrnIs.at_ {bs : List Int} {n : Nt} {zs : List Int} {k : Nat} {c c1 : Cu} {t : Tr} (h : TrnIs bs n zs k c t c1) : c1.at_ ≤ c.at_ + 16 * k + 14 := by
 induction h with
 | last c =>
  have h1 := spotC_at bs c n
  have h2 := pickC_at bs (spotC bs c n).2 9
  omega
 | @hit k c t h => have := tryC_at bs c n; omega
 | @miss k c c' t t' h _ ih => have := tryC_at bs c n; omega
theorem TrnIs.len {bs : List Int} {n : Nt} {zs : List Int} {k : Nat} {c c1 : Cu} {t : Tr} (h : TrnIs bs n zs k c t c1) : t.back.length ≤ 200 := by
 induction h with
 | last c => simp
 | hit h => exact h.len
 | miss _ _ ih => exact ih

def trV (t : Tr) (a : Option Addr) (cap : Nat) : Value := .agg #[.int .i64 t.front.piece, .int .i64 t.front.at_, .int .i64 t.front.way, .int .i64 t.long, .slice a t.back.length cap]
def RetTn (C : Nat) (bs : List Int) (n : Nt) (zs : List Int) (c : Cu) (w : World) (e : Ending) (w' : World) : Prop :=
 ∃ t a cap c', e = .returned (trV t a cap) ∧ TrnIs bs n zs 4 c t c' ∧ StRow w' w.heap.size (.slice a t.back.length cap) t.back ∧ CurAt w' C bs c' ∧ But (fun k => k = C) w.heap.size w w'

structure TnW (C X R : Nat) (bs : List Int) (w0 : World) (v : Value) (c : Cu) (w : World) : Prop where
 cur : CurAt w C bs c
 xb : ∃ u1 u2, v = .agg #[u1, u2] ∧ Boxed w X [u1, u2]
 rb : Boxed w R [.int .i64 0, .int .i64 0, .int .i64 0, .int .i64 0, .slice none 0 0]
 but : But (fun k => k = C) w0.heap.size w0 w
theorem TnW.draw {C X R : Nat} {bs : List Int} {w0 w w' : World} {v : Value} {c c' : Cu} (h : TnW C X R bs w0 v c w) (ho : But (fun k => k = C) w.heap.size w w') (hc : CurAt w' C bs c') (hX : C < X) (hR : C < R) : TnW C X R bs w0 v c' w' := by
 obtain ⟨u1, u2, e, hb⟩ := h.xb
 exact ⟨hc, ⟨u1, u2, e, hb.blk ho.size (ho.block X hb.1 (show ¬ X = C by omega))⟩, h.rb.blk ho.size (ho.block R h.rb.1 (show ¬ R = C by omega)), but_then h.but ho⟩
theorem but_of_below {C : Nat} {w w' : World} (hb : Below w.heap.size w w') : But (fun k => k = C) w.heap.size w w' := but_below hb (Nat.le_refl _)
theorem but_of_only {C : Nat} {w w' : World} (ho : Only (fun k => k = C) w w') : But (fun k => k = C) w.heap.size w w' := but_only ho (fun _ _ e => e) (Nat.le_refl _)
theorem TnW.below {C X R : Nat} {bs : List Int} {w0 w w' : World} {v : Value} {c : Cu} (h : TnW C X R bs w0 v c w) (hb : Below w.heap.size w w') (hX : C < X) (hR : C < R) : TnW C X R bs w0 v c w' := h.draw (but_of_below hb) (h.cur.below hb) hX hR
theorem TnW.only {C X R U : Nat} {bs : List Int} {w0 w w' : World} {v : Value} {c : Cu} (h : TnW C X R bs w0 v c w) (ho : Only (fun k => k = U) w w') (hX : X < U) (hR : R < U) (hC : C < U) (h0 : w0.heap.size ≤ U) (hw : U < w.heap.size) : TnW C X R bs w0 v c w' := by
 obtain ⟨u1, u2, e, hb⟩ := h.xb
 exact ⟨h.cur.of_below (U := C + 1) (ho.below (by omega) (fun k hk (e : k = U) => by omega)) (by omega), ⟨u1, u2, e, hb.onlyS ho (show ¬ X = U by omega)⟩, h.rb.onlyS ho (show ¬ R = U by omega), h.but.trans (but_only ho (fun k hk (e : k = U) => by omega) h.but.size)⟩
def plV (ok : Bool) (t : Tr) (a : Option Addr) (cap : Nat) : List Value := [.bool ok, .int .i64 t.front.piece, .int .i64 t.front.at_, .int .i64 t.front.way, .int .i64 t.long, .slice a t.back.length cap]

set_option maxRecDepth 100000 in
set_option maxHeartbeats 8000000 in
theorem drawTrain_any (C : Nat) (bs : List Int) (c : Cu) (v : Value) (n : Nt) (zq : Option Addr) (zs : List Int) (zc : Nat) (w : World) (hcu : CurAt w C bs c) (hbs : BytesIn bs) (ha : c.at_ ≤ 100000) (hv : NetK C w v n) (hz : IntsK C w zq zs) (hsm : NtSmall n) :
  Calls Tryz.prog 12 #[.pointer (some ⟨C, 0, none⟩), v, .slice zq zs.length zc] w (RetTn C bs n zs c w) := by
 have hCl := hcu.lt
 obtain ⟨a, a2, ca, cc, hve, _, _⟩ := hv.now
 have HT0 : Hid (TnW C w.heap.size (w.heap.size + 1) bs w v c ((w.alloc (.cells #[.slice a n.pieces.length ca, .slice a2 n.joints.length cc] 26)).alloc (.cells #[.int .i64 0, .int .i64 0, .int .i64 0, .int .i64 0, .slice none 0 0] 32))) := by
  have hbb : Below w.heap.size w ((w.alloc (.cells #[.slice a n.pieces.length ca, .slice a2 n.joints.length cc] 26)).alloc (.cells #[.int .i64 0, .int .i64 0, .int .i64 0, .int .i64 0, .slice none 0 0] 32)) := bw0
  exact ⟨hcu.below hbb, ⟨_, _, hve, (boxed_alloc w #[.slice a n.pieces.length ca, .slice a2 n.joints.length cc] 26).alloc _⟩, boxedN _ _ _ (by simp), but_of_below hbb⟩
 have HV0 := hide hv
 have HZ0 := hide hz
 subst hve
 clear hv hz hcu
 have HSM := hide hsm
 clear hsm
 go_enter Tryz.func12, Tryz.ntmps12
 go_wp2_with fail
 obtain ⟨wb, hwb⟩ : ∃ wb, ((w.alloc (.cells #[.slice a n.pieces.length ca, .slice a2 n.joints.length cc] 26)).alloc (.cells #[.int .i64 0, .int .i64 0, .int .i64 0, .int .i64 0, .slice none 0 0] 32)) = wb := ⟨_, rfl⟩
 rw [hwb] at HT0 ⊢
 clear hwb
 obtain ⟨X, hX⟩ : ∃ X, w.heap.size = X := ⟨_, rfl⟩
 have hX' : w.heap.size ≤ X ∧ X ≤ w.heap.size := by omega
 rw [hX] at HT0 hCl ⊢
 clear hX
 obtain ⟨R, hR⟩ : ∃ R, X + 1 = R := ⟨_, rfl⟩
 have hR' : R = X + 1 := hR.symm
 rw [hR] at HT0 ⊢
 have hXR : ¬ X = R ∧ ¬ R = X ∧ C < R ∧ w.heap.size ≤ R := by omega
 clear hR hR'
 have hpl : n.pieces.length ≤ 1000000 := by have := (unhide HSM).pcs; omega
 go_loopw [7] (fun z wr => ∃ (i : Nat) (c1 : Cu), z = .int .i64 i ∧ i ≤ 4 ∧ c1.at_ + 16 * (4 - i) ≤ c.at_ + 64 ∧ Hid (∀ t c', TrnIs bs n zs (4 - i) c1 t c' → TrnIs bs n zs 4 c t c') ∧ Hid (TnW C X R bs w (.agg #[.slice a n.pieces.length ca, .slice a2 n.joints.length cc]) c1 wr)) (fun z _ => 4 - (intOf z).toNat)
 case atStart => exact ⟨0, c, rfl, by omega, by omega, fun t c' h => h, HT0⟩
 case round =>
  clear HT0
  obtain ⟨i, c1, rfl, hi, hat, HIS, HTR⟩ := hrel
  by_cases hlt : i < 4
  ·have hlt' : (i : Int) < 4 := by omega
   have hwi : IntKind.i64.wrap ((i : Int) + 1) = ((i + 1 : Nat) : Int) := (wrap_small (by omega) (by omega)).trans (by omega)
   have hts := tryC_at bs c1 n
   have HTC : Hid (tryC bs c1 n = ((spotC bs c1 n).1, 1 + (wideC bs (spotC bs c1 n).2 220).1.tdiv (1 + (pickC bs (wideC bs (spotC bs c1 n).2 220).2 4).1), (pickC bs (wideC bs (spotC bs c1 n).2 220).2 4).2)) := rfl
   have hsa := spotC_at bs c1 n
   obtain ⟨⟨⟨sp, sat, sw⟩, c2⟩, hs1⟩ : ∃ x, spotC bs c1 n = x := ⟨_, rfl⟩
   rw [hs1] at HTC hsa
   dsimp only at HTC hsa
   have HS1 := hide hs1
   have hr3 := wideC_in bs c2 (show (0 : Int) < 220 by omega)
   have ha3 := wideC_at bs c2 220
   obtain ⟨r3, hr3'⟩ : ∃ r, (wideC bs c2 220).1 = r := ⟨_, rfl⟩
   obtain ⟨c3, hc3⟩ : ∃ c3, (wideC bs c2 220).2 = c3 := ⟨_, rfl⟩
   rw [hr3'] at hr3 HTC
   rw [hc3] at ha3 HTC
   have HR3 := hide (And.intro hr3' hc3)
   have hr4 := pickC_in bs c3 4
   have ha4 := pickC_at bs c3 4
   obtain ⟨r4, hr4'⟩ : ∃ r, (pickC bs c3 4).1 = r := ⟨_, rfl⟩
   obtain ⟨c4, hc4⟩ : ∃ c4, (pickC bs c3 4).2 = c4 := ⟨_, rfl⟩
   rw [hr4'] at hr4 HTC
   rw [hc4] at ha4 HTC
   have HR4 := hide (And.intro hr4' hc4)
   clear hs1 hr3' hc3 hr4' hc4
   have hd0 : 0 ≤ r3.tdiv (1 + r4) := Int.tdiv_nonneg hr3.1 (by omega)
   have hd1 : r3.tdiv (1 + r4) ≤ r3 := Int.tdiv_le_self _ hr3.1
   obtain ⟨d, hd⟩ : ∃ d, r3.tdiv (1 + r4) = d := ⟨_, rfl⟩
   rw [hd] at hd0 hd1 HTC
   obtain ⟨lg, hlg⟩ : ∃ lg, 1 + d = lg := ⟨_, rfl⟩
   rw [hlg] at HTC
   have hw1 : IntKind.i64.wrap (1 + r4) = 1 + r4 := wrap_small (by omega) (by omega)
   have hw2 : ((1 + r4) == 0) = false := by rw [beq_eq_false_iff_ne]; omega
   have hw5 : ¬ 1 + r4 = 0 := by omega
   have hw3 : IntKind.i64.wrap d = d := wrap_small (by omega) (by omega)
   have hw4 : IntKind.i64.wrap (1 + d) = lg := (wrap_small (by omega) (by omega)).trans hlg
   have HLG := hide hlg
   clear hlg
   go_upto_region 4 with fail
   have HTRx := HTR
   obtain ⟨u1, u2, hu, hX0⟩ := (unhide HTR).xb
   simp only [Value.agg.injEq, Array.mk.injEq, List.cons.injEq, and_true] at hu
   obtain ⟨rfl, rfl⟩ := hu
   have x0 := hX0.2.1 0 _ rfl
   have x1 := hX0.2.1 1 _ rfl
   have xl := hX0.1
   clear hX0
   go_cut [8] (fun z wx => ∃ (U : Nat) (ok : Bool) (t : Tr) (ba : Option Addr) (bc : Nat), z = .pointer (some ⟨U, 0, none⟩) ∧ (w.heap.size ≤ U ∧ R < U) ∧ Hid (PlaceAns n zs ⟨sp, sat, sw⟩ lg ok t) ∧ Boxed wx U (plV ok t ba bc) ∧ Hid (StRow wx (R + 1) (.slice ba t.back.length bc) t.back) ∧ Hid (TnW C X R bs w (.agg #[.slice a n.pieces.length ca, .slice a2 n.joints.length cc]) c4 wx))
   case first =>
    refine wp_region_last (S := fun w' => w'.cell? ⟨X, 0, none⟩ = some (.slice a n.pieces.length ca) ∧ w'.cell? ⟨X, 1, none⟩ = some (.slice a2 n.joints.length cc)) 14 (by kernel_rfl) ?_ (fun hHeld => ?_)
    ·exact ⟨by simpa using x0, by simpa using x1⟩
    refine tkL 0 [12, 14] ?_
    refine tkL 1 [12, 14] ?_
    refine tkL 2 [4, 6, 8, 9, 10, 11, 12, 14] ?_
    refine tkL 3 [4, 6, 8, 9, 10, 11, 12, 14] ?_
    refine tkL 5 [6, 8, 9, 10, 11, 12, 14] ?_
    refine tkL 7 [8, 9, 10, 11, 12, 14] ?_
    refine wpAnyL_ready (rs := [4, 13]) (by kernel_rfl) (by simp) ?_
    refine (AllReadyL.cons rfl (fun K hK => ?_) (AllReadyL.cons rfl (fun K hK => ?_) AllReadyL.nil))
    ·go_simp
     have HTc := hide ((unhide HTR).below (bw0 : Below _ _ wr.drew) (by omega) (by omega))
     refine (spot_any C bs c1 _ n _ (unhide HTc).cur hbs (by omega) ((unhide HV0).on (unhide HTc).but) hpl (unhide HSM).lens).mono ?_
     rw [unhide HS1]
     rintro e w2 ⟨rfl, hcu2, hb2⟩
     dsimp only [spV]
     dsimp only at hcu2
     have HTc := hide ((unhide HTc).draw hb2 hcu2 (by omega) (by omega))

     have hxx := (unhide HTc).xb
     obtain ⟨u1, u2, hu, hXX⟩ := hxx
     simp only [Value.agg.injEq, Array.mk.injEq, List.cons.injEq, and_true] at hu
     obtain ⟨rfl, rfl⟩ := hu
     have hHeld := And.intro (hXX.2.1 0 _ rfl) (hXX.2.1 1 _ rfl)
     have xlc := hXX.1
     have rlc := (unhide HTc).rb.1
     clear hXX
     clear hcu2 hb2
     refine hK.out _ _ (fun _ => hHeld) (fun _ => ?_)
     clear hK K
     (try simp only [sA])
     refine wpAnyL_ready (rs := [6, 13]) (by kernel_rfl) (by simp) ?_
     refine (AllReadyL.cons rfl (fun K hK => ?_) (AllReadyL.cons rfl (fun K hK => ?_) AllReadyL.nil))
     ·go_simp
      refine (wide_any C bs c2 220 _ (unhide HTc).cur hbs (by omega) ⟨by omega, by omega⟩).mono ?_
      rw [(unhide HR3).1, (unhide HR3).2]
      rintro e w3 ⟨rfl, hcu3, ho3⟩
      dsimp only
      have hb3 := but_of_only ho3
      have HTc := hide ((unhide HTc).draw hb3 hcu3 (by omega) (by omega))

      have hxx := (unhide HTc).xb
      obtain ⟨u1, u2, hu, hXX⟩ := hxx
      simp only [Value.agg.injEq, Array.mk.injEq, List.cons.injEq, and_true] at hu
      obtain ⟨rfl, rfl⟩ := hu
      have hHeld := And.intro (hXX.2.1 0 _ rfl) (hXX.2.1 1 _ rfl)
      have xlc := hXX.1
      have rlc := (unhide HTc).rb.1
      clear hXX
      clear hcu3 ho3 hb3
      refine hK.out _ _ (fun _ => hHeld) (fun _ => ?_)
      clear hK K
      (try simp only [sA])
      refine wpAnyL_ready (rs := [8, 13]) (by kernel_rfl) (by simp) ?_
      refine (AllReadyL.cons rfl (fun K hK => ?_) (AllReadyL.cons rfl (fun K hK => ?_) AllReadyL.nil))
      ·go_simp
       refine (pick_any C bs c3 4 _ (unhide HTc).cur hbs (by omega) (by omega)).mono ?_
       rw [(unhide HR4).1, (unhide HR4).2]
       rintro e w4 ⟨rfl, hcu4, ho4⟩
       dsimp only
       have hb4 := but_of_only ho4
       have HTc := hide ((unhide HTc).draw hb4 hcu4 (by omega) (by omega))

       have hxx := (unhide HTc).xb
       obtain ⟨u1, u2, hu, hXX⟩ := hxx
       simp only [Value.agg.injEq, Array.mk.injEq, List.cons.injEq, and_true] at hu
       obtain ⟨rfl, rfl⟩ := hu
       have hHeld := And.intro (hXX.2.1 0 _ rfl) (hXX.2.1 1 _ rfl)
       have xlc := hXX.1
       have rlc := (unhide HTc).rb.1
       clear hXX
       clear hcu4 ho4 hb4
       refine hK.out _ _ (fun _ => hHeld) (fun _ => ?_)
       clear hK K
       (try simp only [sA])
       refine tkL 9 [10, 11, 12, 14] ?_
       refine tkL 10 [11, 12, 14] ?_
       refine tkL 11 [12, 14] ?_
       refine wpAnyL_ready (rs := [12, 13]) (by kernel_rfl) (by simp) ?_
       refine (AllReadyL.cons rfl (fun K hK => ?_) (AllReadyL.cons rfl (fun K hK => ?_) AllReadyL.nil))
       ·go_simp
        refine (specPlace_any _ n zq zs zc ⟨sp, sat, sw⟩ lg _ (unhide HV0 _ (unhide HTc).but) (unhide HZ0 _ (unhide HTc).but) (by omega) (by have := (unhide HSM).jts; omega) (unhide HSM).hle (unhide HSM).hnm).mono ?_
        rintro e w5 ⟨⟨ok, t, ba, bc, hpa, rfl, hrow5⟩, hb5⟩
        dsimp only
        have hb5' := but_of_below (C := C) hb5
        have hcu5 := (unhide HTc).cur.below hb5
        have HROW5 := hide (hrow5.mono (show R + 1 ≤ _ from (unhide HTc).rb.1))
        have HTc := hide ((unhide HTc).draw hb5' hcu5 (by omega) (by omega))

        have hxx := (unhide HTc).xb
        obtain ⟨u1, u2, hu, hXX⟩ := hxx
        simp only [Value.agg.injEq, Array.mk.injEq, List.cons.injEq, and_true] at hu
        obtain ⟨rfl, rfl⟩ := hu
        have hHeld := And.intro (hXX.2.1 0 _ rfl) (hXX.2.1 1 _ rfl)
        have xlc := hXX.1
        have rlc := (unhide HTc).rb.1
        clear hXX
        have HPA := hide hpa
        clear hpa hrow5 hb5 hb5' hcu5
        refine hK.out _ _ (fun _ => hHeld) (fun _ => ?_)
        clear hK K
        (try simp only [sA])
        refine wpAnyL_ready (rs := [13]) (by kernel_rfl) (by simp) ?_
        refine (AllReadyL.cons rfl (fun K hK => ?_) AllReadyL.nil)
        go_simp
        have HTcx := HTc
        have HROW5x := HROW5
        have hBU : Boxed (w5.alloc (.cells #[.bool false, .int .i64 0, .int .i64 0, .int .i64 0, .int .i64 0, .slice none 0 0] 100)) w5.heap.size [.bool false, .int .i64 0, .int .i64 0, .int .i64 0, .int .i64 0, .slice none 0 0] := boxed_alloc _ _ _
        have hUg : R < w5.heap.size := (unhide HTc).rb.1
        have HTc := hide ((unhide HTc).below (bw0 : Below _ _ (w5.alloc (.cells #[.bool false, .int .i64 0, .int .i64 0, .int .i64 0, .int .i64 0, .slice none 0 0] 100))) (by omega) (by omega))
        have HROW5 := hide ((unhide HROW5).below (bw0 : Below _ _ (w5.alloc (.cells #[.bool false, .int .i64 0, .int .i64 0, .int .i64 0, .int .i64 0, .slice none 0 0] 100))))

        have hxx := (unhide HTc).xb
        obtain ⟨u1, u2, hu, hXX⟩ := hxx
        simp only [Value.agg.injEq, Array.mk.injEq, List.cons.injEq, and_true] at hu
        obtain ⟨rfl, rfl⟩ := hu
        have hHeld := And.intro (hXX.2.1 0 _ rfl) (hXX.2.1 1 _ rfl)
        have xlc := hXX.1
        have rlc := (unhide HTc).rb.1
        clear hXX
        refine hK.out _ _ (fun _ => hHeld) (fun _ => ?_)
        clear hK K
        (try simp only [sA])
        refine wpAnyL_ready (rs := [14]) (by kernel_rfl) (by simp) ?_
        refine (AllReadyL.cons rfl (fun K hK => ?_) AllReadyL.nil)
        go_simp
        refine hK.out _ _ (fun h => absurd rfl h) (fun _ => ?_)
        clear hK K
        (try simp only [sA])
        refine wpAnyL_done (by kernel_rfl) ?_ _

        go_wp2_with fail
        go_meet
        refine ⟨_, ok, t, ba, bc, rfl, ⟨by omega, by omega⟩, HPA, boxed_alloc _ _ _, ?_, ?_⟩
        ·exact (unhide HROW5x).below bw0
        ·exact (unhide HTcx).below bw0 (by omega) (by omega)
       ·go_simp
        have hBU : Boxed (w4.alloc (.cells #[.bool false, .int .i64 0, .int .i64 0, .int .i64 0, .int .i64 0, .slice none 0 0] 100)) w4.heap.size [.bool false, .int .i64 0, .int .i64 0, .int .i64 0, .int .i64 0, .slice none 0 0] := boxed_alloc _ _ _
        have hUg : R < w4.heap.size := (unhide HTc).rb.1
        have HTc := hide ((unhide HTc).below (bw0 : Below _ _ (w4.alloc (.cells #[.bool false, .int .i64 0, .int .i64 0, .int .i64 0, .int .i64 0, .slice none 0 0] 100))) (by omega) (by omega))

        have hxx := (unhide HTc).xb
        obtain ⟨u1, u2, hu, hXX⟩ := hxx
        simp only [Value.agg.injEq, Array.mk.injEq, List.cons.injEq, and_true] at hu
        obtain ⟨rfl, rfl⟩ := hu
        have hHeld := And.intro (hXX.2.1 0 _ rfl) (hXX.2.1 1 _ rfl)
        have xlc := hXX.1
        have rlc := (unhide HTc).rb.1
        clear hXX
        refine hK.out _ _ (fun _ => hHeld) (fun _ => ?_)
        clear hK K
        (try simp only [sA])
        refine wpAnyL_ready (rs := [12]) (by kernel_rfl) (by simp) ?_
        refine (AllReadyL.cons rfl (fun K hK => ?_) AllReadyL.nil)
        go_simp
        refine (specPlace_any _ n zq zs zc ⟨sp, sat, sw⟩ lg _ (unhide HV0 _ (unhide HTc).but) (unhide HZ0 _ (unhide HTc).but) (by omega) (by have := (unhide HSM).jts; omega) (unhide HSM).hle (unhide HSM).hnm).mono ?_
        rintro e w5 ⟨⟨ok, t, ba, bc, hpa, rfl, hrow5⟩, hb5⟩
        dsimp only
        have hb5' := but_of_below (C := C) hb5
        have hcu5 := (unhide HTc).cur.below hb5
        have HROW5 := hide (hrow5.mono (show R + 1 ≤ _ from (unhide HTc).rb.1))
        have hUR := hrow5.lt
        have hUR2 : ∀ k, (Value.slice ba t.back.length bc).ownBlock = some k → k ≠ w4.heap.size := fun k hk e => by have h1 := (hUR k hk).1; have h2 := hBU.1; omega
        have HTc := hide ((unhide HTc).draw hb5' hcu5 (by omega) (by omega))
        have hBU := hBU.blk (hb5').size ((hb5').block _ hBU.1 (show ¬ w4.heap.size = C by omega))

        have hxx := (unhide HTc).xb
        obtain ⟨u1, u2, hu, hXX⟩ := hxx
        simp only [Value.agg.injEq, Array.mk.injEq, List.cons.injEq, and_true] at hu
        obtain ⟨rfl, rfl⟩ := hu
        have hHeld := And.intro (hXX.2.1 0 _ rfl) (hXX.2.1 1 _ rfl)
        have xlc := hXX.1
        have rlc := (unhide HTc).rb.1
        clear hXX
        have HPA := hide hpa
        clear hpa hrow5 hb5 hb5' hcu5
        refine hK.out _ _ (fun _ => hHeld) (fun _ => ?_)
        clear hK K
        (try simp only [sA])
        refine wpAnyL_ready (rs := [14]) (by kernel_rfl) (by simp) ?_
        refine (AllReadyL.cons rfl (fun K hK => ?_) AllReadyL.nil)
        have u0 := hBU.2.1 0 _ rfl
        have u1 := hBU.2.1 1 _ rfl
        have u2 := hBU.2.1 2 _ rfl
        have u3 := hBU.2.1 3 _ rfl
        have u4 := hBU.2.1 4 _ rfl
        have u5 := hBU.2.1 5 _ rfl
        have uz := hBU.2.2
        have ul := hBU.1
        go_simp
        refine hK.out _ _ (fun h => absurd rfl h) (fun _ => ?_)
        clear hK K
        (try simp only [sA])
        refine wpAnyL_done (by kernel_rfl) ?_ _

        have hBF := ((((((hBU.setI (i := 0) (by simp) (.bool ok)).setI (i := 1) (by simp) (.int .i64 t.front.piece)).setI (i := 2) (by simp) (.int .i64 t.front.at_)).setI (i := 3) (by simp) (.int .i64 t.front.way)).setI (i := 4) (by simp) (.int .i64 t.long)).setI (i := 5) (by simp) (.slice ba t.back.length bc))
        have hOF := ((((((only_setCell (S := fun k => k = w4.heap.size) w5 (p := ⟨w4.heap.size, 0, none⟩) rfl (.bool ok)).trans (only_setCell (S := fun k => k = w4.heap.size) _ (p := ⟨w4.heap.size, 1, none⟩) rfl (.int .i64 t.front.piece))).trans (only_setCell (S := fun k => k = w4.heap.size) _ (p := ⟨w4.heap.size, 2, none⟩) rfl (.int .i64 t.front.at_))).trans (only_setCell (S := fun k => k = w4.heap.size) _ (p := ⟨w4.heap.size, 3, none⟩) rfl (.int .i64 t.front.way))).trans (only_setCell (S := fun k => k = w4.heap.size) _ (p := ⟨w4.heap.size, 4, none⟩) rfl (.int .i64 t.long))).trans (only_setCell (S := fun k => k = w4.heap.size) _ (p := ⟨w4.heap.size, 5, none⟩) rfl (.slice ba t.back.length bc)))
        have HBF := hide hBF
        have HOF := hide hOF
        clear hBF hOF
        go_wp2_with fail
        go_meet
        refine ⟨_, ok, t, ba, bc, rfl, ⟨by omega, by omega⟩, HPA, unhide HBF, ?_, ?_⟩
        ·exact (unhide HROW5).only (unhide HOF) (fun k hk e => hUR2 k hk e)
        ·exact (unhide HTc).only (unhide HOF) (by omega) (by omega) (by omega) (by omega) hBU.1
      ·go_simp
       have hBU : Boxed (w3.alloc (.cells #[.bool false, .int .i64 0, .int .i64 0, .int .i64 0, .int .i64 0, .slice none 0 0] 100)) w3.heap.size [.bool false, .int .i64 0, .int .i64 0, .int .i64 0, .int .i64 0, .slice none 0 0] := boxed_alloc _ _ _
       have hUg : R < w3.heap.size := (unhide HTc).rb.1
       have HTc := hide ((unhide HTc).below (bw0 : Below _ _ (w3.alloc (.cells #[.bool false, .int .i64 0, .int .i64 0, .int .i64 0, .int .i64 0, .slice none 0 0] 100))) (by omega) (by omega))

       have hxx := (unhide HTc).xb
       obtain ⟨u1, u2, hu, hXX⟩ := hxx
       simp only [Value.agg.injEq, Array.mk.injEq, List.cons.injEq, and_true] at hu
       obtain ⟨rfl, rfl⟩ := hu
       have hHeld := And.intro (hXX.2.1 0 _ rfl) (hXX.2.1 1 _ rfl)
       have xlc := hXX.1
       have rlc := (unhide HTc).rb.1
       clear hXX
       refine hK.out _ _ (fun _ => hHeld) (fun _ => ?_)
       clear hK K
       (try simp only [sA])
       refine wpAnyL_ready (rs := [8]) (by kernel_rfl) (by simp) ?_
       refine (AllReadyL.cons rfl (fun K hK => ?_) AllReadyL.nil)
       go_simp
       refine (pick_any C bs c3 4 _ (unhide HTc).cur hbs (by omega) (by omega)).mono ?_
       rw [(unhide HR4).1, (unhide HR4).2]
       rintro e w4 ⟨rfl, hcu4, ho4⟩
       dsimp only
       have hb4 := but_of_only ho4
       have HTc := hide ((unhide HTc).draw hb4 hcu4 (by omega) (by omega))
       have hBU := hBU.blk (hb4).size ((hb4).block _ hBU.1 (show ¬ w3.heap.size = C by omega))

       have hxx := (unhide HTc).xb
       obtain ⟨u1, u2, hu, hXX⟩ := hxx
       simp only [Value.agg.injEq, Array.mk.injEq, List.cons.injEq, and_true] at hu
       obtain ⟨rfl, rfl⟩ := hu
       have hHeld := And.intro (hXX.2.1 0 _ rfl) (hXX.2.1 1 _ rfl)
       have xlc := hXX.1
       have rlc := (unhide HTc).rb.1
       clear hXX
       clear hcu4 ho4 hb4
       refine hK.out _ _ (fun _ => hHeld) (fun _ => ?_)
       clear hK K
       (try simp only [sA])
       refine tkL 9 [10, 11, 12, 14] ?_
       refine tkL 10 [11, 12, 14] ?_
       refine tkL 11 [12, 14] ?_
       refine wpAnyL_ready (rs := [12]) (by kernel_rfl) (by simp) ?_
       refine (AllReadyL.cons rfl (fun K hK => ?_) AllReadyL.nil)
       go_simp
       refine (specPlace_any _ n zq zs zc ⟨sp, sat, sw⟩ lg _ (unhide HV0 _ (unhide HTc).but) (unhide HZ0 _ (unhide HTc).but) (by omega) (by have := (unhide HSM).jts; omega) (unhide HSM).hle (unhide HSM).hnm).mono ?_
       rintro e w5 ⟨⟨ok, t, ba, bc, hpa, rfl, hrow5⟩, hb5⟩
       dsimp only
       have hb5' := but_of_below (C := C) hb5
       have hcu5 := (unhide HTc).cur.below hb5
       have HROW5 := hide (hrow5.mono (show R + 1 ≤ _ from (unhide HTc).rb.1))
       have hUR := hrow5.lt
       have hUR2 : ∀ k, (Value.slice ba t.back.length bc).ownBlock = some k → k ≠ w3.heap.size := fun k hk e => by have h1 := (hUR k hk).1; have h2 := hBU.1; omega
       have HTc := hide ((unhide HTc).draw hb5' hcu5 (by omega) (by omega))
       have hBU := hBU.blk (hb5').size ((hb5').block _ hBU.1 (show ¬ w3.heap.size = C by omega))

       have hxx := (unhide HTc).xb
       obtain ⟨u1, u2, hu, hXX⟩ := hxx
       simp only [Value.agg.injEq, Array.mk.injEq, List.cons.injEq, and_true] at hu
       obtain ⟨rfl, rfl⟩ := hu
       have hHeld := And.intro (hXX.2.1 0 _ rfl) (hXX.2.1 1 _ rfl)
       have xlc := hXX.1
       have rlc := (unhide HTc).rb.1
       clear hXX
       have HPA := hide hpa
       clear hpa hrow5 hb5 hb5' hcu5
       refine hK.out _ _ (fun _ => hHeld) (fun _ => ?_)
       clear hK K
       (try simp only [sA])
       refine wpAnyL_ready (rs := [14]) (by kernel_rfl) (by simp) ?_
       refine (AllReadyL.cons rfl (fun K hK => ?_) AllReadyL.nil)
       have u0 := hBU.2.1 0 _ rfl
       have u1 := hBU.2.1 1 _ rfl
       have u2 := hBU.2.1 2 _ rfl
       have u3 := hBU.2.1 3 _ rfl
       have u4 := hBU.2.1 4 _ rfl
       have u5 := hBU.2.1 5 _ rfl
       have uz := hBU.2.2
       have ul := hBU.1
       go_simp
       refine hK.out _ _ (fun h => absurd rfl h) (fun _ => ?_)
       clear hK K
       (try simp only [sA])
       refine wpAnyL_done (by kernel_rfl) ?_ _

       have hBF := ((((((hBU.setI (i := 0) (by simp) (.bool ok)).setI (i := 1) (by simp) (.int .i64 t.front.piece)).setI (i := 2) (by simp) (.int .i64 t.front.at_)).setI (i := 3) (by simp) (.int .i64 t.front.way)).setI (i := 4) (by simp) (.int .i64 t.long)).setI (i := 5) (by simp) (.slice ba t.back.length bc))
       have hOF := ((((((only_setCell (S := fun k => k = w3.heap.size) w5 (p := ⟨w3.heap.size, 0, none⟩) rfl (.bool ok)).trans (only_setCell (S := fun k => k = w3.heap.size) _ (p := ⟨w3.heap.size, 1, none⟩) rfl (.int .i64 t.front.piece))).trans (only_setCell (S := fun k => k = w3.heap.size) _ (p := ⟨w3.heap.size, 2, none⟩) rfl (.int .i64 t.front.at_))).trans (only_setCell (S := fun k => k = w3.heap.size) _ (p := ⟨w3.heap.size, 3, none⟩) rfl (.int .i64 t.front.way))).trans (only_setCell (S := fun k => k = w3.heap.size) _ (p := ⟨w3.heap.size, 4, none⟩) rfl (.int .i64 t.long))).trans (only_setCell (S := fun k => k = w3.heap.size) _ (p := ⟨w3.heap.size, 5, none⟩) rfl (.slice ba t.back.length bc)))
       have HBF := hide hBF
       have HOF := hide hOF
       clear hBF hOF
       go_wp2_with fail
       go_meet
       refine ⟨_, ok, t, ba, bc, rfl, ⟨by omega, by omega⟩, HPA, unhide HBF, ?_, ?_⟩
       ·exact (unhide HROW5).only (unhide HOF) (fun k hk e => hUR2 k hk e)
       ·exact (unhide HTc).only (unhide HOF) (by omega) (by omega) (by omega) (by omega) hBU.1
     ·go_simp
      have hBU : Boxed (w2.alloc (.cells #[.bool false, .int .i64 0, .int .i64 0, .int .i64 0, .int .i64 0, .slice none 0 0] 100)) w2.heap.size [.bool false, .int .i64 0, .int .i64 0, .int .i64 0, .int .i64 0, .slice none 0 0] := boxed_alloc _ _ _
      have hUg : R < w2.heap.size := (unhide HTc).rb.1
      have HTc := hide ((unhide HTc).below (bw0 : Below _ _ (w2.alloc (.cells #[.bool false, .int .i64 0, .int .i64 0, .int .i64 0, .int .i64 0, .slice none 0 0] 100))) (by omega) (by omega))

      have hxx := (unhide HTc).xb
      obtain ⟨u1, u2, hu, hXX⟩ := hxx
      simp only [Value.agg.injEq, Array.mk.injEq, List.cons.injEq, and_true] at hu
      obtain ⟨rfl, rfl⟩ := hu
      have hHeld := And.intro (hXX.2.1 0 _ rfl) (hXX.2.1 1 _ rfl)
      have xlc := hXX.1
      have rlc := (unhide HTc).rb.1
      clear hXX
      refine hK.out _ _ (fun _ => hHeld) (fun _ => ?_)
      clear hK K
      (try simp only [sA])
      refine wpAnyL_ready (rs := [6]) (by kernel_rfl) (by simp) ?_
      refine (AllReadyL.cons rfl (fun K hK => ?_) AllReadyL.nil)
      go_simp
      refine (wide_any C bs c2 220 _ (unhide HTc).cur hbs (by omega) ⟨by omega, by omega⟩).mono ?_
      rw [(unhide HR3).1, (unhide HR3).2]
      rintro e w3 ⟨rfl, hcu3, ho3⟩
      dsimp only
      have hb3 := but_of_only ho3
      have HTc := hide ((unhide HTc).draw hb3 hcu3 (by omega) (by omega))
      have hBU := hBU.blk (hb3).size ((hb3).block _ hBU.1 (show ¬ w2.heap.size = C by omega))

      have hxx := (unhide HTc).xb
      obtain ⟨u1, u2, hu, hXX⟩ := hxx
      simp only [Value.agg.injEq, Array.mk.injEq, List.cons.injEq, and_true] at hu
      obtain ⟨rfl, rfl⟩ := hu
      have hHeld := And.intro (hXX.2.1 0 _ rfl) (hXX.2.1 1 _ rfl)
      have xlc := hXX.1
      have rlc := (unhide HTc).rb.1
      clear hXX
      clear hcu3 ho3 hb3
      refine hK.out _ _ (fun _ => hHeld) (fun _ => ?_)
      clear hK K
      (try simp only [sA])
      refine wpAnyL_ready (rs := [8]) (by kernel_rfl) (by simp) ?_
      refine (AllReadyL.cons rfl (fun K hK => ?_) AllReadyL.nil)
      go_simp
      refine (pick_any C bs c3 4 _ (unhide HTc).cur hbs (by omega) (by omega)).mono ?_
      rw [(unhide HR4).1, (unhide HR4).2]
      rintro e w4 ⟨rfl, hcu4, ho4⟩
      dsimp only
      have hb4 := but_of_only ho4
      have HTc := hide ((unhide HTc).draw hb4 hcu4 (by omega) (by omega))
      have hBU := hBU.blk (hb4).size ((hb4).block _ hBU.1 (show ¬ w2.heap.size = C by omega))

      have hxx := (unhide HTc).xb
      obtain ⟨u1, u2, hu, hXX⟩ := hxx
      simp only [Value.agg.injEq, Array.mk.injEq, List.cons.injEq, and_true] at hu
      obtain ⟨rfl, rfl⟩ := hu
      have hHeld := And.intro (hXX.2.1 0 _ rfl) (hXX.2.1 1 _ rfl)
      have xlc := hXX.1
      have rlc := (unhide HTc).rb.1
      clear hXX
      clear hcu4 ho4 hb4
      refine hK.out _ _ (fun _ => hHeld) (fun _ => ?_)
      clear hK K
      (try simp only [sA])
      refine tkL 9 [10, 11, 12, 14] ?_
      refine tkL 10 [11, 12, 14] ?_
      refine tkL 11 [12, 14] ?_
      refine wpAnyL_ready (rs := [12]) (by kernel_rfl) (by simp) ?_
      refine (AllReadyL.cons rfl (fun K hK => ?_) AllReadyL.nil)
      go_simp
      refine (specPlace_any _ n zq zs zc ⟨sp, sat, sw⟩ lg _ (unhide HV0 _ (unhide HTc).but) (unhide HZ0 _ (unhide HTc).but) (by omega) (by have := (unhide HSM).jts; omega) (unhide HSM).hle (unhide HSM).hnm).mono ?_
      rintro e w5 ⟨⟨ok, t, ba, bc, hpa, rfl, hrow5⟩, hb5⟩
      dsimp only
      have hb5' := but_of_below (C := C) hb5
      have hcu5 := (unhide HTc).cur.below hb5
      have HROW5 := hide (hrow5.mono (show R + 1 ≤ _ from (unhide HTc).rb.1))
      have hUR := hrow5.lt
      have hUR2 : ∀ k, (Value.slice ba t.back.length bc).ownBlock = some k → k ≠ w2.heap.size := fun k hk e => by have h1 := (hUR k hk).1; have h2 := hBU.1; omega
      have HTc := hide ((unhide HTc).draw hb5' hcu5 (by omega) (by omega))
      have hBU := hBU.blk (hb5').size ((hb5').block _ hBU.1 (show ¬ w2.heap.size = C by omega))

      have hxx := (unhide HTc).xb
      obtain ⟨u1, u2, hu, hXX⟩ := hxx
      simp only [Value.agg.injEq, Array.mk.injEq, List.cons.injEq, and_true] at hu
      obtain ⟨rfl, rfl⟩ := hu
      have hHeld := And.intro (hXX.2.1 0 _ rfl) (hXX.2.1 1 _ rfl)
      have xlc := hXX.1
      have rlc := (unhide HTc).rb.1
      clear hXX
      have HPA := hide hpa
      clear hpa hrow5 hb5 hb5' hcu5
      refine hK.out _ _ (fun _ => hHeld) (fun _ => ?_)
      clear hK K
      (try simp only [sA])
      refine wpAnyL_ready (rs := [14]) (by kernel_rfl) (by simp) ?_
      refine (AllReadyL.cons rfl (fun K hK => ?_) AllReadyL.nil)
      have u0 := hBU.2.1 0 _ rfl
      have u1 := hBU.2.1 1 _ rfl
      have u2 := hBU.2.1 2 _ rfl
      have u3 := hBU.2.1 3 _ rfl
      have u4 := hBU.2.1 4 _ rfl
      have u5 := hBU.2.1 5 _ rfl
      have uz := hBU.2.2
      have ul := hBU.1
      go_simp
      refine hK.out _ _ (fun h => absurd rfl h) (fun _ => ?_)
      clear hK K
      (try simp only [sA])
      refine wpAnyL_done (by kernel_rfl) ?_ _

      have hBF := ((((((hBU.setI (i := 0) (by simp) (.bool ok)).setI (i := 1) (by simp) (.int .i64 t.front.piece)).setI (i := 2) (by simp) (.int .i64 t.front.at_)).setI (i := 3) (by simp) (.int .i64 t.front.way)).setI (i := 4) (by simp) (.int .i64 t.long)).setI (i := 5) (by simp) (.slice ba t.back.length bc))
      have hOF := ((((((only_setCell (S := fun k => k = w2.heap.size) w5 (p := ⟨w2.heap.size, 0, none⟩) rfl (.bool ok)).trans (only_setCell (S := fun k => k = w2.heap.size) _ (p := ⟨w2.heap.size, 1, none⟩) rfl (.int .i64 t.front.piece))).trans (only_setCell (S := fun k => k = w2.heap.size) _ (p := ⟨w2.heap.size, 2, none⟩) rfl (.int .i64 t.front.at_))).trans (only_setCell (S := fun k => k = w2.heap.size) _ (p := ⟨w2.heap.size, 3, none⟩) rfl (.int .i64 t.front.way))).trans (only_setCell (S := fun k => k = w2.heap.size) _ (p := ⟨w2.heap.size, 4, none⟩) rfl (.int .i64 t.long))).trans (only_setCell (S := fun k => k = w2.heap.size) _ (p := ⟨w2.heap.size, 5, none⟩) rfl (.slice ba t.back.length bc)))
      have HBF := hide hBF
      have HOF := hide hOF
      clear hBF hOF
      go_wp2_with fail
      go_meet
      refine ⟨_, ok, t, ba, bc, rfl, ⟨by omega, by omega⟩, HPA, unhide HBF, ?_, ?_⟩
      ·exact (unhide HROW5).only (unhide HOF) (fun k hk e => hUR2 k hk e)
      ·exact (unhide HTc).only (unhide HOF) (by omega) (by omega) (by omega) (by omega) hBU.1
    ·go_simp
     have HTc := hide ((unhide HTR).below (bw0 : Below _ _ wr.drew) (by omega) (by omega))
     have hBU : Boxed (wr.drew.alloc (.cells #[.bool false, .int .i64 0, .int .i64 0, .int .i64 0, .int .i64 0, .slice none 0 0] 100)) wr.heap.size [.bool false, .int .i64 0, .int .i64 0, .int .i64 0, .int .i64 0, .slice none 0 0] := boxed_alloc _ _ _
     have hUg : R < wr.heap.size := (unhide HTc).rb.1
     have HTc := hide ((unhide HTc).below (bw0 : Below _ _ (wr.drew.alloc (.cells #[.bool false, .int .i64 0, .int .i64 0, .int .i64 0, .int .i64 0, .slice none 0 0] 100))) (by omega) (by omega))

     have hxx := (unhide HTc).xb
     obtain ⟨u1, u2, hu, hXX⟩ := hxx
     simp only [Value.agg.injEq, Array.mk.injEq, List.cons.injEq, and_true] at hu
     obtain ⟨rfl, rfl⟩ := hu
     have hHeld := And.intro (hXX.2.1 0 _ rfl) (hXX.2.1 1 _ rfl)
     have xlc := hXX.1
     have rlc := (unhide HTc).rb.1
     clear hXX
     refine hK.out _ _ (fun _ => hHeld) (fun _ => ?_)
     clear hK K
     (try simp only [sA])
     refine wpAnyL_ready (rs := [4]) (by kernel_rfl) (by simp) ?_
     refine (AllReadyL.cons rfl (fun K hK => ?_) AllReadyL.nil)
     go_simp
     refine (spot_any C bs c1 _ n _ (unhide HTc).cur hbs (by omega) ((unhide HV0).on (unhide HTc).but) hpl (unhide HSM).lens).mono ?_
     rw [unhide HS1]
     rintro e w2 ⟨rfl, hcu2, hb2⟩
     dsimp only [spV]
     dsimp only at hcu2
     have HTc := hide ((unhide HTc).draw hb2 hcu2 (by omega) (by omega))
     have hBU := hBU.blk (hb2).size ((hb2).block _ hBU.1 (show ¬ wr.heap.size = C by omega))

     have hxx := (unhide HTc).xb
     obtain ⟨u1, u2, hu, hXX⟩ := hxx
     simp only [Value.agg.injEq, Array.mk.injEq, List.cons.injEq, and_true] at hu
     obtain ⟨rfl, rfl⟩ := hu
     have hHeld := And.intro (hXX.2.1 0 _ rfl) (hXX.2.1 1 _ rfl)
     have xlc := hXX.1
     have rlc := (unhide HTc).rb.1
     clear hXX
     clear hcu2 hb2
     refine hK.out _ _ (fun _ => hHeld) (fun _ => ?_)
     clear hK K
     (try simp only [sA])
     refine wpAnyL_ready (rs := [6]) (by kernel_rfl) (by simp) ?_
     refine (AllReadyL.cons rfl (fun K hK => ?_) AllReadyL.nil)
     go_simp
     refine (wide_any C bs c2 220 _ (unhide HTc).cur hbs (by omega) ⟨by omega, by omega⟩).mono ?_
     rw [(unhide HR3).1, (unhide HR3).2]
     rintro e w3 ⟨rfl, hcu3, ho3⟩
     dsimp only
     have hb3 := but_of_only ho3
     have HTc := hide ((unhide HTc).draw hb3 hcu3 (by omega) (by omega))
     have hBU := hBU.blk (hb3).size ((hb3).block _ hBU.1 (show ¬ wr.heap.size = C by omega))

     have hxx := (unhide HTc).xb
     obtain ⟨u1, u2, hu, hXX⟩ := hxx
     simp only [Value.agg.injEq, Array.mk.injEq, List.cons.injEq, and_true] at hu
     obtain ⟨rfl, rfl⟩ := hu
     have hHeld := And.intro (hXX.2.1 0 _ rfl) (hXX.2.1 1 _ rfl)
     have xlc := hXX.1
     have rlc := (unhide HTc).rb.1
     clear hXX
     clear hcu3 ho3 hb3
     refine hK.out _ _ (fun _ => hHeld) (fun _ => ?_)
     clear hK K
     (try simp only [sA])
     refine wpAnyL_ready (rs := [8]) (by kernel_rfl) (by simp) ?_
     refine (AllReadyL.cons rfl (fun K hK => ?_) AllReadyL.nil)
     go_simp
     refine (pick_any C bs c3 4 _ (unhide HTc).cur hbs (by omega) (by omega)).mono ?_
     rw [(unhide HR4).1, (unhide HR4).2]
     rintro e w4 ⟨rfl, hcu4, ho4⟩
     dsimp only
     have hb4 := but_of_only ho4
     have HTc := hide ((unhide HTc).draw hb4 hcu4 (by omega) (by omega))
     have hBU := hBU.blk (hb4).size ((hb4).block _ hBU.1 (show ¬ wr.heap.size = C by omega))

     have hxx := (unhide HTc).xb
     obtain ⟨u1, u2, hu, hXX⟩ := hxx
     simp only [Value.agg.injEq, Array.mk.injEq, List.cons.injEq, and_true] at hu
     obtain ⟨rfl, rfl⟩ := hu
     have hHeld := And.intro (hXX.2.1 0 _ rfl) (hXX.2.1 1 _ rfl)
     have xlc := hXX.1
     have rlc := (unhide HTc).rb.1
     clear hXX
     clear hcu4 ho4 hb4
     refine hK.out _ _ (fun _ => hHeld) (fun _ => ?_)
     clear hK K
     (try simp only [sA])
     refine tkL 9 [10, 11, 12, 14] ?_
     refine tkL 10 [11, 12, 14] ?_
     refine tkL 11 [12, 14] ?_
     refine wpAnyL_ready (rs := [12]) (by kernel_rfl) (by simp) ?_
     refine (AllReadyL.cons rfl (fun K hK => ?_) AllReadyL.nil)
     go_simp
     refine (specPlace_any _ n zq zs zc ⟨sp, sat, sw⟩ lg _ (unhide HV0 _ (unhide HTc).but) (unhide HZ0 _ (unhide HTc).but) (by omega) (by have := (unhide HSM).jts; omega) (unhide HSM).hle (unhide HSM).hnm).mono ?_
     rintro e w5 ⟨⟨ok, t, ba, bc, hpa, rfl, hrow5⟩, hb5⟩
     dsimp only
     have hb5' := but_of_below (C := C) hb5
     have hcu5 := (unhide HTc).cur.below hb5
     have HROW5 := hide (hrow5.mono (show R + 1 ≤ _ from (unhide HTc).rb.1))
     have hUR := hrow5.lt
     have hUR2 : ∀ k, (Value.slice ba t.back.length bc).ownBlock = some k → k ≠ wr.heap.size := fun k hk e => by have h1 := (hUR k hk).1; have h2 := hBU.1; omega
     have HTc := hide ((unhide HTc).draw hb5' hcu5 (by omega) (by omega))
     have hBU := hBU.blk (hb5').size ((hb5').block _ hBU.1 (show ¬ wr.heap.size = C by omega))

     have hxx := (unhide HTc).xb
     obtain ⟨u1, u2, hu, hXX⟩ := hxx
     simp only [Value.agg.injEq, Array.mk.injEq, List.cons.injEq, and_true] at hu
     obtain ⟨rfl, rfl⟩ := hu
     have hHeld := And.intro (hXX.2.1 0 _ rfl) (hXX.2.1 1 _ rfl)
     have xlc := hXX.1
     have rlc := (unhide HTc).rb.1
     clear hXX
     have HPA := hide hpa
     clear hpa hrow5 hb5 hb5' hcu5
     refine hK.out _ _ (fun _ => hHeld) (fun _ => ?_)
     clear hK K
     (try simp only [sA])
     refine wpAnyL_ready (rs := [14]) (by kernel_rfl) (by simp) ?_
     refine (AllReadyL.cons rfl (fun K hK => ?_) AllReadyL.nil)
     have u0 := hBU.2.1 0 _ rfl
     have u1 := hBU.2.1 1 _ rfl
     have u2 := hBU.2.1 2 _ rfl
     have u3 := hBU.2.1 3 _ rfl
     have u4 := hBU.2.1 4 _ rfl
     have u5 := hBU.2.1 5 _ rfl
     have uz := hBU.2.2
     have ul := hBU.1
     go_simp
     refine hK.out _ _ (fun h => absurd rfl h) (fun _ => ?_)
     clear hK K
     (try simp only [sA])
     refine wpAnyL_done (by kernel_rfl) ?_ _

     have hBF := ((((((hBU.setI (i := 0) (by simp) (.bool ok)).setI (i := 1) (by simp) (.int .i64 t.front.piece)).setI (i := 2) (by simp) (.int .i64 t.front.at_)).setI (i := 3) (by simp) (.int .i64 t.front.way)).setI (i := 4) (by simp) (.int .i64 t.long)).setI (i := 5) (by simp) (.slice ba t.back.length bc))
     have hOF := ((((((only_setCell (S := fun k => k = wr.heap.size) w5 (p := ⟨wr.heap.size, 0, none⟩) rfl (.bool ok)).trans (only_setCell (S := fun k => k = wr.heap.size) _ (p := ⟨wr.heap.size, 1, none⟩) rfl (.int .i64 t.front.piece))).trans (only_setCell (S := fun k => k = wr.heap.size) _ (p := ⟨wr.heap.size, 2, none⟩) rfl (.int .i64 t.front.at_))).trans (only_setCell (S := fun k => k = wr.heap.size) _ (p := ⟨wr.heap.size, 3, none⟩) rfl (.int .i64 t.front.way))).trans (only_setCell (S := fun k => k = wr.heap.size) _ (p := ⟨wr.heap.size, 4, none⟩) rfl (.int .i64 t.long))).trans (only_setCell (S := fun k => k = wr.heap.size) _ (p := ⟨wr.heap.size, 5, none⟩) rfl (.slice ba t.back.length bc)))
     have HBF := hide hBF
     have HOF := hide hOF
     clear hBF hOF
     go_wp2_with fail
     go_meet
     refine ⟨_, ok, t, ba, bc, rfl, ⟨by omega, by omega⟩, HPA, unhide HBF, ?_, ?_⟩
     ·exact (unhide HROW5).only (unhide HOF) (fun k hk e => hUR2 k hk e)
     ·exact (unhide HTc).only (unhide HOF) (by omega) (by omega) (by omega) (by omega) hBU.1
   case rest =>
    obtain ⟨U, ok, t, ba, bc, rfl, hU, HPA, hBU, HROW, HTU⟩ := hcut
    clear HTR HTRx x0 x1 xl
    have b0 := hBU.2.1 0 _ rfl
    have b1 := hBU.2.1 1 _ rfl
    have b2 := hBU.2.1 2 _ rfl
    have b3 := hBU.2.1 3 _ rfl
    have b4 := hBU.2.1 4 _ rfl
    have b5 := hBU.2.1 5 _ rfl
    have bl := hBU.1
    have hRU : ¬ U = R ∧ ¬ R = U := by omega
    cases ok with
    | false =>
     have HIS2 : Hid (∀ t c', TrnIs bs n zs (4 - (i + 1)) c4 t c' → TrnIs bs n zs 4 c t c') := fun t' c' h => by
      refine unhide HIS t' c' ?_
      rw [show 4 - i = (4 - (i + 1)) + 1 by omega]
      refine .miss (t' := t) ?_ ?_
      ·rw [unhide HTC]; exact unhide HPA
      ·rw [unhide HTC]; exact h
     go_wp2_with fail
     exact ⟨⟨i + 1, c4, rfl, by omega, by omega, HIS2, HTU⟩, by simp [intOf]; omega⟩
    | true =>
     have HTI : Hid (TrnIs bs n zs 4 c t c4) := by
      refine unhide HIS t c4 ?_
      rw [show 4 - i = (3 - i) + 1 by omega]
      have h1 : TrnIs bs n zs (3 - i + 1) c1 t (tryC bs c1 n).2.2 := .hit (by rw [unhide HTC]; exact unhide HPA)
      rw [unhide HTC] at h1
      exact h1
     have hRB := (unhide HTU).rb
     have r0 := hRB.2.1 0 _ rfl
     have r1 := hRB.2.1 1 _ rfl
     have r2 := hRB.2.1 2 _ rfl
     have r3 := hRB.2.1 3 _ rfl
     have r4 := hRB.2.1 4 _ rfl
     have rz := hRB.2.2
     have rl := hRB.1
     have hbf := ((((hRB.setI (i := 0) (by simp) (.int .i64 t.front.piece)).setI (i := 1) (by simp) (.int .i64 t.front.at_)).setI (i := 2) (by simp) (.int .i64 t.front.way)).setI (i := 3) (by simp) (.int .i64 t.long)).setI (i := 4) (by simp) (.slice ba t.back.length bc)
     have HF := hide (And.intro (hbf.2.1 0 _ rfl) (And.intro (hbf.2.1 1 _ rfl) (And.intro (hbf.2.1 2 _ rfl) (And.intro (hbf.2.1 3 _ rfl) (hbf.2.1 4 _ rfl)))))
     have hoR := ((((only_setCell (S := fun k => k = R) wc (p := ⟨R, 0, none⟩) rfl (.int .i64 t.front.piece)).trans (only_setCell (S := fun k => k = R) _ (p := ⟨R, 1, none⟩) rfl (.int .i64 t.front.at_))).trans (only_setCell (S := fun k => k = R) _ (p := ⟨R, 2, none⟩) rfl (.int .i64 t.front.way))).trans (only_setCell (S := fun k => k = R) _ (p := ⟨R, 3, none⟩) rfl (.int .i64 t.long))).trans (only_setCell (S := fun k => k = R) _ (p := ⟨R, 4, none⟩) rfl (.slice ba t.back.length bc))
     have HOR := hide hoR
     clear hbf hoR hRB
     go_wp2_with fail
     obtain ⟨f0, f1, f2, f3, f4⟩ := unhide HF
     refine bodyPost_ret (v := trV t ba bc) (by simp [results, Tryz.results12, go_sem, f0, f1, f2, f3, f4, trV]) rfl ?_
     have hbw := (unhide HTU).but.size
     refine ⟨t, ba, bc, c4, rfl, unhide HTI, ((unhide HROW).only (unhide HOR) (fun k hk (e : k = R) => by have := ((unhide HROW).lt k hk).1; omega)).mono (by omega), ?_, ?_⟩
     ·exact (unhide HTU).cur.of_below (U := C + 1) ((unhide HOR).below (by have := (unhide HTU).cur.lt; omega) (fun k hk (e : k = R) => by omega)) (by omega)
     ·exact (unhide HTU).but.trans (but_only (unhide HOR) (fun k hk (e : k = R) => by omega) hbw)
  ·have hlt' : ¬ (i : Int) < 4 := by omega
   have hi4 : i = 4 := by omega
   subst hi4
   have hsa := spotC_at bs c1 n
   have HLT : Hid (TrnIs bs n zs 4 c ⟨(spotC bs c1 n).1, 1 + (pickC bs (spotC bs c1 n).2 9).1, []⟩ (pickC bs (spotC bs c1 n).2 9).2) := unhide HIS _ _ (.last c1)
   obtain ⟨⟨⟨sp, sat, sw⟩, c2⟩, hs1⟩ : ∃ x, spotC bs c1 n = x := ⟨_, rfl⟩
   rw [hs1] at HLT hsa
   dsimp only at HLT hsa
   have HS1 := hide hs1
   have hr3 := pickC_in bs c2 9
   obtain ⟨r3, hr3'⟩ : ∃ r, (pickC bs c2 9).1 = r := ⟨_, rfl⟩
   obtain ⟨c3, hc3⟩ : ∃ c3, (pickC bs c2 9).2 = c3 := ⟨_, rfl⟩
   rw [hr3', hc3] at HLT
   rw [hr3'] at hr3
   have HR3 := hide (And.intro hr3' hc3)
   clear hs1 hr3' hc3
   have hw1 : IntKind.i64.wrap (1 + r3) = 1 + r3 := wrap_small (by omega) (by omega)
   obtain ⟨u1, u2, hu, hX0⟩ := (unhide HTR).xb
   simp only [Value.agg.injEq, Array.mk.injEq, List.cons.injEq, and_true] at hu
   obtain ⟨rfl, rfl⟩ := hu
   have x0 := hX0.2.1 0 _ rfl
   have x1 := hX0.2.1 1 _ rfl
   have xl := hX0.1
   clear hX0
   go_wp2_with fail
   refine (spot_any C bs c1 _ n _ (unhide HTR).cur hbs (by omega) ((unhide HV0).on (unhide HTR).but) hpl (unhide HSM).lens).mono ?_
   rw [unhide HS1]
   rintro e w2 ⟨rfl, hcu2, hb2⟩
   dsimp only [spV]
   dsimp only at hcu2
   have HT2 := hide ((unhide HTR).draw hb2 hcu2 (by omega) (by omega))
   clear hcu2 hb2 x0 x1 xl
   go_wp2_with fail
   refine (pick_any C bs c2 9 _ (unhide HT2).cur hbs (by omega) (by omega)).mono ?_
   rw [(unhide HR3).1, (unhide HR3).2]
   rintro e w3 ⟨rfl, hcu3, ho3⟩
   have HTU := hide ((unhide HT2).draw (but_of_only ho3) hcu3 (by omega) (by omega))
   clear hcu3 ho3
   have HTI : Hid (TrnIs bs n zs 4 c ⟨⟨sp, sat, sw⟩, 1 + r3, []⟩ c3) := unhide HLT
   have HROW : Hid (StRow w3 (R + 1) (.slice none ([] : List St).length 0) []) := Row.nil _ _ _ _ _

   have hRB := (unhide HTU).rb
   have r0 := hRB.2.1 0 _ rfl
   have r1 := hRB.2.1 1 _ rfl
   have r2 := hRB.2.1 2 _ rfl
   have rr3 := hRB.2.1 3 _ rfl
   have r4 := hRB.2.1 4 _ rfl
   have rz := hRB.2.2
   have rl := hRB.1
   have hbf := ((((hRB.setI (i := 0) (by simp) (.int .i64 sp)).setI (i := 1) (by simp) (.int .i64 sat)).setI (i := 2) (by simp) (.int .i64 sw)).setI (i := 3) (by simp) (.int .i64 (1 + r3))).setI (i := 4) (by simp) (.slice none 0 0)
   have HF := hide (And.intro (hbf.2.1 0 _ rfl) (And.intro (hbf.2.1 1 _ rfl) (And.intro (hbf.2.1 2 _ rfl) (And.intro (hbf.2.1 3 _ rfl) (hbf.2.1 4 _ rfl)))))
   have hoR := ((((only_setCell (S := fun k => k = R) w3 (p := ⟨R, 0, none⟩) rfl (.int .i64 sp)).trans (only_setCell (S := fun k => k = R) _ (p := ⟨R, 1, none⟩) rfl (.int .i64 sat))).trans (only_setCell (S := fun k => k = R) _ (p := ⟨R, 2, none⟩) rfl (.int .i64 sw))).trans (only_setCell (S := fun k => k = R) _ (p := ⟨R, 3, none⟩) rfl (.int .i64 (1 + r3)))).trans (only_setCell (S := fun k => k = R) _ (p := ⟨R, 4, none⟩) rfl (.slice none 0 0))
   have HOR := hide hoR
   clear hbf hoR hRB
   go_wp2_with fail
   obtain ⟨f0, f1, f2, f3, f4⟩ := unhide HF
   refine bodyPost_ret (v := trV ⟨⟨sp, sat, sw⟩, 1 + r3, []⟩ none 0) (by simp [results, Tryz.results12, go_sem, f0, f1, f2, f3, f4, trV]) rfl ?_
   have hbw := (unhide HTU).but.size
   refine ⟨⟨⟨sp, sat, sw⟩, 1 + r3, []⟩, none, 0, c3, rfl, unhide HTI, ((unhide HROW).only (unhide HOR) (fun k hk (e : k = R) => by have := ((unhide HROW).lt k hk).1; omega)).mono (by omega), ?_, ?_⟩
   ·exact (unhide HTU).cur.of_below (U := C + 1) ((unhide HOR).below (by have := (unhide HTU).cur.lt; omega) (fun k hk (e : k = R) => by omega)) (by omega)
   ·exact (unhide HTU).but.trans (but_only (unhide HOR) (fun k hk (e : k = R) => by omega) hbw)
end Go.Proofs.YtjacbppeebnjfaaGreat

namespace Go.Proofs.YtjacbppeebnjfaaGreat
open Go.RowKit

theorem nameC_size (i : Nat) : (nameC i).size ≤ i + 2 := by
 have := decS_size i
 unfold nameC
 rw [ByteArray.size_append, strOne]
 omega
def PcsSm (ps : List Pc) : Prop := ∀ p ∈ ps, p.name.size ≤ 1000 ∧ 0 ≤ p.len ∧ p.len ≤ 1000
def JtsSm (js : List Jt) : Prop := ∀ j ∈ js, j.ends.length ≤ 1000 ∧ j.name.size ≤ 1000
theorem PcsSm.snoc {ps : List Pc} {p : Pc} (h : PcsSm ps) (hp : p.name.size ≤ 1000 ∧ 0 ≤ p.len ∧ p.len ≤ 1000) : PcsSm (ps ++ [p]) := by
 intro q hq
 rcases List.mem_append.1 hq with hq | hq
 ·exact h q hq
 ·simp at hq
  subst hq
  exact hp
theorem JtsSm.snoc {js : List Jt} {j : Jt} (h : JtsSm js) (hp : j.ends.length ≤ 1000 ∧ j.name.size ≤ 1000) : JtsSm (js ++ [j]) := by
 intro q hq
 rcases List.mem_append.1 hq with hq | hq
 ·exact h q hq
 ·simp at hq
  subst hq
  exact hp
theorem pieceC_sm (bs : List Int) (c : Cu) (n : Nt) (h : PcsSm n.pieces) (hl : n.pieces.length ≤ 900) : PcsSm (pieceC bs c n).1.pieces := by
 have h1 := nameC_size n.pieces.length
 have h2 := wideC_in bs c (show (0 : Int) < 300 by omega)
 exact h.snoc ⟨by dsimp only; omega, by dsimp only; omega, by dsimp only; omega⟩
theorem three_sm (bs : List Int) (c : Cu) (n : Nt) (h : PcsSm n.pieces) (hl : n.pieces.length ≤ 800) : PcsSm (three bs c n).1.pieces ∧ (three bs c n).1.pieces.length = n.pieces.length + 3 := by
 have l1 := pieceC_len bs c n
 have l2 := pieceC_len bs (pieceC bs c n).2 (pieceC bs c n).1
 have l3 := pieceC_len bs (pieceC bs (pieceC bs c n).2 (pieceC bs c n).1).2 (pieceC bs (pieceC bs c n).2 (pieceC bs c n).1).1
 have h1 := pieceC_sm bs c n h (by omega)
 have h2 := pieceC_sm bs (pieceC bs c n).2 (pieceC bs c n).1 h1 (by omega)
 have h3 := pieceC_sm bs (pieceC bs (pieceC bs c n).2 (pieceC bs c n).1).2 (pieceC bs (pieceC bs c n).2 (pieceC bs c n).1).1 h2 (by omega)
 exact ⟨h3, by unfold three; omega⟩
theorem stationGo_sm (bs : List Int) : ∀ (k p : Nat) (n : Nt) (c : Cu), n.pieces.length + 3 * k ≤ 100 → n.joints.length + 2 * k ≤ 100 → PcsSm n.pieces → JtsSm n.joints →
  PcsSm (stationGo bs k p n c).2.1.pieces ∧ JtsSm (stationGo bs k p n c).2.1.joints ∧ (stationGo bs k p n c).2.1.pieces.length ≤ 100 ∧ (stationGo bs k p n c).2.1.joints.length ≤ 100 := by
 intro k
 induction k with
 | zero => intro p n c h1 h2 h3 h4; exact ⟨h3, h4, by simp only [stationGo]; omega, by simp only [stationGo]; omega⟩
 | succ k ih =>
  intro p n c h1 h2 h3 h4
  unfold stationGo
  obtain ⟨hs, hsl⟩ := three_sm bs c n h3 (by omega)
  have n1 := nameC_size (100 + n.joints.length)
  have n2 := nameC_size (100 + (n.joints.length + 1))
  refine ih _ _ _ ?_ ?_ hs ?_
  ·show (three bs c n).1.pieces.length + 3 * k ≤ 100
   omega
  ·simp only [List.length_append, List.length_singleton]
   omega
  ·exact (h4.snoc (j := swA n.joints.length p n.pieces.length (n.pieces.length + 1)) ⟨by simp [swA], by show (nameC (100 + n.joints.length)).size ≤ 1000; omega⟩).snoc (j := swB (n.joints.length + 1) (n.pieces.length + 2) n.pieces.length (n.pieces.length + 1)) ⟨by simp [swB], by show (nameC (100 + (n.joints.length + 1))).size ≤ 1000; omega⟩
theorem endJ_sm (p s : Nat) : (endJ p s).ends.length ≤ 1000 ∧ (endJ p s).name.size ≤ 1000 := ⟨by simp [endJ], by show (⟨#[]⟩ : ByteArray).size ≤ 1000; simp [ByteArray.size]⟩
def NtSm (n : Nt) : Prop := PcsSm n.pieces ∧ JtsSm n.joints ∧ n.pieces.length ≤ 1000 ∧ n.joints.length ≤ 1000
theorem small_of {n : Nt} (h : NtSm n) : NtSmall n :=
 have ⟨h1, h2, h3, h4⟩ := h
 ⟨by omega, by omega, fun i hi => by have := h2 _ (List.getElem_mem hi); omega, fun i hi => by have := h1 _ (List.getElem_mem hi); omega, fun i hi => by have := h1 _ (List.getElem_mem hi); omega⟩
theorem stationC_sm (bs : List Int) (c : Cu) : NtSm (stationC bs c).1 := by
 have h0 := pickC_in bs c 3
 have h1 : PcsSm (station1 bs c).1.pieces := pieceC_sm bs (pickC bs c 3).2 ⟨[], []⟩ (fun p hp => by cases hp) (by simp)
 have l1 : (station1 bs c).1.pieces.length = 1 := pieceC_len bs (pickC bs c 3).2 ⟨[], []⟩
 have h2 : JtsSm (station1 bs c).1.joints := JtsSm.snoc (js := []) (fun p hp => by cases hp) (endJ_sm 0 0)
 have l2 : (station1 bs c).1.joints.length = 1 := rfl
 obtain ⟨g1, g2, g3, g4⟩ := stationGo_sm bs (1 + (pickC bs c 3).1).toNat 0 (station1 bs c).1 (station1 bs c).2 (by omega) (by omega) h1 h2
 refine ⟨g1, g2.snoc (endJ_sm _ _), (by show List.length (stationGo bs (1 + (pickC bs c 3).1).toNat 0 (station1 bs c).1 (station1 bs c).2).2.1.pieces ≤ 1000; omega), ?_⟩
 show List.length ((stationGo bs (1 + (pickC bs c 3).1).toNat 0 (station1 bs c).1 (station1 bs c).2).2.1.joints ++ [_]) ≤ 1000
 rw [List.length_append, List.length_singleton]
 omega
theorem netGo1_sm (bs : List Int) : ∀ (k : Nat) (ps : List Pc) (es : List Ed) (c : Cu), ps.length + k ≤ 100 → PcsSm ps → PcsSm (netGo1 bs k ps es c).1 := by
 intro k
 induction k with
 | zero => intro ps es c _ h; exact h
 | succ k ih =>
  intro ps es c hl h
  unfold netGo1
  refine ih _ _ _ (by rw [List.length_append, List.length_singleton]; omega) (h.snoc ?_)
  have h1 := nameC_size ps.length
  have h2 := wideC_in bs c (show (0 : Int) < 300 by omega)
  unfold netP
  dsimp only
  exact ⟨by omega, by omega, by omega⟩
theorem netGo3_sm (bs : List Int) : ∀ (f : Nat) (js : List Jt) (es : List Ed) (c : Cu), js.length + f ≤ 100 → es.length ≤ 100 → JtsSm js → JtsSm (netGo3 bs f js es c).1 := by
 intro f
 induction f with
 | zero => intro js es c _ _ h; exact h
 | succ f ih =>
  intro js es c hl he h
  unfold netGo3
  split
  ·exact h
  ·refine ih _ _ _ (by rw [List.length_append, List.length_singleton]; omega) (by rw [List.length_drop]; omega) (h.snoc ⟨?_, ?_⟩)
   ·simp only [netJ, List.length_take]
    omega
   ·have h1 := nameC_size (100 + js.length)
    unfold netJ
    dsimp only
    split
    ·omega
    ·simp [ByteArray.size]
theorem netC_sm (bs : List Int) (c : Cu) : NtSm (netC bs c).1 := by
 have h0 := pickC_in bs c 9
 have l1 := netGo1_len bs (1 + (pickC bs c 9).1).toNat [] [] (pickC bs c 9).2
 have l2 := netGo2_len bs ((net1 bs c).2.1.length - 1) (net1 bs c).2.1 (net1 bs c).2.2
 have l3 := (netGo3_at bs (net2 bs c).1.length [] (net2 bs c).1 (net2 bs c).2).2
 change (net1 bs c).1.length = _ ∧ (net1 bs c).2.1.length = _ at l1
 change (net2 bs c).1.length = _ at l2
 change (net3 bs c).1.length ≤ _ at l3
 simp only [List.length_nil] at l1 l3
 have p1 : PcsSm (net1 bs c).1 := netGo1_sm bs (1 + (pickC bs c 9).1).toNat [] [] (pickC bs c 9).2 (by simp only [List.length_nil]; omega) (fun p hp => by cases hp)
 have p2 : JtsSm (net3 bs c).1 := netGo3_sm bs (net2 bs c).1.length [] (net2 bs c).1 (net2 bs c).2 (by simp only [List.length_nil]; omega) (by omega) (fun p hp => by cases hp)
 exact ⟨p1, p2, (show (net1 bs c).1.length ≤ 1000 by omega), (show (net3 bs c).1.length ≤ 1000 by omega)⟩
theorem trackC_s4 (bs : List Int) (c : Cu) : NtSm (trackC bs c).1 := by
 unfold trackC
 split
 ·exact stationC_sm _ _
 ·exact netC_sm _ _
theorem trackC_sm (bs : List Int) (c : Cu) : NtSmall (trackC bs c).1 := small_of (trackC_s4 bs c)
end Go.Proofs.YtjacbppeebnjfaaGreat

set_option linter.unusedSimpArgs false
namespace Go.Proofs.YtjacbppeebnjfaaGreat
open Go.RowKit

def poF (p : Int × Int) : List Value := [.int .i64 p.1, .int .i64 p.2]
abbrev PoRow (w : World) (base : Nat) (v : Value) (ps : List (Int × Int)) : Prop := Row w base 94 2 poF v ps
theorem info_Post : (Tryz.prog.info? 94).map (fun i => (i.zero, i.size, i.bytes)) = some (some (.agg #[.int .i64 0, .int .i64 0]), 2, 16) := by kernel_rfl
theorem po_one (x : Int × Int) : ∀ u ∈ poF x, u.oneCell' = true := by
 intro u hu
 simp [poF] at hu
 rcases hu with rfl | rfl <;> rfl
structure PoW (C X : Nat) (bs : List Int) (w0 : World) (a : Option Addr) (n : Nt) (ca : Nat) (c : Cu) (u : Value) (ps : List (Int × Int)) (w : World) : Prop where
 cur : CurAt w C bs c
 xb : ∃ b2, Boxed w X [.slice a n.pieces.length ca, b2]
 row : PoRow w (X + 1) u ps
 but : But (fun k => k = C) w0.heap.size w0 w
theorem PoW.draw {C X : Nat} {bs : List Int} {w0 w w' : World} {a : Option Addr} {n : Nt} {ca : Nat} {c c' : Cu} {u : Value} {ps : List (Int × Int)} (h : PoW C X bs w0 a n ca c u ps w) (ho : Only (fun k => k = C) w w') (hc : CurAt w' C bs c') (hX : C < X) : PoW C X bs w0 a n ca c' u ps w' := by
 obtain ⟨b2, hb⟩ := h.xb
 exact ⟨hc, ⟨b2, hb.onlyS ho (show ¬ X = C by omega)⟩, h.row.only ho (fun k hk (e : k = C) => by have := (h.row.lt k hk).1; omega), but_draw h.but ho⟩
theorem PoW.below {C X : Nat} {bs : List Int} {w0 w w' : World} {a : Option Addr} {n : Nt} {ca : Nat} {c : Cu} {u : Value} {ps : List (Int × Int)} (h : PoW C X bs w0 a n ca c u ps w) (hb : Below w.heap.size w w') : PoW C X bs w0 a n ca c u ps w' := by
 obtain ⟨b2, hx⟩ := h.xb
 exact ⟨h.cur.below hb, ⟨b2, hx.below hb⟩, h.row.below hb, but_below' h.but hb⟩
theorem PoW.add {C X : Nat} {bs : List Int} {w0 w w' : World} {a : Option Addr} {n : Nt} {ca : Nat} {c : Cu} {u u' : Value} {ps ps' : List (Int × Int)} (h : PoW C X bs w0 a n ca c u ps w) (hg : w.grownBy w' u.ownBlock) (hrow : PoRow w' (X + 1) u' ps') (hX : w0.heap.size ≤ X) (hCX : C < X) (hXw : X < w.heap.size) : PoW C X bs w0 a n ca c u' ps' w' := by
 obtain ⟨b2, hx⟩ := h.xb
 have hne : ∀ k, u.ownBlock = some k → X + 1 ≤ k := fun k hk => (h.row.lt k hk).1
 have hb : Below (X + 1) w w' := Below.grown (Below.refl (X + 1) w) hg (by omega) hne
 exact ⟨h.cur.of_below hb (by omega), ⟨b2, hx.grownE hg (fun hc => by have := hne _ hc; omega)⟩, hrow, h.but.trans (but_below hb (by omega))⟩
def RetPo (C : Nat) (bs : List Int) (c : Cu) (w : World) (e : Ending) (w' : World) : Prop :=
 ∃ u ps c', e = .returned u ∧ PoRow w' w.heap.size u ps ∧ ps.length ≤ 6 ∧ CurAt w' C bs c' ∧ c'.at_ ≤ c.at_ + 40 ∧ But (fun k => k = C) w.heap.size w w'

set_option maxRecDepth 100000 in
set_option maxHeartbeats 8000000 in
theorem posts_any (C : Nat) (bs : List Int) (c : Cu) (v : Value) (n : Nt) (w : World) (hcu : CurAt w C bs c) (hbs : BytesIn bs) (ha : c.at_ ≤ 1000000) (hv : NetK C w v n) (hl : n.pieces.length ≤ 1000000) (hlen : LensOk n) :
  Calls Tryz.prog 15 #[.pointer (some ⟨C, 0, none⟩), v] w (RetPo C bs c w) := by
 have hCl := hcu.lt
 have HNK := hide hv
 obtain ⟨a, a2, ca, cc, rfl, _, _⟩ := hv.now
 obtain ⟨i1, hj1, hy0, hy1, hy2⟩ := info_parts info_Post
 have HLEN := hide hlen
 have hpi := pickC_in bs c 6
 have hpa := pickC_at bs c 6
 have HS0 : Hid (PoW C w.heap.size bs w a n ca c (.slice none 0 0) [] (w.alloc (.cells #[.slice a n.pieces.length ca, .slice a2 n.joints.length cc] 26))) := ⟨hcu.below bw0, ⟨_, boxed_alloc w #[.slice a n.pieces.length ca, .slice a2 n.joints.length cc] 26⟩, Row.nil _ _ _ _ _, but_of_below bw0⟩
 clear hlen hcu hv
 obtain ⟨m, hm⟩ : ∃ m, n.pieces.length = m := ⟨_, rfl⟩
 rw [hm] at hl
 have HM := hide hm
 clear hm
 go_enter Tryz.func15, Tryz.ntmps15
 go_wp2_with fail
 refine (pick_any C bs c 6 _ (unhide HS0).cur hbs (by omega) (by omega)).mono ?_
 rintro e w1 ⟨rfl, hcu1, ho1⟩
 have HS1 := hide ((unhide HS0).draw ho1 hcu1 (by omega))
 clear hcu1 ho1 HS0
 obtain ⟨k0, hk0⟩ : ∃ k0 : Nat, (pickC bs c 6).1 = k0 := ⟨(pickC bs c 6).1.toNat, by omega⟩
 obtain ⟨c1, hc1⟩ : ∃ c1, (pickC bs c 6).2 = c1 := ⟨_, rfl⟩
 rw [hk0] at hpi ⊢
 rw [hc1] at hpa HS1
 clear hk0 hc1
 obtain ⟨X, hX⟩ : ∃ X, w.heap.size = X := ⟨_, rfl⟩
 have hX' : w.heap.size ≤ X ∧ X ≤ w.heap.size := by omega
 rw [hX] at HS1 hCl ⊢
 clear hX
 go_wp2_with fail
 go_loopw [5, 6] (fun y z wr => ∃ (k : Nat) (ps : List (Int × Int)) (c2 : Cu), z = .int .i64 k ∧ k + ps.length ≤ 6 ∧ c2.at_ + 4 * k ≤ c.at_ + 26 ∧ Hid (PoW C X bs w a n ca c2 y ps wr)) (fun _ z _ => (intOf z).toNat)
 case atStart => exact ⟨k0, [], c1, rfl, by simp; omega, by omega, HS1⟩
 case round =>
  clear HS1
  obtain ⟨k, ps, c2, rfl, hkb, hat, HSR⟩ := hrel
  obtain ⟨b2, hXb⟩ := (unhide HSR).xb
  rw [unhide HM] at hXb
  have x0 := hXb.2.1 0 _ rfl
  have xl := hXb.1
  clear hXb
  by_cases hkp : 0 < k
  ·have hkp' : (0 : Int) < (k : Int) := by omega
   have hkw : IntKind.i64.wrap ((k : Int) - 1) = ((k - 1 : Nat) : Int) := (wrap_small (by omega) (by omega)).trans (by omega)
   by_cases hmp : 0 < m
   ·have hmp' : (0 : Int) < (m : Int) := by omega
    have hqi := pickC_in bs c2 m
    have hqa := pickC_at bs c2 m
    obtain ⟨p, hpp⟩ : ∃ p : Nat, (pickC bs c2 m).1 = p := ⟨(pickC bs c2 m).1.toNat, by omega⟩
    obtain ⟨c3, hc3⟩ : ∃ c3, (pickC bs c2 m).2 = c3 := ⟨_, rfl⟩
    rw [hpp] at hqi
    rw [hc3] at hqa
    have HP := hide (And.intro hpp hc3)
    clear hpp hc3
    have hpm : p < m := by omega
    have hpm' : (p : Int) < (m : Int) := by omega
    go_wp2_with fail
    refine (pick_any C bs c2 m _ (unhide HSR).cur hbs (by omega) (by omega)).mono ?_
    rw [(unhide HP).1, (unhide HP).2]
    rintro e wA ⟨rfl, hcuA, hoA⟩
    have HSA := hide ((unhide HSR).draw hoA hcuA (by omega))
    clear hcuA hoA HSR x0 xl
    obtain ⟨q, hq⟩ : ∃ q, lenOf n p = q := ⟨_, rfl⟩
    have hqb : -100000000 ≤ q ∧ q ≤ 100000000 := by rw [← hq]; exact (unhide HLEN).lenOf p
    obtain ⟨pb, poff, hae, hpb, c1w⟩ := (unhide HNK wA (unhide HSA).but).pcs.len (n := n) (p := p) (by omega) (by rw [unhide HM]; omega)
    rw [hq, Int.toNat_natCast] at c1w
    clear hq
    obtain ⟨b2, hXb⟩ := (unhide HSA).xb
    rw [unhide HM] at hXb
    have x0 := hXb.2.1 0 _ rfl
    have xl := hXb.1
    rw [hae] at x0
    have HAE := hide hae
    clear hXb hae
    by_cases h2 : q < 2
    ·go_wp2_with fail
     exact ⟨⟨k - 1, ps, c3, rfl, by omega, by omega, HSA⟩, by simp [intOf]; omega⟩
    ·have h2' : ¬ q < 2 := h2
     by_cases h7 : 10000000 < q
     ·go_wp2_with fail
      exact ⟨⟨k - 1, ps, c3, rfl, by omega, by omega, HSA⟩, by simp [intOf]; omega⟩
     ·have hw1 : IntKind.i64.wrap (q - 1) = q - 1 := wrap_small (by omega) (by omega)
      have hri := wideC_in bs c3 (show (0 : Int) < q - 1 by omega)
      have hra := wideC_at bs c3 (q - 1)
      obtain ⟨r, hr⟩ : ∃ r, (wideC bs c3 (q - 1)).1 = r := ⟨_, rfl⟩
      obtain ⟨c4, hc4⟩ : ∃ c4, (wideC bs c3 (q - 1)).2 = c4 := ⟨_, rfl⟩
      rw [hr] at hri
      rw [hc4] at hra
      have HR := hide (And.intro hr hc4)
      clear hr hc4
      have hw2 : IntKind.i64.wrap (1 + r) = 1 + r := wrap_small (by omega) (by omega)
      go_wp2_with fail
      refine (wide_any C bs c3 (q - 1) _ (unhide HSA).cur hbs (by omega) ⟨by omega, by omega⟩).mono ?_
      rw [(unhide HR).1, (unhide HR).2]
      rintro e wB ⟨rfl, hcuB, hoB⟩
      have HSB := hide ((unhide HSA).draw hoB hcuB (by omega))
      have hsB : X < wB.heap.size := by have := hoB.size; omega
      clear hcuB hoB x0 xl c1w HSA
      go_wp2_with (at_builtin; refine wpList_append_own _ rfl (.tmp 41) (.tmp 54) 36 rfl (X + 1) 94 i1 (.agg #[.int .i64 0, .int .i64 0]) 2 16 Tryz.underlying36 hj1 hy0 hy1 hy2 rfl (by decide) _ _ _ rfl ((unhide HSB).row.below bw0) ⟨wB.heap.size, 0, none⟩ 1 1 (poF (p, 1 + r)) rfl rfl ?c1 (po_one _) ?c2 ?c3 ?c4 ?_)
      case c1 => (first | exact fun _ _ h => h | exact box_news (boxedN _ _ _ (by first | rfl | simp)))
      case c2 => unfold maxLen; omega
      case c3 => omega
      case c4 => (first | omega | (simp; omega))
      intro u' w9 hown9 hgrow9 _
      have hrow9 : PoRow w9 (X + 1) u' (ps ++ [((p : Int), 1 + r)]) := Row.snoc (f := poF) hown9
      have HS9 := hide (((unhide HSB).below (bw0 : Below _ _ (wB.alloc (.cells #[.int .i64 p, .int .i64 (1 + r)] 94)))).add hgrow9 hrow9 (by omega) (by omega) (by simp; omega))
      clear hown9 hgrow9 hrow9
      go_wp2_with fail
      exact ⟨⟨k - 1, _, c4, rfl, by rw [List.length_append, List.length_singleton]; omega, by omega, HS9⟩, by simp [intOf]; omega⟩
   ·have hmp' : ¬ (0 : Int) < (m : Int) := by omega
    go_wp2_with fail
    go_ret
    exact ⟨_, ps, c2, rfl, (unhide HSR).row.mono (by omega), by omega, (unhide HSR).cur, by omega, (unhide HSR).but⟩
  ·have hkp' : ¬ (0 : Int) < (k : Int) := by omega
   go_wp2_with fail
   go_ret
   exact ⟨_, ps, c2, rfl, (unhide HSR).row.mono (by omega), by omega, (unhide HSR).cur, by omega, (unhide HSR).but⟩
end Go.Proofs.YtjacbppeebnjfaaGreat

